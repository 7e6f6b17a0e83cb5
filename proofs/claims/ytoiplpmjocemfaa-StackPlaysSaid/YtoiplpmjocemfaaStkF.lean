/- Stacks: Find through a function; the document's own Push, Pop, Cut, Find. -/
import Derived.Test.YtoiplpmjocemfaaStkE
import Derived.Laws.AppendOwnNone
namespace Go.Proofs.Ytoiplpmjocemfaa
open Go.ChangeShapes Go.WideShapes Go.ChangeAt Go.RowKit
set_option linter.unusedVariables false

theorem findV_hit {xs : List Int} {x : Int} {q : Nat} (h : xs[q]? = some x) : findV xs x (q + 1) = (((q : Nat) : Int), true) := by rw [findV, if_pos h]
theorem findV_miss {xs : List Int} {x : Int} {q : Nat} (h : xs[q]? ≠ some x) : findV xs x (q + 1) = findV xs x q := by rw [findV, if_neg h]
theorem ret_find {a c : Int} {b d : Bool} (h : (a, b) = (c, d)) : Ending.returned (.tuple #[.int .i64 a, .bool b]) = .returned (.tuple #[.int .i64 c, .bool d]) := by injection h with h1 h2; rw [h1, h2]

set_option maxRecDepth 100000 in
set_option maxHeartbeats 2000000 in
theorem find_u (F : Nat) (caps : Array Value) (w : World) (p : Nat) (room X : Int) (xs : List Int) (h : Stk w p room xs) (hb : xs.length < 1099511627776)
    (kn : ∀ w : World, (binOp .eql 28 (.func (.func F) #[] caps) .nilFunc).run Try.prog w = .ok (.bool false) w)
    (hcf : ∀ args w, (callFunc F args).run Try.prog w = .ok (.enter F args) w)
    (hcl : ∀ y, Calls Try.prog F (#[.int .i64 y] ++ caps) w fun e w' => e = .returned (.bool (decide (y = X))) ∧ w = w') :
    Calls Try.prog 23 #[.pointer (some ⟨p, 0, none⟩), .func (.func F) #[] caps] w fun e w' => e = .returned (.tuple #[.int .i64 (findV xs X xs.length).1, .bool (findV xs X xs.length).2]) ∧ w = w' := by
  obtain ⟨A, c, hc, hs, hnc, hcm⟩ := h.sees
  obtain ⟨n, hn⟩ : ∃ n, xs.length = n := ⟨_, rfl⟩
  rw [hn] at hc hb hnc ⊢
  have HN := Lib.hid hn
  have HC := Lib.hid hcl
  have HS := Lib.hid hs
  have c0 : w.cell? ⟨p, 0 + 1, none⟩ = some (.slice A n c) := hc
  obtain ⟨r, hr⟩ : ∃ r, findV xs X n = r := ⟨_, rfl⟩
  have HR := Lib.hid hr
  rw [hr]
  clear hn hcl hs hr
  go_enter Try.func23, Try.ntmps23
  go_wp2_with fail
  go_loop [6] (fun i => ∃ q : Nat, q ≤ n ∧ i = .int .i64 ((q : Int) - 1) ∧ Hid (findV xs X q = r)) (fun i => (intOf i + 1).toNat)
  case atStart => exact ⟨n, Nat.le_refl _, rfl, HR⟩
  case round =>
    obtain ⟨q, hq, rfl, HQ⟩ := hrel
    cases q with
    | zero =>
      go_wp2_with fail
      go_ret2
      exact ⟨ret_find (by rw [← HQ.out]; rfl), rfl⟩
    | succ q =>
      have hql : q < xs.length := by rw [HN.out]; omega
      obtain ⟨ad, y, rfl, _, hcell, hy⟩ := HS.out.num2 hql
      have HY := Lib.hid hy
      have e0 : ((q + 1 : Nat) : Int) - 1 = (q : Int) := by omega
      have hqn : q < n := by omega
      have h1 := HC.out y
      rw [e0]
      clear hy e0 hql
      by_cases hyx : y = X
      · rw [decide_eq_true hyx] at h1
        have H1 := Lib.hid h1
        have HE := Lib.hid (findV_hit (show xs[q]? = some X by rw [← hyx]; exact HY.out))
        clear h1 hyx
        go_wp2_with fail
        refine H1.out.mono ?_
        rintro e w' ⟨rfl, rfl⟩
        go_wp2_with fail
        go_ret2
        exact ⟨ret_find (by rw [← HQ.out, HE.out]), rfl⟩
      · rw [decide_eq_false hyx] at h1
        have H1 := Lib.hid h1
        have HE := Lib.hid (findV_miss (show xs[q]? ≠ some X by rw [HY.out]; simpa using hyx))
        clear h1 hyx
        go_wp2_with fail
        refine H1.out.mono ?_
        rintro e w' ⟨rfl, rfl⟩
        go_wp2_with fail
        go_round
        case rel => exact ⟨q, by omega, by go_num, by unfold Hid; rw [← HE.out]; exact HQ.out⟩
        case measure => simp [intOf]

set_option maxRecDepth 100000 in
set_option maxHeartbeats 1000000 in
theorem rfind_u (w : World) (A : Option Addr) (n c : Nat) (X : Int) (xs : List Int) (hn : xs.length = n) (hb : n < 1099511627776) (hs : Sees w A (vK xs)) :
    Calls Try.prog 25 #[.slice A n c, .int .i64 X] w fun e w' => e = .returned (.tuple #[.int .i64 (findV xs X n).1, .bool (findV xs X n).2]) ∧ w = w' := by
  have HN := Lib.hid hn
  have HS := Lib.hid hs
  obtain ⟨r, hr⟩ : ∃ r, findV xs X n = r := ⟨_, rfl⟩
  have HR := Lib.hid hr
  rw [hr]
  clear hn hs hr
  go_enter Try.func25, Try.ntmps25
  go_wp2_with fail
  go_loop [6] (fun i => ∃ q : Nat, q ≤ n ∧ i = .int .i64 ((q : Int) - 1) ∧ Hid (findV xs X q = r)) (fun i => (intOf i + 1).toNat)
  case atStart => exact ⟨n, Nat.le_refl _, rfl, HR⟩
  case round =>
    obtain ⟨q, hq, rfl, HQ⟩ := hrel
    cases q with
    | zero =>
      go_wp2_with fail
      go_ret2
      exact ⟨ret_find (by rw [← HQ.out]; rfl), rfl⟩
    | succ q =>
      have hql : q < xs.length := by rw [HN.out]; omega
      obtain ⟨ad, y, rfl, _, hcell, hy⟩ := HS.out.num2 hql
      have HY := Lib.hid hy
      have e0 : ((q + 1 : Nat) : Int) - 1 = (q : Int) := by omega
      have hqn : q < n := by omega
      rw [e0]
      clear hy e0 hql
      by_cases hyx : y = X
      · have ht : (y == X) = true := by simpa using hyx
        have HE := Lib.hid (findV_hit (show xs[q]? = some X by rw [← hyx]; exact HY.out))
        clear hyx
        go_wp2_with fail
        go_ret2
        exact ⟨ret_find (by rw [← HQ.out, HE.out]), rfl⟩
      · have ht : (y == X) = false := by simpa using hyx
        have HE := Lib.hid (findV_miss (show xs[q]? ≠ some X by rw [HY.out]; simpa using hyx))
        clear hyx
        go_wp2_with fail
        go_round
        case rel => exact ⟨q, by omega, by go_num, by unfold Hid; rw [← HE.out]; exact HQ.out⟩
        case measure => simp [intOf]

theorem ris12_any (room : Int) (w : World) : Calls Try.prog 14 #[.int .i64 room] w fun e w' => e = .returned (.bool (decide (0 ≤ room ∧ room ≤ 1099511627776))) ∧ w = w' := by
  by_cases h0 : 0 ≤ room
  · by_cases h1 : room ≤ 1099511627776
    · rw [decide_eq_true ⟨h0, h1⟩]
      go_enter Try.func14, Try.ntmps14
      go_wp2_with fail
      go_ret
      exact ⟨rfl, rfl⟩
    · rw [decide_eq_false (fun h => h1 h.2)]
      go_enter Try.func14, Try.ntmps14
      go_wp2_with fail
      go_ret
      exact ⟨rfl, rfl⟩
  · rw [decide_eq_false (fun h => h0 h.1)]
    go_enter Try.func14, Try.ntmps14
    go_wp2_with fail
    go_ret
    exact ⟨rfl, rfl⟩

set_option maxRecDepth 100000 in
set_option maxHeartbeats 1000000 in
theorem rcut_u (w : World) (A : Option Addr) (n c : Nat) (k : Int) (xs : List Int) (hn : xs.length = n) (hnc : n ≤ c) (hb : n < 1099511627776) (hcm : c ≤ 9223372036854775807) :
    Calls Try.prog 20 #[.slice A n c, .int .i64 k] w fun e w' => e = .returned (.slice A (cutN xs k) c) ∧ w = w' := by
  have HE := Lib.hid (show cutN xs k = min k.toNat n by unfold cutN; rw [hn])
  clear hn
  by_cases h0 : k < 0
  · have e : min k.toNat n = 0 := by omega
    rw [HE.out, e]
    clear e
    go_enter Try.func20, Try.ntmps20
    go_wp2_with fail
    go_ret
    exact ⟨rfl, rfl⟩
  · obtain ⟨q, rfl⟩ : ∃ q : Nat, k = q := ⟨k.toNat, by omega⟩
    by_cases h1 : n < q
    · have e : min ((q : Int)).toNat n = n := by omega
      rw [HE.out, e]
      clear e
      go_enter Try.func20, Try.ntmps20
      go_wp2_with fail
      go_ret
      exact ⟨rfl, rfl⟩
    · have e : min ((q : Int)).toNat n = q := by omega
      have hqc : q ≤ c := by omega
      rw [HE.out, e]
      clear e
      go_enter Try.func20, Try.ntmps20
      go_wp2_with fail
      go_ret
      exact ⟨rfl, rfl⟩

set_option maxRecDepth 100000 in
set_option maxHeartbeats 1000000 in
theorem rpop_u (w : World) (A : Option Addr) (n c : Nat) (xs : List Int) (hn : xs.length = n) (hnc : n ≤ c) (hb : n < 1099511627776) (hcm : c ≤ 9223372036854775807) (hs : Sees w A (vK xs)) :
    Calls Try.prog 18 #[.slice A n c] w fun e w' => e = .returned (.tuple #[.slice A xs.dropLast.length c, .int .i64 (topV xs), .bool (hasV xs)]) ∧ Below w.heap.size w w' := by
  rcases snoc_cases xs with rfl | ⟨ys, y, rfl⟩
  · simp only [List.length_nil] at hn
    subst hn
    go_enter Try.func18, Try.ntmps18
    go_wp2_with fail
    go_ret3
    exact ⟨rfl, Below.refl _ _⟩
  · have e1 : topV (ys ++ [y]) = y := by unfold topV; rw [List.getLast?_concat]; rfl
    have e2 : hasV (ys ++ [y]) = true := by unfold hasV; simp
    obtain ⟨m, hm⟩ : ∃ m, ys.length = m := ⟨_, rfl⟩
    obtain rfl : n = m + 1 := by rw [← hn]; simp [hm]
    obtain ⟨ad, x, rfl, _, hcell, hx⟩ := hs.num2 (k := m) (by rw [hn]; omega)
    have hxy : x = y := by
      rw [List.getElem?_append_right (by omega), hm, Nat.sub_self] at hx
      exact (Option.some.inj hx).symm
    subst hxy
    rw [e1, e2, List.dropLast_concat, hm]
    have hz : (((m + 1 : Nat) : Int) == 0) = false := by simp; omega
    have hz' : ((m : Int) + 1 == 0) = false := by simp; omega
    have i0 : (0 : Int) ≤ (m : Int) := by omega
    have i1 : (m : Int) ≤ (c : Int) := by omega
    clear hs hn e1 e2 hm hx
    go_enter Try.func18, Try.ntmps18
    go_wp2_with fail
    go_quiet (fail)
    go_wp2_with fail
    go_ret3
    exact ⟨rfl, below_dr (Below.refl _ _) _⟩

theorem new_cells_at (w : World) (l : List Value) (t : TypeId) (b : Nat) (hb : w.heap.size = b) : ∀ j u, l[j]? = some u → (w.alloc (.cells l.toArray t)).cell? ((⟨b, 0, none⟩ : Addr).add j) = some u := by
  subst hb; exact new_cells w l t
/-- What the document's own Push tells. -/
def RPushPost (w : World) (A0 : Option Addr) (c0 : Nat) (room : Int) (xs : List Int) (x : Int) (e : Ending) (w' : World) : Prop :=
  ∃ A c, ((A = A0 ∧ c = c0) ∨ ∃ a, A = some a ∧ w.heap.size ≤ a.block ∧ a.block < w'.heap.size) ∧ e = .returned (.tuple #[.slice A (pushL room xs x).length c, .int .i64 (pushE room xs)]) ∧ Sees w' A (vK (pushL room xs x)) ∧ (pushL room xs x).length ≤ c ∧ c ≤ 9223372036854775807 ∧ Below w.heap.size w w'
theorem vK_append (l m : List Int) : vK (l ++ m) = vK l ++ vK m := by unfold vK; simp
theorem rpush_done {w w2 w3 : World} {A0 : Option Addr} {c0 : Nat} {room x : Int} {xs : List Int} {n : Nat} {g c1 : Nat} {v : Value} {o : Obj} (hn : xs.length = n) (hr : (xs.length : Int) < room)
    (ho : w3.ownsRow w.heap.size 3 1 (.slice (some ⟨g, 0, none⟩) (n + 1) c1) (n + 1) (vK xs ++ vK [x])) (hb : Below w.heap.size w w3) :
    RPushPost w A0 c0 room xs x (.returned (.tuple #[.slice (some ⟨g, 0, none⟩) (n + 1) c1, .int .i64 0])) w3 := by
  have e1 : pushL room xs x = xs ++ [x] := if_pos hr
  have e2 : pushE room xs = 0 := if_pos hr
  have hl : (pushL room xs x).length = n + 1 := by rw [e1]; simp [hn]
  refine ⟨some ⟨g, 0, none⟩, c1, .inr ⟨_, rfl, (ho.lt g rfl).1, (ho.lt g rfl).2⟩, by rw [hl, e2], ?_, by rw [hl]; exact (own_cap ho).1, (own_cap ho).2, hb⟩
  rw [e1, vK_append]
  exact k_sees ho
set_option maxRecDepth 100000 in
set_option maxHeartbeats 2000000 in
theorem rpush_u (w : World) (A : Option Addr) (n c : Nat) (room x : Int) (xs : List Int) (hn : xs.length = n) (hnc : n ≤ c) (hb : n < 1099511627775) (hcm : c ≤ 9223372036854775807) (hA : A = none → c = 0) (hs : Sees w A (vK xs)) :
    Calls Try.prog 16 #[.slice A n c, .int .i64 room, .int .i64 x] w (RPushPost w A c room xs x) := by
  by_cases hr : (n : Int) < room
  · obtain ⟨i0, hi0, hz0, hz1, hz2⟩ := info_parts sint_info
    have HN := Lib.hid hn
    have HL := Lib.hid (show (vK xs).length = n * 1 by rw [vK_len, hn, Nat.mul_one])
    have HO := Lib.hid (World.ownsRow_made (base := w.heap.size) (e := 3) (size := 1) w #[] 0 (Nat.le_refl _) (by unfold maxLen; omega) rfl)
    cases A with
    | none =>
      have hl : xs = [] := by
        cases xs with
        | nil => rfl
        | cons x l => obtain ⟨_, e, _⟩ := hs (by simp [vK]); cases e
      subst hl
      simp only [List.length_nil] at hn
      subst hn
      obtain rfl := hA rfl
      clear hs
      go_enter Try.func16, Try.ntmps16
      go_wp2_with (first
        | (at_builtin; refine wpList_append_own_none rfl (.tmp 13) (.tmp 14) 30 rfl w.heap.size 3 i0 1 Try.underlying30 hi0 _ 0 [] rfl HO.out rfl ?_)
        | (at_builtin; refine wpList_append_own _ rfl (.tmp 15) (.tmp 17) 30 rfl w.heap.size 3 i0 (.int .i64 0) 1 8 Try.underlying30 hi0 hz0 hz1 hz2 rfl (by decide) _ 0 [] rfl (HO.out.alloc _) ⟨w.heap.size + 1, 0, none⟩ 1 1 (vK [x]) rfl rfl (new_cells_at (w.alloc (.cells #[] 3)) (vK [x]) _ _ (by simp)) (vK_one _) (by unfold maxLen; omega) (by omega) (by simp; omega) ?_; intro v' w1 hown1 hgrow1 _; obtain ⟨g1, cp1, rfl⟩ := own_succ hown1; have HO1 := Lib.hid hown1; have hg : ((w.alloc (.cells #[] 3)).alloc (.cells #[.int .i64 x] 3)).grownBy w1 (some w.heap.size) := hgrow1; have HG := Lib.hid hg; clear hown1 hgrow1 hg))
      go_ret2
      exact rpush_done (w2 := w) (v := .bool true) (o := .cells #[] 0) rfl hr HO1.out (((((Below.refl w.heap.size w).alloc (Nat.le_refl _) _).alloc (by simp) _).grown HG.out (by simp; omega) (fun k hk => by injection hk with hk; omega)))
    | some ad =>
      have HV : Hid (∀ j u, (vK xs)[j]? = some u → (w.alloc (.cells #[] 3)).cell? (ad.add j) = some u) := fun j u hu => by
        obtain ⟨a2, e, h⟩ := (hs.below ((Below.refl _ w).alloc (Nat.le_refl _) (.cells #[] 3))) (by intro h0; rw [h0] at hu; simp at hu)
        injection e with e
        subst e
        exact h j u hu
      clear hs hn
      go_enter Try.func16, Try.ntmps16
      go_wp2_with (first
        | (at_builtin; refine wpList_append_own _ rfl (.tmp 13) (.tmp 14) 30 rfl w.heap.size 3 i0 (.int .i64 0) 1 8 Try.underlying30 hi0 hz0 hz1 hz2 rfl (by decide) _ 0 [] rfl HO.out ad n c (vK xs) rfl HL.out HV.out (vK_one xs) (by unfold maxLen; omega) (by omega) (by simp) ?_; intro v' w1 hown1 hgrow1 _; rw [Nat.zero_add, List.nil_append] at hown1; obtain ⟨A1, cp1, rfl⟩ := own_form hown1; have HO1 := Lib.hid hown1; have hg : (w.alloc (.cells #[] 3)).grownBy w1 (some w.heap.size) := hgrow1; have HB1 := Lib.hid (((Below.refl w.heap.size w).alloc (Nat.le_refl _) (.cells #[] 3)).grown hg (by simp) (fun k hk => by injection hk with hk; omega)); clear hown1 hgrow1 hg; have hsz := HB1.out.size)
        | (at_builtin; refine wpList_append_own _ rfl (.tmp 15) (.tmp 17) 30 rfl w.heap.size 3 i0 (.int .i64 0) 1 8 Try.underlying30 hi0 hz0 hz1 hz2 rfl (by decide) _ n (vK xs) rfl (HO1.out.alloc _) ⟨w1.heap.size, 0, none⟩ 1 1 (vK [x]) rfl rfl (new_cells w1 (vK [x]) _) (vK_one _) (by unfold maxLen; omega) (by omega) (by simp; omega) ?_; intro v' w2 hown2 hgrow2 _; obtain ⟨g2, cp2, rfl⟩ := own_succ hown2; have HO2 := Lib.hid hown2; have HB2 := Lib.hid ((HB1.out.alloc hsz (.cells #[.int .i64 x] 3)).grown hgrow2 (by simp; omega) (fun k hk => (HO1.out.lt k hk).1)); clear hown2 hgrow2))
      go_ret2
      exact rpush_done (w2 := w) (v := .bool true) (o := .cells #[] 0) HN.out (by rw [HN.out]; exact hr) HO2.out HB2.out
  · have HE := Lib.hid (show pushL room xs x = xs from if_neg (by rw [hn]; exact hr))
    have HF := Lib.hid (show pushE room xs = 11 from if_neg (by rw [hn]; exact hr))
    have HS := Lib.hid hs
    have HN := Lib.hid hn
    clear hs hn
    go_enter Try.func16, Try.ntmps16
    go_wp2_with fail
    go_ret2
    have e := HN.out
    subst e
    exact ⟨A, c, .inl ⟨rfl, rfl⟩, by rw [HE.out, HF.out]; rfl, by rw [HE.out]; exact HS.out, by rw [HE.out]; exact hnc, hcm, Below.refl _ _⟩
end Go.Proofs.Ytoiplpmjocemfaa
