/- Contracts: the last feed, copies of bytes; Lines and Where of package eol, and the document's own Where. -/
import Derived.Test.YtpgpniemkmiljaaEolA
namespace Go.Proofs.Ytpgpniemkmiljaa
open Go.ChangeShapes Go.WideShapes Go.ChangeAt Go.RowKit
set_option linter.unusedVariables false

theorem ret_3 {a b c d e f : Int} (h1 : a = d) (h2 : b = e) (h3 : c = f) : Ending.returned (.tuple #[.int .i64 a, .int .i64 b, .int .i64 c]) = .returned (.tuple #[.int .i64 d, .int .i64 e, .int .i64 f]) := by rw [h1, h2, h3]
theorem b8_info : (Try.prog.info? 5).map (fun i => (i.zero, i.size, i.bytes)) = some (some (.int .u8 0), 1, 1) := by kernel_rfl
theorem vB_ones (l : List UInt8) : ∀ u ∈ vB l, u.oneCell' = true := by
  intro u hu
  unfold vB at hu
  simp only [List.mem_map] at hu
  obtain ⟨c, _, rfl⟩ := hu
  rfl
theorem b_cells (w : World) (l : List Value) (t : TypeId) : ∀ j u, l[j]? = some u → (w.alloc (.cells l.toArray t)).cell? ((⟨w.heap.size, 0, none⟩ : Addr).add j) = some u := by
  intro j u h
  have e : (⟨w.heap.size, 0, none⟩ : Addr).add j = ⟨w.heap.size, j, none⟩ := by
    unfold Addr.add; split
    · next h0 => rw [h0]
    · simp
  rw [e]
  simp [World.cell?_alloc_new, h]
theorem b_form {W : World} {base : Nat} {e : TypeId} {size : Nat} {v : Value} {k : Nat} {xs : List Value} (h : W.ownsRow base e size v k xs) : ∃ A c, v = .slice A k c := by
  rcases h.2 with ⟨rfl, rfl⟩ | ⟨g, cap, _, rfl, _⟩
  · exact ⟨_, _, rfl⟩
  · exact ⟨_, _, rfl⟩
theorem b_cap {w : World} {base : Nat} {e : TypeId} {A : Option Addr} {n m c size : Nat} {xs : List Value} (h : w.ownsRow base e size (.slice A m c) n xs) : n ≤ c ∧ c ≤ 9223372036854775807 := by
  rcases h.2 with ⟨h1, h2⟩ | ⟨g, cap, cur, h1, _, _, h4, h5, _⟩
  · injection h1 with _ _ h3; omega
  · injection h1 with _ _ h3; unfold maxLen at h5; omega
theorem b_sees {w : World} {base : Nat} {e : TypeId} {A : Option Addr} {n m c : Nat} {xs : List Value} (h : w.ownsRow base e 1 (.slice A m c) n xs) : Sees w A xs := by
  intro hne
  rcases h.2 with ⟨h1, h2⟩ | ⟨g, cap, cur, h1, h2, h3, h4⟩
  · have := h.1
    subst h2
    exact absurd (List.eq_nil_of_length_eq_zero (by simpa using this)) hne
  · injection h1 with h5
    refine ⟨⟨g, 0, none⟩, h5, fun j u hu => h.cells (g := g) ?_ j u hu⟩
    rw [h5]; rfl

set_option maxHeartbeats 1000000 in
set_option maxRecDepth 100000 in
theorem gLast_any (w : World) (A : Option Addr) (n c : Nat) (l : List UInt8) (hn : l.length = n) (hc : n ≤ 9223372036854775800) (hs : Sees w A (vB l)) :
    Calls Try.prog 96 #[.slice A n c, .int .u8 10] w fun e w' => e = .returned (.int .i64 ((n : Int) - 1 - (colN l n : Nat))) ∧ w = w' := by
  have HN := Lib.hid hn
  have hcl := colN_le l n
  obtain ⟨m, hm⟩ : ∃ m, colN l n = m := ⟨_, rfl⟩
  rw [hm] at hcl ⊢
  have HM := Lib.hid hm
  clear hn hm
  go_enter Try.func96, Try.ntmps96
  go_wp2
  go_loop [5] (fun i => ∃ q : Nat, q ≤ n ∧ i = .int .i64 ((q : Int) - 1) ∧ m + q = n + colN l q) (fun i => (intOf i + 1).toNat)
  case atStart => exact ⟨n, Nat.le_refl _, rfl, by rw [HM.out]; omega⟩
  case round =>
    obtain ⟨q, hq, rfl, hcq⟩ := hrel
    cases q with
    | zero =>
      have e : m = n := by rw [colN] at hcq; omega
      have HE := Lib.hid e
      clear e hcq
      go_wp2
      go_ret
      exact ⟨ret_int (by rw [HE.out]; omega), rfl⟩
    | succ q =>
      have hql : q < l.length := by rw [HN.out]; omega
      obtain ⟨ad, rfl, hcell⟩ := hs.byte hql
      have e0 : ((q + 1 : Nat) : Int) - 1 = (q : Int) := by omega
      have hqn : q < n := by omega
      have hi := byte10 l q hql
      have hlt := byteAt_lt l q
      obtain ⟨b, hb⟩ : ∃ b, byteAt l q = b := ⟨_, rfl⟩
      rw [hb] at hi hcell hlt
      rw [e0]
      by_cases h10 : b = 10
      · have hz := colN_feed l q (hi.1 (by omega))
        have HE := Lib.hid (show m + (q + 1) = n by omega)
        have ht : ((b : Int) == 10) = true := by simp [h10]
        clear hz hcq hi hb h10 e0
        go_wp2
        go_ret
        exact ⟨ret_int (by have := HE.out; omega), rfl⟩
      · have hz := colN_other l q (fun h => h10 (by have := hi.2 h; omega))
        have HE := Lib.hid (show m + q = n + colN l q by omega)
        have ht : ((b : Int) == 10) = false := by simp; omega
        clear hz hcq hi hb h10 e0
        go_wp2
        go_round
        case rel => exact ⟨q, by omega, by go_num, HE.out⟩
        case measure => simp [intOf]
theorem bLast_any (w : World) (A : Option Addr) (n c : Nat) (l : List UInt8) (hn : l.length = n) (hc : n ≤ 9223372036854775800) (hs : Sees w A (vB l)) :
    Calls Try.prog 74 #[.slice A n c, .int .u8 10] w fun e w' => e = .returned (.int .i64 ((n : Int) - 1 - (colN l n : Nat))) ∧ w = w' := by
  have H := Lib.hid (gLast_any w A n c l hn hc hs)
  clear hn hs
  go_enter Try.func74, Try.ntmps74
  go_wp2_with (go_at_call 96; refine H.out.mono ?_; rintro e w' ⟨rfl, rfl⟩)
  go_ret
  exact ⟨rfl, rfl⟩

/-- What Clone tells. -/
def ClonePost (w : World) (n : Nat) (l : List UInt8) (e : Ending) (w' : World) : Prop :=
  ∃ A c, e = .returned (.slice A n c) ∧ w'.ownsRow w.heap.size 5 1 (.slice A n c) n (vB l) ∧ Below w.heap.size w w'
set_option maxHeartbeats 1000000 in
set_option maxRecDepth 100000 in
theorem bClone_any (w : World) (A : Option Addr) (n c : Nat) (l : List UInt8) (hn : l.length = n) (hc : n ≤ 1099511627776) (hs : Sees w A (vB l)) :
    Calls Try.prog 72 #[.slice A n c] w (ClonePost w n l) := by
  obtain ⟨i0, hi0, hz0, hz1, hz2⟩ := info_parts b8_info
  cases A with
  | none =>
    have hl : l = [] := by
      cases l with
      | nil => rfl
      | cons x l => obtain ⟨_, e, _⟩ := hs (by simp [vB]); cases e
    subst hl
    simp only [List.length_nil] at hn
    subst hn
    have kn := fun w : World => Lib.run_eql_slice_nil (P := Try.prog) w 22 5 none 0 c 0 0 Try.underlying22
    clear hs
    go_enter Try.func72, Try.ntmps72
    go_wp2
    go_ret
    exact ⟨none, 0, rfl, World.ownsRow_nil _ _ _ _, Below.refl _ _⟩
  | some ad =>
    have kn := fun w : World => Lib.run_eql_slice_nil (P := Try.prog) w 22 5 (some ad) n c 0 0 Try.underlying22
    have HV : Hid (∀ j u, (vB l)[j]? = some u → (w.alloc (.cells #[] 5)).cell? (ad.add j) = some u) := fun j u hu => by
      obtain ⟨a2, e, h⟩ := (hs.below ((Below.refl _ w).alloc (Nat.le_refl _) (.cells #[] 5))) (by intro h0; rw [h0] at hu; simp at hu)
      injection e with e
      subst e
      exact h j u hu
    have HL := Lib.hid (show (vB l).length = n * 1 by rw [vB_len, hn, Nat.mul_one])
    have HO := Lib.hid (World.ownsRow_made (base := w.heap.size) (e := 5) (size := 1) w #[] 0 (Nat.le_refl _) (by unfold maxLen; omega) rfl)
    clear hs hn
    go_enter Try.func72, Try.ntmps72
    go_wp2_with (first | (at_builtin; refine wpList_append_own _ rfl _ _ 22 rfl w.heap.size 5 i0 (.int .u8 0) 1 1 Try.underlying22 hi0 hz0 hz1 hz2 rfl (by decide) _ 0 [] rfl HO.out ad n c (vB l) rfl HL.out HV.out (vB_ones l) (by unfold maxLen; omega) (by omega) (by simp) ?_; intro v' w1 hown1 hgrow1 _; obtain ⟨A1, c1, rfl⟩ := b_form hown1; have HO1 := Lib.hid hown1; have HG := Lib.hid hgrow1; clear hown1 hgrow1))
    go_ret
    have ho := HO1.out
    rw [Nat.zero_add, List.nil_append] at ho
    have hg : (w.alloc (.cells #[] 5)).grownBy w1 (some w.heap.size) := HG.out
    exact ⟨A1, c1, rfl, ho, ((Below.refl _ w).alloc (Nat.le_refl _) _).grown hg (by simp) (fun k hk => by injection hk with hk; omega)⟩

set_option maxHeartbeats 1000000 in
set_option maxRecDepth 100000 in
theorem lines_any (w : World) (A : Option Addr) (n c : Nat) (l : List UInt8) (hn : l.length = n) (hc : n ≤ 1099511627776) (hs : Sees w A (vB l)) :
    Calls Try.prog 25 #[.slice A n c] w fun e w' => e = .returned (.int .i64 (lineN l n : Nat)) ∧ Below w.heap.size w w' := by
  have hb := (Below.refl _ w).alloc (Nat.le_refl _) (.cells #[.int .u8 10] 5)
  have H := Lib.hid (bCount_any (w.alloc (.cells #[.int .u8 10] 5)) A n c l ⟨w.heap.size, 0, none⟩ 1 10 hn (hs.below hb) (by simp [World.cell?_alloc_new]))
  have hle : Lib.countByte l 10 ≤ n := by rw [← hn]; exact List.count_le_length
  have HE := Lib.hid (show lineN l n = 1 + Lib.countByte l 10 by unfold lineN Lib.countByte; rw [List.take_of_length_le (by omega)])
  clear hn hs
  obtain ⟨q, hq⟩ : ∃ q, Lib.countByte l 10 = q := ⟨_, rfl⟩
  rw [hq] at H HE hle
  clear hq
  go_enter Try.func25, Try.ntmps25
  go_wp2_with (go_at_call 75; refine H.out.mono ?_; rintro e w' ⟨rfl, rfl⟩)
  go_ret
  exact ⟨ret_int (by rw [HE.out]; omega), hb⟩

set_option maxHeartbeats 1000000 in
set_option maxRecDepth 100000 in
theorem rwhere_any (w : World) (A : Option Addr) (n c k : Nat) (l : List UInt8) (hn : l.length = n) (hc : n ≤ 1099511627776) (hk : k ≤ n) (hs : Sees w A (vB l)) :
    Calls Try.prog 24 #[.slice A n c, .int .i64 k] w fun e w' => e = .returned (.tuple #[.int .i64 (lineN l k : Nat), .int .i64 (colN l k : Nat)]) ∧ w = w' := by
  have HN := Lib.hid hn
  clear hn
  go_enter Try.func24, Try.ntmps24
  go_wp2
  go_loop [6, 7, 8] (fun a b i => ∃ q : Nat, q ≤ k ∧ i = .int .i64 q ∧ a = .int .i64 (lineN l q : Nat) ∧ b = .int .i64 (colN l q : Nat)) (fun _ _ i => k - (intOf i).toNat)
  case atStart => exact ⟨0, Nat.zero_le _, rfl, rfl, rfl⟩
  case round =>
    obtain ⟨q, hq, rfl, rfl, rfl⟩ := hrel
    by_cases hlt : q < k
    · have hql : q < l.length := by rw [HN.out]; omega
      obtain ⟨ad, rfl, hcell⟩ := hs.byte hql
      have hqn : q < n := by omega
      have hi := byte10 l q hql
      have hlt2 := byteAt_lt l q
      have hl1 := lineN_le l q
      have hl2 := colN_le l q
      obtain ⟨b, hb⟩ : ∃ b, byteAt l q = b := ⟨_, rfl⟩
      rw [hb] at hi hcell hlt2
      by_cases h10 : b = 10
      · have H1 := Lib.hid (colN_feed l q (hi.1 (by omega)))
        have H2 := Lib.hid (lineN_feed l q (hi.1 (by omega)))
        have ht : ((b : Int) == 10) = true := by simp [h10]
        clear hi hb h10
        obtain ⟨x, hx⟩ : ∃ x, lineN l q = x := ⟨_, rfl⟩
        obtain ⟨y, hy⟩ : ∃ y, colN l q = y := ⟨_, rfl⟩
        rw [hx] at H2 hl1 ⊢
        rw [hy] at hl2 ⊢
        clear hx hy
        go_wp2
        go_round
        case rel => exact ⟨q + 1, by omega, by go_num, by rw [H2.out]; go_num, by rw [H1.out]; rfl⟩
        case measure => simp [intOf]; omega
      · have hne : l[q]? ≠ some 10 := fun h => h10 (by have := hi.2 h; omega)
        have H1 := Lib.hid (colN_other l q hne)
        have H2 := Lib.hid (lineN_other l q hql hne)
        have ht : ((b : Int) == 10) = false := by simp; omega
        clear hi hb h10 hne
        obtain ⟨x, hx⟩ : ∃ x, lineN l q = x := ⟨_, rfl⟩
        obtain ⟨y, hy⟩ : ∃ y, colN l q = y := ⟨_, rfl⟩
        rw [hx] at H2 hl1 ⊢
        rw [hy] at H1 hl2 ⊢
        clear hx hy
        go_wp2
        go_round
        case rel => exact ⟨q + 1, by omega, by go_num, by rw [H2.out], by rw [H1.out]; go_num⟩
        case measure => simp [intOf]; omega
    · obtain rfl : q = k := by omega
      go_wp2
      go_ret2
      exact ⟨rfl, rfl⟩

set_option maxHeartbeats 1000000 in
set_option maxRecDepth 100000 in
theorem where_out (w : World) (A : Option Addr) (n c : Nat) (k : Int) (hc : n ≤ 1099511627776) (hk : k < 0 ∨ (n : Int) < k) :
    Calls Try.prog 23 #[.slice A n c, .int .i64 k] w fun e w' => e = .returned (.tuple #[.int .i64 0, .int .i64 0, .int .i64 3]) ∧ w = w' := by
  rcases hk with hk | hk
  · go_enter Try.func23, Try.ntmps23
    go_wp2
    go_ret3
    exact ⟨rfl, rfl⟩
  · have h0 : ¬ k < 0 := by omega
    go_enter Try.func23, Try.ntmps23
    go_wp2
    go_ret3
    exact ⟨rfl, rfl⟩
set_option maxHeartbeats 1000000 in
set_option maxRecDepth 100000 in
theorem where_in (w : World) (A : Option Addr) (n c k : Nat) (l : List UInt8) (hn : l.length = n) (hnc : n ≤ c) (hc : n ≤ 1099511627776) (hcm : c ≤ 9223372036854775807) (hk : k ≤ n) (hs : Sees w A (vB l)) :
    Calls Try.prog 23 #[.slice A n c, .int .i64 k] w fun e w' => e = .returned (.tuple #[.int .i64 (lineN l k : Nat), .int .i64 (colN l k : Nat), .int .i64 0]) ∧ Below w.heap.size w w' := by
  have hlk : (l.take k).length = k := by rw [List.length_take, hn]; omega
  have hs1 : Sees w A (vB (l.take k)) := by rw [vB_take]; exact hs.take k
  have H1 := lines_any w A k c (l.take k) hlk (by omega) hs1
  rw [lineN_take] at H1
  have hcl := colN_le l k
  have h2 : ∀ W, Below w.heap.size w W → Calls Try.prog 74 #[.slice A k c, .int .u8 10] W fun e w' => e = .returned (.int .i64 ((k : Int) - 1 - (colN l k : Nat))) ∧ W = w' := fun W hW => by
    have := bLast_any W A k c (l.take k) hlk (by omega) (hs1.below hW)
    rwa [colN_take l k k (Nat.le_refl _)] at this
  have H1 := Lib.hid H1
  obtain ⟨y, hy⟩ : ∃ y, colN l k = y := ⟨_, rfl⟩
  rw [hy] at hcl h2 ⊢
  have H2 := Lib.hid h2
  have hkc : k ≤ c := by omega
  have h0 : ¬ ((k : Int) < 0) := by omega
  clear hs hs1 h2 hy hlk hn
  go_enter Try.func23, Try.ntmps23
  go_wp2_with (first
    | (go_at_call 25; refine H1.out.mono ?_; rintro e w1 ⟨rfl, hb1⟩)
    | (go_at_call 74; refine (H2.out _ hb1).mono ?_; rintro e w' ⟨rfl, rfl⟩))
  go_ret3
  exact ⟨ret_3 rfl (by omega) rfl, hb1⟩
end Go.Proofs.Ytpgpniemkmiljaa
