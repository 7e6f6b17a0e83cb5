/- Contracts: rows of numbers compared; the bytes of many characters. -/
import Derived.Test.YtfppkjogdahnbaaUtfN
namespace Go.Proofs.Ytfppkjogdahnbaa
open Go.ChangeShapes Go.WideShapes Go.ChangeAt Go.RowKit
set_option linter.unusedVariables false

theorem seesI {w : World} {A : Option Addr} {l : List Int} (h : Sees w A (l.map (Value.int .i64))) {k : Nat} (hk : k < l.length) : ∃ ad, A = some ad ∧ w.cell? (ad.add k) = some (.int .i64 l[k]) := by
  obtain ⟨ad, u, e, hu, hc⟩ := h.at (k := k) (by simpa using hk)
  rw [List.getElem?_map, List.getElem?_eq_getElem hk] at hu
  injection hu with hu
  exact ⟨ad, e, by rw [hc, ← hu]⟩

set_option maxRecDepth 100000 in
set_option maxHeartbeats 2000000 in
theorem ints_any (A B : Option Addr) (n m c d : Nat) (xs ys : List Int) (w : World) (hx : xs.length = n) (hy : ys.length = m) (hm : n ≤ 9223372036854775800) (ha : Sees w A (xs.map (Value.int .i64))) (hb : Sees w B (ys.map (Value.int .i64))) :
    Calls Try.prog 36 #[.slice A n c, .slice B m d] w fun e w' => e = .returned (.bool (decide (xs = ys))) ∧ Below w.heap.size w w' := by
  by_cases hnm : n = m
  · subst hnm
    have HX := Lib.hid hx
    have HY := Lib.hid hy
    clear hx hy
    have t0 : ((n : Int) != (n : Int)) = false := by simp
    go_enter Try.func36, Try.ntmps36
    go_wp2_with fail
    go_loopw [5] (fun i wr => ∃ k : Nat, k ≤ n ∧ i = .int .i64 k ∧ xs.take k = ys.take k ∧ ∃ nq, wr = w.drewN nq) (fun i _ => n - (intOf i).toNat)
    case atStart => exact ⟨0, by omega, rfl, rfl, 0, rfl⟩
    case round =>
      obtain ⟨k, hk, rfl, ht, nq, rfl⟩ := hrel
      have HT := Lib.hid ht
      clear ht
      by_cases hlt : k < n
      · have hkx : k < xs.length := by rw [HX.out]; exact hlt
        have hky : k < ys.length := by rw [HY.out]; exact hlt
        obtain ⟨ad, rfl, hc1⟩ := seesI ha hkx
        obtain ⟨bd, rfl, hc2⟩ := seesI hb hky
        obtain ⟨x, hxe⟩ : ∃ x, xs[k] = x := ⟨_, rfl⟩
        obtain ⟨y, hye⟩ : ∃ y, ys[k] = y := ⟨_, rfl⟩
        rw [hxe] at hc1
        rw [hye] at hc2
        have HXE := Lib.hid hxe
        have HYE := Lib.hid hye
        have i0 : (0 : Int) ≤ (k : Int) := by omega
        have i1 : (k : Int) < (n : Int) := by omega
        clear hxe hye ha hb
        by_cases hxy : x = y
        · subst hxy
          have t1 : (x != x) = false := by simp
          go_wp2_with fail
          go_quiet (fail)
          go_wp2_with fail
          go_roundw
          case rel => exact ⟨k + 1, by omega, by go_num, by rw [List.take_succ_eq_append_getElem hkx, List.take_succ_eq_append_getElem hky, HT.out, HXE.out, HYE.out], _, rfl⟩
          case measure => simp [intOf]; omega
        · have t1 : (x != y) = true := by simpa using hxy
          have HNE := Lib.hid hxy
          clear hxy
          go_wp2_with fail
          go_quiet (fail)
          go_wp2_with fail
          go_ret
          refine ⟨ret_bool ?_, below_dr (below_dr (Below.refl _ _) _) _⟩
          rw [eq_comm, decide_eq_false_iff_not]
          rintro rfl
          exact HNE.out (by rw [← HXE.out, ← HYE.out])
      · go_wp2_with fail
        go_ret
        refine ⟨ret_bool ?_, below_dr (Below.refl _ _) _⟩
        rw [eq_comm, decide_eq_true_iff]
        have := HT.out
        rwa [List.take_of_length_le (by rw [HX.out]; omega), List.take_of_length_le (by rw [HY.out]; omega)] at this
  · have t0 : ((n : Int) != (m : Int)) = true := by simp; omega
    have HNM := Lib.hid hnm
    clear hnm
    go_enter Try.func36, Try.ntmps36
    go_wp2_with fail
    go_ret
    refine ⟨ret_bool ?_, Below.refl _ _⟩
    rw [eq_comm, decide_eq_false_iff_not]
    rintro rfl
    exact HNM.out (by rw [← hx, ← hy])

/-- The bytes of many characters. -/
def textS (l : List Int) : List UInt8 := (l.map fun r => encB r.toNat).flatten
def okT (l : List Int) : Bool := l.all isR
theorem textS_snoc (l : List Int) (r : Int) : textS (l ++ [r]) = textS l ++ encB r.toNat := by unfold textS; simp
theorem encLen_le (r : Nat) : 1 ≤ encLen r ∧ encLen r ≤ 4 := by unfold encLen; repeat (split <;> try omega)
theorem textS_len (l : List Int) : (textS l).length ≤ 4 * l.length := by
  induction l with
  | nil => simp [textS]
  | cons x l ih =>
    have h1 := (encLen_le x.toNat).2
    have h2 := encB_len x.toNat
    unfold textS at ih ⊢
    simp only [List.map_cons, List.flatten_cons, List.length_append, List.length_cons]
    omega
theorem okT_bad {l : List Int} {k : Nat} (hk : k < l.length) (h : isR l[k] = false) : okT l = false := by
  unfold okT
  rw [List.all_eq_false]
  exact ⟨l[k], List.getElem_mem hk, by rw [h]; simp⟩
theorem okT_succ (l : List Int) (k : Nat) (h : k < l.length) : okT (l.take (k + 1)) = (okT (l.take k) && isR l[k]) := by
  unfold okT; rw [List.take_succ_eq_append_getElem h, List.all_append]; simp
def TextPost (bad : Value) (good : Value) (l : List Int) (w : World) (e : Ending) (W' : World) : Prop :=
  (okT l = true → ∃ v, e = .returned (.tuple #[v, good]) ∧ W'.ownsRow w.heap.size 5 1 v (textS l).length (vB (textS l))) ∧
  (okT l = false → e = .returned (.tuple #[.slice none 0 0, bad])) ∧ Below w.heap.size w W'

set_option maxRecDepth 100000 in
set_option maxHeartbeats 2000000 in
theorem text_any (A : Option Addr) (n c : Nat) (l : List Int) (hlen : l.length = n) (hsmall : n ≤ 1099511627776) (w : World) (hs : Sees w A (l.map (Value.int .i64))) :
    Calls Try.prog 37 #[.slice A n c] w fun e W' => TextPost (.int .i64 6) (.int .i64 0) l w e W' := by
  have HL := Lib.hid hlen
  clear hlen
  go_enter Try.func37, Try.ntmps37
  go_wp2_with fail
  go_loopw [4, 9] (fun v i wr => ∃ k : Nat, k ≤ n ∧ i = .int .i64 k ∧ okT (l.take k) = true ∧ wr.ownsRow w.heap.size 5 1 v (textS (l.take k)).length (vB (textS (l.take k))) ∧ Below w.heap.size w wr)
    (fun _ i _ => n - (intOf i).toNat)
  case atStart => exact ⟨0, by omega, rfl, rfl, World.ownsRow_nil _ _ _ _, Below.refl _ _⟩
  case round =>
    obtain ⟨k, hk, rfl, hok, hrow, hB⟩ := hrel
    have hsW := hB.size
    have HOK := Lib.hid hok
    clear hok
    by_cases hlt : k < n
    · have hkl : k < l.length := by rw [HL.out]; exact hlt
      obtain ⟨ad, rfl, hc⟩ := seesI (hs.below hB) hkl
      have htl := textS_len (l.take k)
      rw [List.length_take, HL.out] at htl
      have HS := Lib.hid (show textS (l.take (k + 1)) = textS (l.take k) ++ encB (l[k]).toNat by rw [List.take_succ_eq_append_getElem hkl, textS_snoc])
      have HO := Lib.hid (okT_succ l k hkl)
      have HBD := Lib.hid (fun h => okT_bad hkl h)
      obtain ⟨r, hr⟩ : ∃ r, l[k] = r := ⟨_, rfl⟩
      rw [hr] at hc HS HO HBD
      clear hr hs hkl
      by_cases hi : isR r = true
      · have hb := isR_true hi
        have h0 : 0 ≤ r := by omega
        have h1 : r < 2097152 := by omega
        obtain ⟨A', cap', rfl⟩ := ownsRow_form hrow
        have HP := Lib.hid (put_any w.heap.size (.slice A' (textS (l.take k)).length cap') (textS (l.take k)).length (vB (textS (l.take k))) r wr hrow h0 h1 hsW (by omega))
        clear hb
        go_wp2_with (first
          | (go_at_call 26; refine (is_any _ _).mono ?_; rintro e w1 ⟨rfl, rfl⟩)
          | (go_at_call 50; refine HP.out.mono ?_; rintro e w1 ⟨v', rfl, hown1, hb1⟩))
        go_roundw
        case rel => exact ⟨k + 1, by omega, by go_num, by rw [HO.out, HOK.out, hi]; rfl, by rw [HS.out, vB_append, List.length_append, encB_len]; exact hown1, hB.trans hb1⟩
        case measure => simp [intOf]; omega
      · have hf : isR r = false := by simpa using hi
        clear hi
        go_wp2_with (go_at_call 26; refine (is_any _ _).mono ?_; rintro e w1 ⟨rfl, rfl⟩)
        go_ret2
        exact ⟨fun h => absurd h (by rw [HBD.out hf]; simp), fun _ => rfl, hB⟩
    · go_wp2_with fail
      go_ret2
      have e : l.take k = l := List.take_of_length_le (by rw [HL.out]; omega)
      rw [e] at hrow
      have hok := HOK.out
      rw [e] at hok
      exact ⟨fun _ => ⟨_, rfl, hrow⟩, fun h => absurd h (by rw [hok]; simp), hB⟩

set_option maxRecDepth 100000 in
set_option maxHeartbeats 2000000 in
theorem rtext_any (A : Option Addr) (n c : Nat) (l : List Int) (hlen : l.length = n) (hsmall : n ≤ 1099511627776) (w : World) (hs : Sees w A (l.map (Value.int .i64))) :
    Calls Try.prog 38 #[.slice A n c] w fun e W' => TextPost (.bool false) (.bool true) l w e W' := by
  have HL := Lib.hid hlen
  clear hlen
  obtain ⟨i0, hi0, hz0, hz1, hz2⟩ := info_parts u8_info
  go_enter Try.func38, Try.ntmps38
  go_wp2_with fail
  go_loopw [4, 5] (fun v i wr => ∃ k : Nat, k ≤ n ∧ i = .int .i64 k ∧ okT (l.take k) = true ∧ wr.ownsRow w.heap.size 5 1 v (textS (l.take k)).length (vB (textS (l.take k))) ∧ Below w.heap.size w wr)
    (fun _ i _ => n - (intOf i).toNat)
  case atStart => exact ⟨0, by omega, rfl, rfl, World.ownsRow_nil _ _ _ _, Below.refl _ _⟩
  case round =>
    obtain ⟨k, hk, rfl, hok, hrow, hB⟩ := hrel
    have hsW := hB.size
    have HOK := Lib.hid hok
    clear hok
    by_cases hlt : k < n
    · have hkl : k < l.length := by rw [HL.out]; exact hlt
      obtain ⟨ad, rfl, hc⟩ := seesI (hs.below hB) hkl
      have htl := textS_len (l.take k)
      rw [List.length_take, HL.out] at htl
      have HS := Lib.hid (show textS (l.take (k + 1)) = textS (l.take k) ++ encB (l[k]).toNat by rw [List.take_succ_eq_append_getElem hkl, textS_snoc])
      have HO := Lib.hid (okT_succ l k hkl)
      have HBD := Lib.hid (fun h => okT_bad hkl h)
      obtain ⟨r, hr⟩ : ∃ r, l[k] = r := ⟨_, rfl⟩
      rw [hr] at hc HS HO HBD
      clear hr hs hkl
      by_cases hi : isR r = true
      · have hb := isR_true hi
        have h0 : 0 ≤ r := by omega
        have h1 : r < 2097152 := by omega
        have hl4 := (encLen_le r.toNat).2
        have HEL := Lib.hid (encB_len r.toNat)
        obtain ⟨A', cap', rfl⟩ := ownsRow_form hrow
        have HR := Lib.hid (rbytes_any r wr h0 h1)
        obtain ⟨bs, hbs⟩ : ∃ bs, encB r.toNat = bs := ⟨_, rfl⟩
        obtain ⟨m, hme⟩ : ∃ m, encLen r.toNat = m := ⟨_, rfl⟩
        obtain ⟨tn, htn⟩ : ∃ tn, (textS (l.take k)).length = tn := ⟨_, rfl⟩
        rw [hbs, hme] at HR HEL
        rw [hbs] at HS
        rw [hme] at hl4
        have hvl : (vB bs).length = m := by rw [vB_len, HEL.out]
        have HVL := Lib.hid hvl
        have hc' : (wr.alloc (.cells (vB bs).toArray 5)).cell? (ad.add k) = some (.int .i64 r) := cell_later ((Below.refl _ wr).alloc (Nat.le_refl _) _) hc
        rw [htn] at htl hrow
        simp only [htn]
        have HTN := Lib.hid htn
        clear hb hbs hme hvl htn
        go_wp2_with (first
          | (go_at_call 27; refine (ris_any _ _).mono ?_; rintro e w1 ⟨rfl, rfl⟩)
          | (go_at_call 30; refine HR.out.mono ?_; rintro e w1 ⟨rfl, rfl⟩)
          | (at_builtin; refine wpList_append_own _ rfl _ _ 31 rfl w.heap.size 5 i0 (.int .u8 0) 1 1 Try.underlying31 hi0 hz0 hz1 hz2 rfl (by decide) (.slice A' tn cap') tn (vB (textS (l.take k))) rfl (hrow.alloc _) ⟨wr.heap.size, 0, none⟩ m m (vB bs) rfl (by rw [HVL.out, Nat.mul_one]) (cells_new wr (vB bs) _) (vB_one bs) (by unfold maxLen; omega) (by omega) (by simp; omega) ?_; intro v' w2 hown2 hgrow2 _))
        go_roundw
        case rel => exact ⟨k + 1, by omega, by go_num, by rw [HO.out, HOK.out, hi]; rfl, by rw [HS.out, vB_append, List.length_append, HEL.out, HTN.out]; exact hown2, (hB.alloc hsW _).grown hgrow2 (by simp; omega) (fun j hj => (hrow.lt j hj).1)⟩
        case measure => simp [intOf]; omega
      · have hf : isR r = false := by simpa using hi
        clear hi
        go_wp2_with (go_at_call 27; refine (ris_any _ _).mono ?_; rintro e w1 ⟨rfl, rfl⟩)
        go_ret2
        exact ⟨fun h => absurd h (by rw [HBD.out hf]; simp), fun _ => rfl, hB⟩
    · go_wp2_with fail
      go_ret2
      have e : l.take k = l := List.take_of_length_le (by rw [HL.out]; omega)
      rw [e] at hrow
      have hok := HOK.out
      rw [e] at hok
      exact ⟨fun _ => ⟨_, rfl, hrow⟩, fun h => absurd h (by rw [hok]; simp), hB⟩
end Go.Proofs.Ytfppkjogdahnbaa
