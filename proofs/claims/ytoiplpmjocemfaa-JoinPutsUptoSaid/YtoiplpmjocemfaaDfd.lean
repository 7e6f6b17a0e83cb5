/- Rows of strings held against each other by package diff, and by the document. -/
import Derived.Test.YtoiplpmjocemfaaEvu
import Derived.Test.YtoiplpmjocemfaaDfc
namespace Go.Proofs.Ytoiplpmjocemfaa
open Go.ChangeShapes Go.WideShapes Go.ChangeAt Go.RowKit
set_option linter.unusedVariables false
set_option maxRecDepth 100000

theorem Sees.str {w : World} {A : Option Addr} {l : List ByteArray} (h : Sees w A (sV l)) {k : Nat} {a : ByteArray} (hk : l[k]? = some a) : ∃ ad, A = some ad ∧ w.cell? (ad.add k) = some (.string a) := by
  have h1 : (sV l)[k]? = some (.string a) := by unfold sV; rw [List.getElem?_map, hk]; rfl
  obtain ⟨ad, e, hc⟩ := h (by intro h0; rw [h0] at h1; simp at h1)
  exact ⟨ad, e, hc _ _ h1⟩
set_option maxHeartbeats 400000 in
theorem sameText_any (a b : ByteArray) (w : World) : Calls Try.prog 81 #[.string a, .string b] w fun e w' => e = .returned (.bool (sE a b)) ∧ Below w.heap.size w w' := by
  have q := fun w => eqlStr a b w
  obtain ⟨r, hr⟩ : ∃ r, sE a b = r := ⟨_, rfl⟩
  rw [hr] at q ⊢
  have t : (a.toList == b.toList) = r := by rw [← hr]; unfold sE; rw [Bool.eq_iff_iff]; simp
  clear hr
  go_enter Try.func81, Try.ntmps81
  go_wp2_with fail
  go_ret
  exact ⟨rfl, Below.refl _ _⟩

set_option maxHeartbeats 2000000 in
theorem togetherS_any (l m : List ByteArray) (A B : Option Addr) (n k c d : Nat) (w : World) (hl : l.length = n) (hm : m.length = k) (hn9 : n ≤ 9223372036854775807) (hk9 : k ≤ 9223372036854775807) (hA : Sees w A (sV l)) (hB : Sees w B (sV m)) :
    Calls Try.prog 89 #[.slice A n c, .slice B k d, .func (.func 81) #[] #[]] w fun e w' => e = .returned (.int .i64 (tog sE l m : Nat)) ∧ Below w.heap.size w w' := by
  have HL := Lib.hid hl
  have HM := Lib.hid hm
  have HA := Lib.hid hA
  have HB := Lib.hid hB
  obtain ⟨r, hr⟩ : ∃ r, tog sE l m = r := ⟨_, rfl⟩
  have HR := Lib.hid (show 0 + tog sE (l.drop 0) (m.drop 0) = r by simpa using hr)
  rw [hr]
  clear hl hm hA hB hr
  rcases Nat.lt_or_ge k n with hnk | hnk
  all_goals
    go_enter Try.func89, Try.ntmps89
    go_wp2_with fail
    go_loopw [13] (fun i wr => ∃ j : Nat, j ≤ n ∧ j ≤ k ∧ i = .int .i64 j ∧ Hid (j + tog sE (l.drop j) (m.drop j) = r) ∧ Below w.heap.size w wr) (fun i _ => n - (intOf i).toNat)
    case atStart => exact ⟨0, by omega, by omega, rfl, HR, Below.refl _ _⟩
    case round =>
      obtain ⟨j, hj1, hj2, rfl, hj, hbw⟩ := hrel
      by_cases hlt : j < n ∧ j < k
      · obtain ⟨hln, hlk⟩ := hlt
        obtain ⟨a, ha⟩ : ∃ a, l[j]? = some a := ⟨_, List.getElem?_eq_getElem (by rw [HL.out]; exact hln)⟩
        obtain ⟨b, hb⟩ : ∃ b, m[j]? = some b := ⟨_, List.getElem?_eq_getElem (by rw [HM.out]; exact hlk)⟩
        obtain ⟨x, rfl, x0⟩ := (HA.out.below hbw).str ha
        obtain ⟨y, rfl, y0⟩ := (HB.out.below hbw).str hb
        have HS := fun w => sameText_any a b w
        have HT := tog_at (f := sE) ha hb
        have i0 : (0 : Int) ≤ (j : Int) := by omega
        have i1 : (j : Int) < (n : Int) := by omega
        have i2 : (j : Int) < (k : Int) := by omega
        clear ha hb
        cases hab : sE a b with
        | true =>
          rw [hab] at HS HT
          rw [if_pos rfl] at HT
          have KS := Lib.hid HS
          have HJ := Lib.hid (show j + 1 + tog sE (l.drop (j + 1)) (m.drop (j + 1)) = r by rw [← hj.out, HT]; omega)
          clear HS HT hj hab
          go_wp2_with fail
          go_still_tail 9, (by kernel_rfl)
          go_wp2_with fail
          refine (KS.out _).mono ?_
          rintro e w2 ⟨rfl, hb2⟩
          go_wp2_with fail
          go_roundw
          case rel => exact ⟨j + 1, by omega, by omega, by go_num, HJ, hbw.drew.trans (hb2.mono hbw.size)⟩
          case measure => simp [intOf]; omega
        | false =>
          rw [hab] at HS HT
          rw [if_neg (by simp)] at HT
          have KS := Lib.hid HS
          have HJ := Lib.hid (show (j : Int) = (r : Nat) by rw [← hj.out, HT]; omega)
          clear HS HT hj hab
          go_wp2_with fail
          go_still_tail 9, (by kernel_rfl)
          go_wp2_with fail
          refine (KS.out _).mono ?_
          rintro e w2 ⟨rfl, hb2⟩
          go_wp2_with fail
          go_ret
          exact ⟨ret_int HJ.out, hbw.drew.trans (hb2.mono hbw.size)⟩
      · have HE := Lib.hid (show j = r by rw [← hj.out, tog_nil (by rw [HL.out, HM.out]; omega)]; rfl)
        clear hj
        go_wp2_with fail
        go_ret
        exact ⟨ret_int (by have := HE.out; omega), hbw⟩

set_option maxHeartbeats 1000000 in
theorem sameRowS_any (l m : List ByteArray) (A B : Option Addr) (n k c d : Nat) (w : World) (hl : l.length = n) (hm : m.length = k) (hn9 : n ≤ 9223372036854775807) (hk9 : k ≤ 9223372036854775807) (hA : Sees w A (sV l)) (hB : Sees w B (sV m)) :
    Calls Try.prog 80 #[.slice A n c, .slice B k d, .func (.func 81) #[] #[]] w fun e w' => e = .returned (.bool (rowE sE l m)) ∧ Below w.heap.size w w' := by
  have HT := Lib.hid (togetherS_any l m A B n k c d w hl hm hn9 hk9 hA hB)
  by_cases hnk : n = k
  · subst hnk
    have ht := (tog_le sE l m).1
    have he : decide (tog sE l m = n) = rowE sE l m := by rw [← hl]; exact tog_all (by omega)
    rw [hl] at ht
    obtain ⟨t, htt⟩ : ∃ t, tog sE l m = t := ⟨_, rfl⟩
    rw [htt] at he HT ht
    have HE := Lib.hid he
    clear he htt hA hB hl hm
    by_cases htn : t = n
    · subst htn
      go_enter Try.func80, Try.ntmps80
      go_wp2_with fail
      refine HT.out.mono ?_
      rintro e w1 ⟨rfl, hb⟩
      go_wp2_with fail
      go_ret
      exact ⟨ret_bool (by rw [← HE.out]; simp), hb⟩
    · have t1 : ((t : Int) == (n : Int)) = false := by simp; omega
      have HTN := Lib.hid htn
      clear htn
      go_enter Try.func80, Try.ntmps80
      go_wp2_with fail
      refine HT.out.mono ?_
      rintro e w1 ⟨rfl, hb⟩
      go_wp2_with fail
      go_ret
      exact ⟨ret_bool (by rw [← HE.out]; have := HTN.out; simp [this]), hb⟩
  · have t1 : ((n : Int) == (k : Int)) = false := by simp; omega
    have HE := Lib.hid (rowE_ne (f := sE) (l := l) (m := m) (by omega))
    clear hA hB hl hm hnk
    go_enter Try.func80, Try.ntmps80
    go_wp2_with fail
    go_ret
    exact ⟨ret_bool HE.out.symm, Below.refl _ _⟩


set_option maxHeartbeats 4000000 in
theorem texts_any (l m : List ByteArray) (A B : Option Addr) (n k c d : Nat) (w : World) (hl : l.length = n) (hm : m.length = k) (hn9 : n ≤ 9223372036854775807) (hk9 : k ≤ 9223372036854775807) (hA : Sees w A (sV l)) (hB : Sees w B (sV m)) :
    Calls Try.prog 62 #[.slice A n c, .slice B k d] w fun e w' => e = .returned (.bool (rowE sE l m)) ∧ Below w.heap.size w w' := by
  by_cases hnk : n = k
  rotate_left
  · have t1 : ((n : Int) != (k : Int)) = true := by simp; omega
    have HE := Lib.hid (rowE_ne (f := sE) (l := l) (m := m) (by omega))
    clear hA hB hl hm hnk
    go_enter Try.func62, Try.ntmps62
    go_wp2_with fail
    go_ret
    exact ⟨ret_bool HE.out.symm, Below.refl _ _⟩
  subst hnk
  have HL := Lib.hid hl
  have HM := Lib.hid (show l.length = m.length by omega)
  have HA := Lib.hid hA
  have HB := Lib.hid hB
  clear hl hm hA hB
  go_enter Try.func62, Try.ntmps62
  go_wp2_with fail
  go_loopw [5] (fun i wr => ∃ (j nq : Nat), j ≤ n ∧ i = .int .i64 j ∧ Hid (rowE sE (l.drop j) (m.drop j) = rowE sE l m) ∧ wr = w.drewN nq) (fun i _ => n - (intOf i).toNat)
  case atStart => exact ⟨0, 0, by omega, rfl, rfl, rfl⟩
  case round =>
    obtain ⟨j, nq, hj, rfl, hjE, rfl⟩ := hrel
    by_cases hlt : j < n
    · obtain ⟨a, ha⟩ : ∃ a, l[j]? = some a := ⟨_, List.getElem?_eq_getElem (by rw [HL.out]; exact hlt)⟩
      obtain ⟨b, hb⟩ : ∃ b, m[j]? = some b := ⟨_, List.getElem?_eq_getElem (by rw [← HM.out, HL.out]; exact hlt)⟩
      obtain ⟨x, rfl, x0⟩ := HA.out.str ha
      obtain ⟨y, rfl, y0⟩ := HB.out.str hb
      have HT := rowE_at (f := sE) ha hb
      have i0 : (0 : Int) ≤ (j : Int) := by omega
      have i1 : (j : Int) < (n : Int) := by omega
      clear ha hb
      obtain ⟨ab, hab⟩ : ∃ ab, sE a b = ab := ⟨_, rfl⟩
      rw [hab] at HT
      have t1 : (a.toList != b.toList) = !ab := by rw [← hab]; unfold sE; rw [Bool.eq_iff_iff]; simp
      have t2 : (a.toList == b.toList) = ab := by rw [← hab]; unfold sE; rw [Bool.eq_iff_iff]; simp
      cases ab with
      | true =>
        have HJ := Lib.hid (show rowE sE (l.drop (j + 1)) (m.drop (j + 1)) = rowE sE l m by rw [← hjE.out, HT, Bool.true_and])
        clear HT hjE hab
        go_wp2_with fail
        go_quiet (fail)
        go_wp2_with fail
        go_roundw
        case rel => exact ⟨j + 1, _, by omega, by go_num, HJ, rfl⟩
        case measure => simp [intOf]; omega
      | false =>
        have HJ := Lib.hid (show false = rowE sE l m by rw [← hjE.out, HT, Bool.false_and])
        clear HT hjE hab
        go_wp2_with fail
        go_quiet (fail)
        go_wp2_with fail
        go_ret
        exact ⟨ret_bool HJ.out, below_dr (below_dr (Below.refl _ _) _) _⟩
    · have HJ := Lib.hid (show true = rowE sE l m by rw [← hjE.out, rowE_end HM.out (by rw [HL.out]; omega)])
      clear hjE
      go_wp2_with fail
      go_ret
      exact ⟨ret_bool HJ.out, below_dr (Below.refl _ _) _⟩
end Go.Proofs.Ytoiplpmjocemfaa
