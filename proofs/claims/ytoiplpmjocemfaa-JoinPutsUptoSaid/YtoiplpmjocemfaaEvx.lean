/- Rows of events held against each other by package diff: how far, wholly; the first place. -/
import Derived.Test.YtoiplpmjocemfaaEvw
namespace Go.Proofs.Ytoiplpmjocemfaa
open Go.ChangeShapes Go.WideShapes Go.ChangeAt Go.RowKit
set_option linter.unusedVariables false
set_option maxRecDepth 100000

set_option maxHeartbeats 2000000 in
theorem togetherE_any (l m : List Ev) (A B : Option Addr) (n k c d : Nat) (w : World) (hl : l.length = n) (hm : m.length = k) (hn9 : n ≤ 9223372036854775807) (hk9 : k ≤ 9223372036854775807) (hA : EvsOk w A l) (hB : EvsOk w B m) :
    Calls Try.prog 74 #[.slice A n c, .slice B k d, .func (.func 75) #[] #[]] w fun e w' => e = .returned (.int .i64 (tog evE l m : Nat)) ∧ Below w.heap.size w w' := by
  have HL := Lib.hid hl
  have HM := Lib.hid hm
  have HA := Lib.hid hA
  have HB := Lib.hid hB
  obtain ⟨r, hr⟩ : ∃ r, tog evE l m = r := ⟨_, rfl⟩
  have HR := Lib.hid (show 0 + tog evE (l.drop 0) (m.drop 0) = r by simpa using hr)
  rw [hr]
  clear hl hm hA hB hr
  rcases Nat.lt_or_ge k n with hnk | hnk
  all_goals
    go_enter Try.func74, Try.ntmps74
    go_wp2_with fail
    go_loopw [13] (fun i wr => ∃ j : Nat, j ≤ n ∧ j ≤ k ∧ i = .int .i64 j ∧ Hid (j + tog evE (l.drop j) (m.drop j) = r) ∧ Below w.heap.size w wr) (fun i _ => n - (intOf i).toNat)
    case atStart => exact ⟨0, by omega, by omega, rfl, HR, Below.refl _ _⟩
    case round =>
      obtain ⟨j, hj1, hj2, rfl, hj, hbw⟩ := hrel
      by_cases hlt : j < n ∧ j < k
      · obtain ⟨hln, hlk⟩ := hlt
        obtain ⟨a, ha⟩ : ∃ a, l[j]? = some a := ⟨_, List.getElem?_eq_getElem (by rw [HL.out]; exact hln)⟩
        obtain ⟨b, hb⟩ : ∃ b, m[j]? = some b := ⟨_, List.getElem?_eq_getElem (by rw [HM.out]; exact hlk)⟩
        obtain ⟨x, rfl, x0, x1, x2, x3, x4⟩ := (HA.out.below hbw).sees.ev ha
        obtain ⟨y, rfl, y0, y1, y2, y3, y4⟩ := (HB.out.below hbw).sees.ev hb
        have HS := fun (w' : World) (hb' : Below wr.heap.size wr w') => sameEvent_any a b w' (((HA.out.below hbw).get ha).below hb') (((HB.out.below hbw).get hb).below hb')
        have HT := tog_at (f := evE) ha hb
        have i0 : (0 : Int) ≤ (j : Int) := by omega
        have i1 : (j : Int) < (n : Int) := by omega
        have i2 : (j : Int) < (k : Int) := by omega
        clear ha hb
        cases hab : evE a b with
        | true =>
          rw [hab] at HS HT
          rw [if_pos rfl] at HT
          have KS := Lib.hid HS
          have HJ := Lib.hid (show j + 1 + tog evE (l.drop (j + 1)) (m.drop (j + 1)) = r by rw [← hj.out, HT]; omega)
          clear HS HT hj hab
          go_wp2_with fail
          go_still_tail 9, (by kernel_rfl)
          go_wp2_with fail
          refine (KS.out _ (Below.refl _ _).drew).mono ?_
          rintro e w2 ⟨rfl, hb2⟩
          go_wp2_with fail
          go_roundw
          case rel => exact ⟨j + 1, by omega, by omega, by go_num, HJ, hbw.drew.trans (hb2.mono hbw.size)⟩
          case measure => simp [intOf]; omega
        | false =>
          rw [hab] at HS HT
          rw [if_neg (by simp)] at HT
          have KS := Lib.hid HS
          have HJ := Lib.hid (show (j : Int) = (r : Nat) by rw [← hj.out, HT]; omega)
          clear HS HT hj hab
          go_wp2_with fail
          go_still_tail 9, (by kernel_rfl)
          go_wp2_with fail
          refine (KS.out _ (Below.refl _ _).drew).mono ?_
          rintro e w2 ⟨rfl, hb2⟩
          go_wp2_with fail
          go_ret
          exact ⟨ret_int HJ.out, hbw.drew.trans (hb2.mono hbw.size)⟩
      · have HE := Lib.hid (show j = r by rw [← hj.out, tog_nil (by rw [HL.out, HM.out]; omega)]; rfl)
        clear hj
        go_wp2_with fail
        go_ret
        exact ⟨ret_int (by have := HE.out; omega), hbw⟩

set_option maxHeartbeats 1000000 in
theorem sameRowE_any (l m : List Ev) (A B : Option Addr) (n k c d : Nat) (w : World) (hl : l.length = n) (hm : m.length = k) (hn9 : n ≤ 9223372036854775807) (hk9 : k ≤ 9223372036854775807) (hA : EvsOk w A l) (hB : EvsOk w B m) :
    Calls Try.prog 76 #[.slice A n c, .slice B k d, .func (.func 75) #[] #[]] w fun e w' => e = .returned (.bool (rowE evE l m)) ∧ Below w.heap.size w w' := by
  have HT := Lib.hid (togetherE_any l m A B n k c d w hl hm hn9 hk9 hA hB)
  by_cases hnk : n = k
  · subst hnk
    have ht := (tog_le evE l m).1
    have he : decide (tog evE l m = n) = rowE evE l m := by rw [← hl]; exact tog_all (by omega)
    rw [hl] at ht
    obtain ⟨t, htt⟩ : ∃ t, tog evE l m = t := ⟨_, rfl⟩
    rw [htt] at he HT ht
    have HE := Lib.hid he
    clear he htt hA hB hl hm
    by_cases htn : t = n
    · subst htn
      go_enter Try.func76, Try.ntmps76
      go_wp2_with fail
      refine HT.out.mono ?_
      rintro e w1 ⟨rfl, hb⟩
      go_wp2_with fail
      go_ret
      exact ⟨ret_bool (by rw [← HE.out]; simp), hb⟩
    · have t1 : ((t : Int) == (n : Int)) = false := by simp; omega
      have HTN := Lib.hid htn
      clear htn
      go_enter Try.func76, Try.ntmps76
      go_wp2_with fail
      refine HT.out.mono ?_
      rintro e w1 ⟨rfl, hb⟩
      go_wp2_with fail
      go_ret
      exact ⟨ret_bool (by rw [← HE.out]; have := HTN.out; simp [this]), hb⟩
  · have t1 : ((n : Int) == (k : Int)) = false := by simp; omega
    have HE := Lib.hid (rowE_ne (f := evE) (l := l) (m := m) (by omega))
    clear hA hB hl hm hnk
    go_enter Try.func76, Try.ntmps76
    go_wp2_with fail
    go_ret
    exact ⟨ret_bool HE.out.symm, Below.refl _ _⟩


set_option maxHeartbeats 1000000 in
theorem first_any (l m : List Ev) (A B : Option Addr) (n k c d : Nat) (w : World) (hl : l.length = n) (hm : m.length = k) (hn9 : n ≤ 9223372036854775807) (hk9 : k ≤ 9223372036854775807) (hA : EvsOk w A l) (hB : EvsOk w B m) :
    Calls Try.prog 51 #[.slice A n c, .slice B k d] w fun e w' => e = .returned (.tuple #[.int .i64 (tog evE l m : Nat), .bool (rowE evE l m)]) ∧ Below w.heap.size w w' := by
  have H1 := Lib.hid (togetherE_any l m A B n k c d w hl hm hn9 hk9 hA hB)
  have H2 := Lib.hid (fun (w' : World) (hb : Below w.heap.size w w') => sameRowE_any l m A B n k c d w' hl hm hn9 hk9 (hA.below hb) (hB.below hb))
  clear hA hB hl hm
  go_enter Try.func51, Try.ntmps51
  go_wp2_with fail
  refine H1.out.mono ?_
  rintro e w1 ⟨rfl, hb1⟩
  go_wp2_with fail
  refine (H2.out w1 hb1).mono ?_
  rintro e w2 ⟨rfl, hb2⟩
  go_wp2_with fail
  go_ret2
  exact ⟨rfl, hb1.trans (hb2.mono hb1.size)⟩
end Go.Proofs.Ytoiplpmjocemfaa
