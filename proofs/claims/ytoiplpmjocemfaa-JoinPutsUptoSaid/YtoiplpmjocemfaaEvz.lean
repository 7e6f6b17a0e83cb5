/- Rows of events held against each other by the document; which parts are not the same; the first place. -/
import Derived.Test.YtoiplpmjocemfaaEvy
namespace Go.Proofs.Ytoiplpmjocemfaa
open Go.ChangeShapes Go.WideShapes Go.ChangeAt Go.RowKit
set_option linter.unusedVariables false
set_option maxRecDepth 100000

set_option maxHeartbeats 4000000 in
theorem same_any (l m : List Ev) (A B : Option Addr) (n k c d : Nat) (w : World) (hl : l.length = n) (hm : m.length = k) (hn9 : n ≤ 9223372036854775807) (hk9 : k ≤ 9223372036854775807) (hA : EvsOk w A l) (hB : EvsOk w B m) :
    Calls Try.prog 44 #[.slice A n c, .slice B k d] w fun e w' => e = .returned (.bool (rowE evE l m)) ∧ Below w.heap.size w w' := by
  by_cases hnk : n = k
  rotate_left
  · have t1 : ((n : Int) != (k : Int)) = true := by simp; omega
    have HE := Lib.hid (rowE_ne (f := evE) (l := l) (m := m) (by omega))
    clear hA hB hl hm hnk
    go_enter Try.func44, Try.ntmps44
    go_wp2_with fail
    go_ret
    exact ⟨ret_bool HE.out.symm, Below.refl _ _⟩
  subst hnk
  have HL := Lib.hid hl
  have HM := Lib.hid (show l.length = m.length by omega)
  have HA := Lib.hid hA
  have HB := Lib.hid hB
  clear hl hm hA hB
  go_enter Try.func44, Try.ntmps44
  go_wp2_with fail
  go_loopw [5] (fun i wr => ∃ j : Nat, j ≤ n ∧ i = .int .i64 j ∧ Hid (rowE evE (l.drop j) (m.drop j) = rowE evE l m) ∧ Below w.heap.size w wr) (fun i _ => n - (intOf i).toNat)
  case atStart => exact ⟨0, by omega, rfl, rfl, Below.refl _ _⟩
  case round =>
    obtain ⟨j, hj, rfl, hjE, hbw⟩ := hrel
    by_cases hlt : j < n
    · obtain ⟨a, ha⟩ : ∃ a, l[j]? = some a := ⟨_, List.getElem?_eq_getElem (by rw [HL.out]; exact hlt)⟩
      obtain ⟨b, hb⟩ : ∃ b, m[j]? = some b := ⟨_, List.getElem?_eq_getElem (by rw [← HM.out, HL.out]; exact hlt)⟩
      obtain ⟨x, rfl, x0, x1, x2, x3, x4⟩ := (HA.out.below hbw).sees.ev ha
      obtain ⟨y, rfl, y0, y1, y2, y3, y4⟩ := (HB.out.below hbw).sees.ev hb
      have HS := fun (w' : World) (hb' : Below wr.heap.size wr w') => one_any a b w' (((HA.out.below hbw).get ha).below hb') (((HB.out.below hbw).get hb).below hb')
      have HT := rowE_at (f := evE) ha hb
      have i0 : (0 : Int) ≤ (j : Int) := by omega
      have i1 : (j : Int) < (n : Int) := by omega
      clear ha hb
      cases hab : evE a b with
      | true =>
        rw [hab] at HS HT
        have KS := Lib.hid HS
        have HJ := Lib.hid (show rowE evE (l.drop (j + 1)) (m.drop (j + 1)) = rowE evE l m by rw [← hjE.out, HT, Bool.true_and])
        clear HS HT hjE hab
        go_wp2_with fail
        go_still_tail 8, (by kernel_rfl)
        go_wp2_with fail
        refine (KS.out _ (Below.refl _ _).drew).mono ?_
        rintro e w2 ⟨rfl, hb2⟩
        go_wp2_with fail
        go_roundw
        case rel => exact ⟨j + 1, by omega, by go_num, HJ, hbw.drew.trans (hb2.mono hbw.size)⟩
        case measure => simp [intOf]; omega
      | false =>
        rw [hab] at HS HT
        have KS := Lib.hid HS
        have HJ := Lib.hid (show false = rowE evE l m by rw [← hjE.out, HT, Bool.false_and])
        clear HS HT hjE hab
        go_wp2_with fail
        go_still_tail 8, (by kernel_rfl)
        go_wp2_with fail
        refine (KS.out _ (Below.refl _ _).drew).mono ?_
        rintro e w2 ⟨rfl, hb2⟩
        go_wp2_with fail
        go_ret
        exact ⟨ret_bool HJ.out, hbw.drew.trans (hb2.mono hbw.size)⟩
    · have HJ := Lib.hid (show true = rowE evE l m by rw [← hjE.out, rowE_end HM.out (by rw [HL.out]; omega)])
      clear hjE
      go_wp2_with fail
      go_ret
      exact ⟨ret_bool HJ.out, hbw⟩
end Go.Proofs.Ytoiplpmjocemfaa
