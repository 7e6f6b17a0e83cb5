/- The first place at which two rows of events are not the same, by the document; how much events hold. -/
import Derived.Test.YtoiplpmjocemfaaEwa
import Derived.BigQuiet
namespace Go.Proofs.Ytoiplpmjocemfaa
open Go.ChangeShapes Go.WideShapes Go.ChangeAt Go.RowKit
set_option linter.unusedVariables false
set_option maxRecDepth 100000

/-- What the document's First tells. -/
theorem firstE_stop {l m : List Ev} (h : tog evE l m < l.length ∨ tog evE l m < m.length) : rowE evE l m = false := by
  cases hq : rowE evE l m with
  | false => rfl
  | true =>
    have h1 := rowE_len hq
    have h2 := tog_all (f := evE) h1
    rw [hq, decide_eq_true_eq] at h2
    omega
theorem firstE_all {l m : List Ev} (h1 : tog evE l m = l.length) (h2 : tog evE l m = m.length) : rowE evE l m = true := by
  rw [← tog_all (f := evE) (by omega), h1, decide_eq_true rfl]
theorem ret_first {j r : Nat} {b : Bool} (h : j = r) : Ending.returned (.tuple #[.int .i64 (j : Int), .bool b]) = .returned (.tuple #[.int .i64 (r : Int), .bool b]) := by rw [h]
set_option maxHeartbeats 4000000 in
theorem rfirst_any (l m : List Ev) (A B : Option Addr) (n k c d : Nat) (w : World) (hl : l.length = n) (hm : m.length = k) (hn9 : n ≤ 9223372036854775807) (hk9 : k ≤ 9223372036854775807) (hA : EvsOk w A l) (hB : EvsOk w B m) :
    Calls Try.prog 52 #[.slice A n c, .slice B k d] w fun e w' => e = .returned (.tuple #[.int .i64 (tog evE l m : Nat), .bool (rowE evE l m)]) ∧ Below w.heap.size w w' := by
  obtain ⟨r, hr⟩ : ∃ r, tog evE l m = r := ⟨_, rfl⟩
  obtain ⟨b, hb⟩ : ∃ b, rowE evE l m = b := ⟨_, rfl⟩
  have hF : ∀ j : Nat, j = r → (j < n ∨ j < k) → b = false := fun j hj h => by rw [← hb]; exact firstE_stop (by rw [hr, hl, hm]; omega)
  have hG : r = n → r = k → b = true := fun h1 h2 => by rw [← hb]; exact firstE_all (by omega) (by omega)
  have HF := Lib.hid hF
  have HG := Lib.hid hG
  have HL := Lib.hid hl
  have HM := Lib.hid hm
  have HA := Lib.hid hA
  have HB := Lib.hid hB
  have HR := Lib.hid (show 0 + tog evE (l.drop 0) (m.drop 0) = r by simpa using hr)
  rw [hr, hb]
  clear hl hm hA hB hr hb hF hG
  go_enter Try.func52, Try.ntmps52
  go_wp2_with fail
  go_loopw [6] (fun i wr => ∃ j : Nat, j ≤ n ∧ j ≤ k ∧ i = .int .i64 j ∧ Hid (j + tog evE (l.drop j) (m.drop j) = r) ∧ Below w.heap.size w wr) (fun i _ => n - (intOf i).toNat)
  case atStart => exact ⟨0, by omega, by omega, rfl, HR, Below.refl _ _⟩
  case round =>
    obtain ⟨j, hj1, hj2, rfl, hj, hbw⟩ := hrel
    have i0 : (0 : Int) ≤ (j : Int) := by omega
    by_cases hln : j < n
    · have i1 : (j : Int) < (n : Int) := by omega
      have d1 : decide ((n : Int) ≤ (j : Int)) = false := by simp; omega
      by_cases hlk : j < k
      · have i2 : (j : Int) < (k : Int) := by omega
        have d2 : decide ((k : Int) ≤ (j : Int)) = false := by simp; omega
        obtain ⟨a, ha⟩ : ∃ a, l[j]? = some a := ⟨_, List.getElem?_eq_getElem (by rw [HL.out]; exact hln)⟩
        obtain ⟨b', hb'⟩ : ∃ b', m[j]? = some b' := ⟨_, List.getElem?_eq_getElem (by rw [HM.out]; exact hlk)⟩
        obtain ⟨x, rfl, x0, x1, x2, x3, x4⟩ := (HA.out.below hbw).sees.ev ha
        obtain ⟨y, rfl, y0, y1, y2, y3, y4⟩ := (HB.out.below hbw).sees.ev hb'
        have HS := fun (w' : World) (hb'' : Below wr.heap.size wr w') => rparts_any a b' w' (((HA.out.below hbw).get ha).below hb'') (((HB.out.below hbw).get hb').below hb'')
        have HT := tog_at (f := evE) ha hb'
        have hz := parts_zero a b'
        obtain ⟨p, hp⟩ : ∃ p, partsE a b' = p := ⟨_, rfl⟩
        rw [hp] at hz HS
        clear ha hb' hp
        cases hab : evE a b' with
        | true =>
          rw [hab] at HT hz
          rw [if_pos rfl] at HT
          have hp0 := of_decide_eq_true hz
          subst hp0
          have KS := Lib.hid HS
          have HJ := Lib.hid (show j + 1 + tog evE (l.drop (j + 1)) (m.drop (j + 1)) = r by rw [← hj.out, HT]; omega)
          clear HS HT hj hab hz
          go_wp2_with fail
          go_still_tail 19, (by kernel_rfl)
          go_wp2_with fail
          refine (KS.out _ (Below.refl _ _).drew).mono ?_
          rintro e w2 ⟨rfl, hb2⟩
          go_wp2_with fail
          go_roundw
          case rel => exact ⟨j + 1, by omega, by omega, by go_num, HJ, hbw.drew.trans (hb2.mono hbw.size)⟩
          case measure => simp [intOf]; omega
        | false =>
          rw [hab] at HT hz
          rw [if_neg (by simp)] at HT
          have t1 : (p != 0) = true := by simpa using of_decide_eq_false hz
          have KS := Lib.hid HS
          have hjr : j = r := by rw [← hj.out, HT]; omega
          have hbf := HF.out j hjr (.inl hln)
          subst hbf
          have HJ := Lib.hid hjr
          clear HS HT hj hab hz hjr
          go_wp2_with fail
          go_still_tail 19, (by kernel_rfl)
          go_wp2_with fail
          refine (KS.out _ (Below.refl _ _).drew).mono ?_
          rintro e w2 ⟨rfl, hb2⟩
          go_wp2_with fail
          go_ret2
          exact ⟨ret_first HJ.out, hbw.drew.trans (hb2.mono hbw.size)⟩
      · have d2 : decide ((k : Int) ≤ (j : Int)) = true := by simp; omega
        have hjr : j = r := by rw [← hj.out, tog_nil (by rw [HM.out]; omega)]; rfl
        have hbf := HF.out j hjr (.inl hln)
        subst hbf
        have HJ := Lib.hid hjr
        clear hj hjr
        go_wp2_with fail
        go_quiet (fail)
        go_wp2_with fail
        go_ret2
        exact ⟨ret_first HJ.out, below_dr hbw _⟩
    · have d1 : decide ((n : Int) ≤ (j : Int)) = true := by simp; omega
      have d3 : decide (n ≤ j) = true := by simp; omega
      have d4 : n ≤ j := by omega
      have hjr : j = r := by rw [← hj.out, tog_nil (by rw [HL.out]; omega)]; rfl
      by_cases hlk : j < k
      · have i2 : (j : Int) < (k : Int) := by omega
        have hbf := HF.out j hjr (.inr hlk)
        subst hbf
        have HJ := Lib.hid hjr
        clear hj hjr
        go_wp2_with fail
        go_quiet (fail)
        go_wp2_with fail
        go_ret2
        exact ⟨ret_first HJ.out, below_dr hbw _⟩
      · have hbf := HG.out (by omega) (by omega)
        subst hbf
        have HJ := Lib.hid (show n = r by omega)
        clear hj hjr
        go_wp2_with fail
        go_ret2
        exact ⟨ret_first HJ.out, hbw⟩
end Go.Proofs.Ytoiplpmjocemfaa
