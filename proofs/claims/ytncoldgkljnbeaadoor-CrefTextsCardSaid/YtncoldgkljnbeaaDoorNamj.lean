/- Names: a name's parts by the document. -/
import Derived.Test.YtncoldgkljnbeaaDoorNami
namespace Go.Proofs.YtncoldgkljnbeaaDoor
open Go.ChangeShapes Go.WideShapes Go.ChangeAt Go.RowKit
set_option linter.unusedVariables false
set_option maxRecDepth 100000

theorem byte_58 (l : List UInt8) (k : Nat) (h : k < (⟨l.toArray⟩ : ByteArray).size) (hk : k < l.length) : ((((⟨l.toArray⟩ : ByteArray)[k]'h).toNat : Int) == 58) = decide (l[k]? = some 58) := by
  have e : (⟨l.toArray⟩ : ByteArray)[k]'h = l[k] := rfl
  rw [e, List.getElem?_eq_getElem hk, Bool.eq_iff_iff]
  simp only [beq_iff_eq, decide_eq_true_eq, Option.some.injEq]
  constructor
  · intro h1
    exact UInt8.toNat_inj.1 (show l[k].toNat = (58 : UInt8).toNat by show l[k].toNat = 58; omega)
  · intro h1; rw [h1]; rfl
theorem ex_take (l : List UInt8) (i : Nat) : (⟨l.toArray⟩ : ByteArray).extract 0 i = ⟨(l.take i).toArray⟩ := by rw [str_extract]; simp
theorem ex_drop (l : List UInt8) (i : Nat) : (⟨l.toArray⟩ : ByteArray).extract i l.length = ⟨(l.drop i).toArray⟩ := by rw [str_extract, ← List.length_drop, List.take_length]
theorem whole_nil (p q : Int → Bool) : wholeB [] p q = false := rfl
theorem ret_parts {a b c d : ByteArray} {p : Int} (h1 : a = c) (h2 : b = d) : Ending.returned (.tuple #[.string a, .string b, .int .i64 p]) = .returned (.tuple #[.string c, .string d, .int .i64 p]) := by rw [h1, h2]

set_option maxHeartbeats 2000000 in
theorem rpart_any (l : List UInt8) (w : World) (hl : l.length ≤ 1000000) :
    Calls Tryd.prog 23 #[strV l] w fun e w' => e = .returned (partV l) ∧ Below w.heap.size w w' := by
  have H0 := risB_any l w false hl
  rw [show wholeB l (kindP false startN) (kindP false charN) = wholeB l startN charN from rfl] at H0
  cases hw : wholeB l startN charN with
  | false =>
    rw [partV_7 hw]
    rw [hw] at H0
    have H := Lib.hid H0
    clear hw H0
    go_enter Tryd.func23, Tryd.ntmps23
    go_wp2_with fail
    refine H.out.mono ?_
    rintro e w1 ⟨rfl, hb⟩
    go_wp2_with fail
    go_ret3
    exact ⟨rfl, hb⟩
  | true =>
    rw [hw] at H0
    have H := Lib.hid H0
    clear H0
    have HW := Lib.hid hw
    obtain ⟨v, hv⟩ : ∃ v, partV l = v := ⟨_, rfl⟩
    have HV := Lib.hid hv
    rw [hv]
    clear hw hv
    go_enter Tryd.func23, Tryd.ntmps23
    go_wp2_with fail
    refine H.out.mono ?_
    rintro e w1 ⟨rfl, hb1⟩
    go_wp2_with fail
    go_loop [5, 6, 7] (fun m a i => ∃ k : Nat, k ≤ l.length ∧ m = .int .i64 (cntC l k : Nat) ∧ a = .int .i64 (lastC l k : Nat) ∧ i = .int .i64 k) (fun m a i => l.length - (intOf i).toNat)
    case atStart => exact ⟨0, Nat.zero_le _, rfl, rfl, rfl⟩
    case round =>
      obtain ⟨k, hkn, rfl, rfl, rfl⟩ := hrel
      by_cases hlt : k < l.length
      · have hcl := cntC_le l k
        have hb58 := byte_58 l k (by exact hlt) hlt
        by_cases h58 : l[k]? = some 58
        · rw [decide_eq_true h58] at hb58
          go_wp2_with fail
          refine ⟨⟨k + 1, by omega, ?_, ?_, by go_num⟩, by simp [intOf]; omega⟩
          · rw [cntC, if_pos h58]; go_num
          · rw [lastC, if_pos h58]
        · rw [decide_eq_false h58] at hb58
          go_wp2_with fail
          refine ⟨⟨k + 1, by omega, ?_, ?_, by go_num⟩, by simp [intOf]; omega⟩
          · rw [cntC, if_neg h58]
          · rw [lastC, if_neg h58]
      · obtain rfl : k = l.length := by omega
        rcases colI_cases l with ⟨hc, hno⟩ | ⟨i, hc, hi, hno⟩
        · rw [cntC_none hno]
          have HE := Lib.hid (partV_one HW.out (by omega))
          clear hno hc
          go_wp2_with fail
          go_ret3
          exact ⟨by rw [← HV.out, HE.out]; rfl, hb1⟩
        · have hil : i < l.length := (List.getElem?_eq_some_iff.1 hi).1
          rcases cntC_first hi hno l.length hil with ⟨h1, h2⟩ | ⟨h1, j, h2, h3, h4⟩
          · rw [h1, h2]
            have HT := risB_any (l.take i) w1 true (by rw [List.length_take]; omega)
            have HD := fun w => risB_any (l.drop (i + 1)) w true (by rw [List.length_drop]; omega)
            rw [show strV (l.take i) = .string ((⟨l.toArray⟩ : ByteArray).extract 0 i) by rw [ex_take]] at HT
            rw [show strV (l.drop (i + 1)) = .string ((⟨l.toArray⟩ : ByteArray).extract (i + 1) l.length) by rw [ex_drop]] at HD
            rw [show kindP true startN = plainP startN from rfl, show kindP true charN = plainP charN from rfl] at HT HD
            by_cases h0 : i = 0
            · rw [show wholeB (l.take i) (plainP startN) (plainP charN) = false by rw [h0, List.take_zero, whole_nil]] at HT
              have HTT := Lib.hid HT
              have HE := Lib.hid (partV_9 HW.out hc (.inl h0))
              clear HT HD h1 h2 hi hno hc h0
              go_wp2_with fail
              refine HTT.out.mono ?_
              rintro e w2 ⟨rfl, hb2⟩
              go_wp2_with fail
              go_ret3
              exact ⟨by rw [← HV.out, HE.out]; rfl, hb1.trans (hb2.mono hb1.size)⟩
            · rw [whole_take HW.out hi hno h0] at HT
              have HTT := Lib.hid HT
              cases hp : wholeB (l.drop (i + 1)) (plainP startN) (plainP charN) with
              | false =>
                rw [hp] at HD
                have HDD := Lib.hid HD
                have HE := Lib.hid (partV_9 HW.out hc (.inr hp))
                clear HT HD h1 h2 hi hno hc hp
                go_wp2_with fail
                refine HTT.out.mono ?_
                rintro e w2 ⟨rfl, hb2⟩
                go_wp2_with fail
                refine (HDD.out w2).mono ?_
                rintro e w3 ⟨rfl, hb3⟩
                go_wp2_with fail
                go_ret3
                have hb12 := hb1.trans (hb2.mono hb1.size)
                exact ⟨by rw [← HV.out, HE.out]; rfl, hb12.trans (hb3.mono hb12.size)⟩
              | true =>
                rw [hp] at HD
                have HDD := Lib.hid HD
                have HE := Lib.hid (partV_two HW.out hc h0 hp)
                clear HT HD h1 h2 hi hno hc hp
                go_wp2_with fail
                refine HTT.out.mono ?_
                rintro e w2 ⟨rfl, hb2⟩
                go_wp2_with fail
                refine (HDD.out w2).mono ?_
                rintro e w3 ⟨rfl, hb3⟩
                go_wp2_with fail
                go_quiet (fail)
                go_wp2_with fail
                go_ret3
                have hb12 := hb1.trans (hb2.mono hb1.size)
                exact ⟨by rw [← HV.out, HE.out]; exact ret_parts (ex_take l i) (ex_drop l (i + 1)), below_drw (hb12.trans (hb3.mono hb12.size)) _⟩
          · have hcl := cntC_le l l.length
            have HE := Lib.hid (partV_9 HW.out hc (.inr (whole_not (p := startN) (q := charN) (j := j - (i + 1)) (by rw [List.getElem?_drop, show i + 1 + (j - (i + 1)) = j by omega]; exact h4))))
            obtain ⟨m, hm⟩ : ∃ m, cntC l l.length = m := ⟨_, rfl⟩
            obtain ⟨a, ha⟩ : ∃ a, lastC l l.length = a := ⟨_, rfl⟩
            rw [hm] at h1 hcl
            rw [hm, ha]
            clear hm ha h4 hi hno hc
            go_wp2_with fail
            go_ret3
            exact ⟨by rw [← HV.out, HE.out]; rfl, hb1⟩
end Go.Proofs.YtncoldgkljnbeaaDoor
