/- The walk of MiscPis. -/
import Derived.Test.YtggllkcoabeejaaDoorMix
import Derived.Test.YtggllkcoabeejaaDoorMip
namespace Go.Proofs.YtggllkcoabeejaaDoor
open Go.ChangeShapes Go.WideShapes Go.ChangeAt Go.RowKit
set_option linter.unusedVariables false
set_option maxRecDepth 100000

set_option maxHeartbeats 8000000 in
theorem miscPis_any (T D : List UInt8) (w : World) (hm : MaxAt w) (ht : TabN w) (hR : ResOk w) :
    Calls Tryd.prog 5 #[strV T, strV D] w fun e w' => e = .returned (.bool true) ∧ Below w.heap.size w w' := by
  have hst := str_size T
  have hsd := str_size D
  have LV := Lib.hid (fun (w' : World) (hb : Below w.heap.size w w') => live08_any w' (hm.below hb) (ht.below hb))
  by_cases hT : 1200 < T.length
  · have d1 : (1200 : Int) < (T.length : Int) := by omega
    clear hm ht hR
    go_enter Tryd.func5, Tryd.ntmps5
    go_wp2_with fail
    refine (LV.out _ (Below.refl _ _)).mono ?_
    rintro e w2 ⟨rfl, b2⟩
    go_wp2_with fail
    go_ret
    exact ⟨rfl, b2⟩
  · have d1 : ¬ ((1200 : Int) < (T.length : Int)) := by omega
    by_cases hD : 300 < D.length
    · have d2 : (300 : Int) < (D.length : Int) := by omega
      clear hm ht hR
      go_enter Tryd.func5, Tryd.ntmps5
      go_wp2_with fail
      refine (LV.out _ (Below.refl _ _)).mono ?_
      rintro e w2 ⟨rfl, b2⟩
      go_wp2_with fail
      go_ret
      exact ⟨rfl, b2⟩
    · have d2 : ¬ ((300 : Int) < (D.length : Int)) := by omega
      have K1' := putPi_any T D w (by omega) (by omega) hm ht hR
      have K2' := fun (w' : World) => rputPi_any T D w' (by omega) (by omega)
      have K3' := fun (w' : World) (hb : Below w.heap.size w w') => hR T w' hb
      have K4' := fun (w' : World) => rreserved_any T w'
      obtain ⟨q, hq⟩ : ∃ q, resB T = q := ⟨_, rfl⟩
      rw [hq] at K3' K4'
      have K3 := Lib.hid K3'
      have K4 := Lib.hid K4'
      clear K3' K4' hq
      have hbb : (q != q) = false := by cases q <;> rfl
      by_cases hbad : badPi T D
      · rw [show putpiV T D = .tuple #[.string ⟨#[]⟩, .int .i64 7] by unfold putpiV; rw [if_pos hbad]] at K1' K2'
        have K1 := Lib.hid K1'
        have K2 := Lib.hid K2'
        clear K1' K2' hm ht hR
        go_enter Tryd.func5, Tryd.ntmps5
        go_wp2_with fail
        refine K1.out.mono ?_
        rintro e w1 ⟨rfl, b1⟩
        go_wp2_with fail
        refine (K2.out _).mono ?_
        rintro e w2 ⟨rfl, c2⟩
        have b2 := b1.trans (c2.mono b1.size)
        go_wp2_with fail
        refine (K3.out _ b2).mono ?_
        rintro e w3 ⟨rfl, c3⟩
        have b3 := b2.trans (c3.mono b2.size)
        go_wp2_with fail
        refine (K4.out _).mono ?_
        rintro e w4 ⟨rfl, rfl⟩
        go_wp2_with fail
        refine (LV.out _ b3).mono ?_
        rintro e w5 ⟨rfl, c5⟩
        go_wp2_with fail
        go_ret
        exact ⟨rfl, b3.trans (c5.mono b3.size)⟩
      · by_cases h9 : 1024 < T.length
        · rw [show putpiV T D = .tuple #[.string ⟨#[]⟩, .int .i64 11] by unfold putpiV; rw [if_neg hbad, if_pos h9]] at K1' K2'
          have K1 := Lib.hid K1'
          have K2 := Lib.hid K2'
          clear K1' K2' hm ht hR
          go_enter Tryd.func5, Tryd.ntmps5
          go_wp2_with fail
          refine K1.out.mono ?_
          rintro e w1 ⟨rfl, b1⟩
          go_wp2_with fail
          refine (K2.out _).mono ?_
          rintro e w2 ⟨rfl, c2⟩
          have b2 := b1.trans (c2.mono b1.size)
          go_wp2_with fail
          refine (K3.out _ b2).mono ?_
          rintro e w3 ⟨rfl, c3⟩
          have b3 := b2.trans (c3.mono b2.size)
          go_wp2_with fail
          refine (K4.out _).mono ?_
          rintro e w4 ⟨rfl, rfl⟩
          go_wp2_with fail
          refine (LV.out _ b3).mono ?_
          rintro e w5 ⟨rfl, c5⟩
          go_wp2_with fail
          go_ret
          exact ⟨rfl, b3.trans (c5.mono b3.size)⟩
        · have hrd := pi_read hbad (by omega)
          have hul : (piT T D).length ≤ 1600 := by
            unfold piT piX
            split
            · simp [pA, pB]; omega
            · simp [pA, pB]; omega
          rw [show putpiV T D = .tuple #[strV (piT T D), .int .i64 0] by unfold putpiV; rw [if_neg hbad, if_neg h9]] at K1' K2'
          generalize piT T D = U at K1' K2' hrd hul
          obtain ⟨n, hn⟩ : ∃ n, U.length = n := ⟨_, rfl⟩
          have hsu := str_size U
          rw [hn] at hsu hrd hul
          have K1 := Lib.hid K1'
          have K2 := Lib.hid K2'
          have HM := Lib.hid (fun (w' : World) (hb : Below w.heap.size w w') => (⟨hm.below hb, ht.below hb, hR.below hb⟩ : MaxAt w' ∧ TabN w' ∧ ResOk w'))
          have HRD := Lib.hid hrd
          clear K1' K2' hm ht hR hrd
          go_enter Tryd.func5, Tryd.ntmps5
          go_wp2_with fail
          refine K1.out.mono ?_
          rintro e w1 ⟨rfl, b1⟩
          go_wp2_with fail
          refine (K2.out _).mono ?_
          rintro e w2 ⟨rfl, c2⟩
          have b2 := b1.trans (c2.mono b1.size)
          go_wp2_with fail
          refine (K3.out _ b2).mono ?_
          rintro e w3 ⟨rfl, c3⟩
          have b3 := b2.trans (c3.mono b2.size)
          obtain ⟨B1, cap1, u1, hcv, hcc, hcc', hu1, _, _, hsv⟩ := bytes_made U w3 (by omega)
          have bu := b3.trans (hu1.mono b3.size)
          have KP' : Calls Tryd.prog 11 #[.slice (some ⟨B1, 0, none⟩) n cap1, .int .i64 0] u1 fun e w' => e = .returned (piV U 0) ∧ Below u1.heap.size u1 w' := by
            obtain ⟨m1, m2, m3⟩ := HM.out _ bu
            exact pi_any U (some ⟨B1, 0, none⟩) n cap1 0 u1 hn (by omega) hcc' (by omega) ⟨by omega, by omega⟩ hsv m1 m2 m3
          rw [HRD.out] at KP'
          rw [hn] at hcv hcc
          have KP := Lib.hid KP'
          have BU := Lib.hid bu
          clear KP' hsv hn bu
          go_wp2_with fail
          refine (K4.out _).mono ?_
          rintro e w4 ⟨rfl, rfl⟩
          go_wp2_with fail
          refine KP.out.mono ?_
          rintro e w5 ⟨rfl, c5⟩
          have b5 := BU.out.trans (c5.mono BU.out.size)
          go_wp2_with fail
          refine (LV.out _ b5).mono ?_
          rintro e w6 ⟨rfl, c6⟩
          go_wp2_with fail
          go_ret
          exact ⟨rfl, b5.trans (c6.mono b5.size)⟩
end Go.Proofs.YtggllkcoabeejaaDoor
