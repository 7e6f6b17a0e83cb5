/- Processing instructions, put: the program's. -/
import Derived.Test.YtggllkcoabeejaaDoorMiw
import Derived.Test.YtggllkcoabeejaaDoorMim
namespace Go.Proofs.YtggllkcoabeejaaDoor
open Go.ChangeShapes Go.WideShapes Go.ChangeAt Go.RowKit
set_option linter.unusedVariables false
set_option maxRecDepth 100000

set_option maxHeartbeats 4000000 in
theorem putPi_any (T D : List UInt8) (w : World) (hT : T.length ≤ 90000) (hD : D.length ≤ 900000) (hm : MaxAt w) (ht : TabN w) (hR : ResOk w) :
    Calls Tryd.prog 16 #[strV T, strV D] w fun e w' => e = .returned (putpiV T D) ∧ Below w.heap.size w w' := by
  have hst := str_size T
  have hsd := str_size D
  obtain ⟨V, hV⟩ : ∃ V, putpiV T D = V := ⟨_, rfl⟩
  have HV := Lib.hid hV
  rw [hV]
  have KI' := isPlain_any T w (by omega) ht
  have KR' := fun (w' : World) (hb : Below w.heap.size w w') => hR T w' hb
  obtain ⟨q1, hq1⟩ : ∃ q, wholeB T (plainP startN) (plainP charN) = q := ⟨_, rfl⟩
  obtain ⟨q2, hq2⟩ : ∃ q, resB T = q := ⟨_, rfl⟩
  rw [hq1] at KI'
  rw [hq2] at KR'
  have KI := Lib.hid KI'
  have KR := Lib.hid KR'
  have KC' := sContains_any D pB w (by omega) hm
  rw [show Lib.contains D pB = decide (0 ≤ Lib.index D pB) from rfl] at KC'
  clear KI' KR' hV hm ht hR
  rcases D with _ | ⟨x, D⟩
  · clear KC'
    cases q1 with
    | false =>
      have HC := Lib.hid (show V = .tuple #[.string ⟨#[]⟩, .int .i64 7] by rw [← HV.out]; unfold putpiV; rw [if_pos (.inl hq1)])
      clear hq1 hq2 HV
      go_enter Tryd.func16, Tryd.ntmps16
      go_wp2_with fail
      refine KI.out.mono ?_
      rintro e w1 ⟨rfl, b1⟩
      go_wp2_with fail
      go_ret2
      exact ⟨by have h := HC.out; subst h; rfl, b1⟩
    | true =>
      cases q2 with
      | true =>
        have HC := Lib.hid (show V = .tuple #[.string ⟨#[]⟩, .int .i64 7] by rw [← HV.out]; unfold putpiV; rw [if_pos (.inr (.inl hq2))])
        clear hq1 hq2 HV
        go_enter Tryd.func16, Tryd.ntmps16
        go_wp2_with fail
        refine KI.out.mono ?_
        rintro e w1 ⟨rfl, b1⟩
        go_wp2_with fail
        refine (KR.out _ b1).mono ?_
        rintro e w2 ⟨rfl, c2⟩
        have b2 := b1.trans (c2.mono b1.size)
        go_wp2_with fail
        go_ret2
        exact ⟨by have h := HC.out; subst h; rfl, b2⟩
      | false =>
        have hnb : ¬ badPi T [] := by
          rintro (h | h | h | ⟨h, h'⟩)
          · rw [hq1] at h; cases h
          · rw [hq2] at h; cases h
          · exact absurd h (by decide)
          · exact h rfl
        by_cases h9 : 1024 < T.length
        · have h9i : (1024 : Int) < (T.length : Int) := by omega
          have HC := Lib.hid (show V = .tuple #[.string ⟨#[]⟩, .int .i64 11] by rw [← HV.out]; unfold putpiV; rw [if_neg hnb, if_pos h9])
          clear hq1 hq2 HV hnb
          go_enter Tryd.func16, Tryd.ntmps16
          go_wp2_with fail
          refine KI.out.mono ?_
          rintro e w1 ⟨rfl, b1⟩
          go_wp2_with fail
          refine (KR.out _ b1).mono ?_
          rintro e w2 ⟨rfl, c2⟩
          have b2 := b1.trans (c2.mono b1.size)
          go_wp2_with fail
          go_ret2
          exact ⟨by have h := HC.out; subst h; rfl, b2⟩
        · have h9i : ¬ ((1024 : Int) < (T.length : Int)) := by omega
          have HC := Lib.hid (show V = .tuple #[strV (pA ++ (T ++ []) ++ pB), .int .i64 0] by rw [← HV.out]; unfold putpiV; rw [if_neg hnb, if_neg h9]; unfold piT piX; rw [if_pos rfl, List.append_assoc, List.append_assoc, List.append_assoc])
          clear hq1 hq2 HV hnb
          rw [List.append_nil] at HC
          have a1 : (⟨T.toArray⟩ : ByteArray) ++ ⟨#[]⟩ = ⟨T.toArray⟩ := (tx_app2 T []).trans (by rw [List.append_nil])
          have n1 : ¬ 9223372036854775807 < T.length := by omega
          have KM := Lib.hid (fun (F : Value) (w' : World) => mput_any pA pB T F w' (by simp [pA]) (by simp [pB]) (by omega))
          go_enter Tryd.func16, Tryd.ntmps16
          go_wp2_with fail
          refine KI.out.mono ?_
          rintro e w1 ⟨rfl, b1⟩
          go_wp2_with fail
          refine (KR.out _ b1).mono ?_
          rintro e w2 ⟨rfl, c2⟩
          have b2 := b1.trans (c2.mono b1.size)
          go_wp2_with fail
          refine (pMarks_any _).mono ?_
          rintro e w3 ⟨b, rfl, c3, hc3⟩
          have b3 := b2.trans (c3.mono b2.size)
          go_wp2_with fail
          refine (KM.out _ _).mono ?_
          rintro e w4 ⟨rfl, c4⟩
          go_wp2_with fail
          go_ret2
          exact ⟨by have h := HC.out; subst h; rfl, b3.trans (c4.mono b3.size)⟩
  · by_cases h3 : 0 ≤ Lib.index (x :: D) pB
    · rw [decide_eq_true h3] at KC'
      have KC := Lib.hid KC'
      clear KC'
      have HC := Lib.hid (show V = .tuple #[.string ⟨#[]⟩, .int .i64 7] by rw [← HV.out]; unfold putpiV; rw [if_pos (.inr (.inr (.inl h3)))])
      clear hq1 hq2 HV
      go_enter Tryd.func16, Tryd.ntmps16
      go_wp2_with fail
      refine KC.out.mono ?_
      rintro e wc ⟨rfl, rfl⟩
      go_wp2_with fail
      go_ret2
      exact ⟨by have h := HC.out; subst h; rfl, Below.refl _ _⟩
    · rw [decide_eq_false h3] at KC'
      have KC := Lib.hid KC'
      clear KC'
      have x0 : ∀ W : World, (Instr.index 9 (strV (x :: D)) (.int .i64 (0 : Int))).run Tryd.prog W = .ok (.int .u8 (byteAt (x :: D) 0 : Int)) W := fun W => str_idx (x :: D) 0 (by simp) W
      have hx9 : byteAt (x :: D) 0 < 256 := UInt8.toNat_lt x
      obtain ⟨d0, hd0⟩ : ∃ d, byteAt (x :: D) 0 = d := ⟨_, rfl⟩
      have KB' := fun (w' : World) => blank_any (d0 : Int) w'
      obtain ⟨q4, hq4⟩ : ∃ q, blankB (d0 : Int) = q := ⟨_, rfl⟩
      rw [hq4] at KB'
      have KB := Lib.hid KB'
      have hbl0 : blankB (byteAt (x :: D) 0 : Int) = q4 := by rw [hd0]; exact hq4
      rw [hd0] at x0 hx9
      clear KB' hq4 hd0
      cases q4 with
      | true =>
        have HC := Lib.hid (show V = .tuple #[.string ⟨#[]⟩, .int .i64 7] by rw [← HV.out]; unfold putpiV; rw [if_pos (.inr (.inr (.inr ⟨by simp, hbl0⟩)))])
        clear hq1 hq2 HV hbl0
        go_enter Tryd.func16, Tryd.ntmps16
        go_wp2_with fail
        refine KC.out.mono ?_
        rintro e wc ⟨rfl, rfl⟩
        go_wp2_with fail
        refine (KB.out _).mono ?_
        rintro e wb ⟨rfl, rfl⟩
        go_wp2_with fail
        go_ret2
        exact ⟨by have h := HC.out; subst h; rfl, Below.refl _ _⟩
      | false =>
        have hbl : blankB (byteAt (x :: D) 0 : Int) = false := hbl0
        clear hbl0
        have hDl : D.length + 1 ≤ 900000 := hD
        have a0 : (⟨#[32]⟩ : ByteArray) ++ ⟨(x :: D).toArray⟩ = ⟨(32 :: x :: D).toArray⟩ := tx_app2 [32] (x :: D)
        have n0 : ¬ 9223372036854775807 < 1 + (D.length + 1) := by omega
        cases q1 with
        | false =>
          have HC := Lib.hid (show V = .tuple #[.string ⟨#[]⟩, .int .i64 7] by rw [← HV.out]; unfold putpiV; rw [if_pos (.inl hq1)])
          clear hq1 hq2 HV
          go_enter Tryd.func16, Tryd.ntmps16
          go_wp2_with fail
          refine KC.out.mono ?_
          rintro e wc ⟨rfl, rfl⟩
          go_wp2_with fail
          refine (KB.out _).mono ?_
          rintro e wb ⟨rfl, rfl⟩
          go_wp2_with fail
          refine KI.out.mono ?_
          rintro e w1 ⟨rfl, b1⟩
          go_wp2_with fail
          go_ret2
          exact ⟨by have h := HC.out; subst h; rfl, b1⟩
        | true =>
          cases q2 with
          | true =>
            have HC := Lib.hid (show V = .tuple #[.string ⟨#[]⟩, .int .i64 7] by rw [← HV.out]; unfold putpiV; rw [if_pos (.inr (.inl hq2))])
            clear hq1 hq2 HV
            go_enter Tryd.func16, Tryd.ntmps16
            go_wp2_with fail
            refine KC.out.mono ?_
            rintro e wc ⟨rfl, rfl⟩
            go_wp2_with fail
            refine (KB.out _).mono ?_
            rintro e wb ⟨rfl, rfl⟩
            go_wp2_with fail
            refine KI.out.mono ?_
            rintro e w1 ⟨rfl, b1⟩
            go_wp2_with fail
            refine (KR.out _ b1).mono ?_
            rintro e w2 ⟨rfl, c2⟩
            have b2 := b1.trans (c2.mono b1.size)
            go_wp2_with fail
            go_ret2
            exact ⟨by have h := HC.out; subst h; rfl, b2⟩
          | false =>
            have hnb : ¬ badPi T (x :: D) := by
              rintro (h | h | h | ⟨h, h'⟩)
              · rw [hq1] at h; cases h
              · rw [hq2] at h; cases h
              · exact h3 h
              · rw [hbl] at h'; cases h'
            by_cases h9 : 1024 < T.length
            · have h9i : (1024 : Int) < (T.length : Int) := by omega
              have HC := Lib.hid (show V = .tuple #[.string ⟨#[]⟩, .int .i64 11] by rw [← HV.out]; unfold putpiV; rw [if_neg hnb, if_pos h9])
              clear hq1 hq2 HV hnb
              go_enter Tryd.func16, Tryd.ntmps16
              go_wp2_with fail
              refine KC.out.mono ?_
              rintro e wc ⟨rfl, rfl⟩
              go_wp2_with fail
              refine (KB.out _).mono ?_
              rintro e wb ⟨rfl, rfl⟩
              go_wp2_with fail
              refine KI.out.mono ?_
              rintro e w1 ⟨rfl, b1⟩
              go_wp2_with fail
              refine (KR.out _ b1).mono ?_
              rintro e w2 ⟨rfl, c2⟩
              have b2 := b1.trans (c2.mono b1.size)
              go_wp2_with fail
              go_ret2
              exact ⟨by have h := HC.out; subst h; rfl, b2⟩
            · have h9i : ¬ ((1024 : Int) < (T.length : Int)) := by omega
              have HC := Lib.hid (show V = .tuple #[strV (pA ++ (T ++ (32 :: x :: D)) ++ pB), .int .i64 0] by rw [← HV.out]; unfold putpiV; rw [if_neg hnb, if_neg h9]; unfold piT piX; rw [if_neg (by simp), List.append_assoc, List.append_assoc, List.append_assoc])
              clear hq1 hq2 HV hnb
              have a1 : (⟨T.toArray⟩ : ByteArray) ++ ⟨(32 :: x :: D : List UInt8).toArray⟩ = ⟨(T ++ 32 :: x :: D).toArray⟩ := tx_app2 T (32 :: x :: D)
              have hly : (T ++ 32 :: x :: D).length = T.length + (D.length + 2) := by simp
              generalize T ++ 32 :: x :: D = Y at a1 hly HC
              have n1 : ¬ 9223372036854775807 < T.length + (D.length + 1 + 1) := by omega
              have KM := Lib.hid (fun (F : Value) (w' : World) => mput_any pA pB Y F w' (by simp [pA]) (by simp [pB]) (by rw [hly]; omega))
              go_enter Tryd.func16, Tryd.ntmps16
              go_wp2_with fail
              refine KC.out.mono ?_
              rintro e wc ⟨rfl, rfl⟩
              go_wp2_with fail
              refine (KB.out _).mono ?_
              rintro e wb ⟨rfl, rfl⟩
              go_wp2_with fail
              refine KI.out.mono ?_
              rintro e w1 ⟨rfl, b1⟩
              go_wp2_with fail
              refine (KR.out _ b1).mono ?_
              rintro e w2 ⟨rfl, c2⟩
              have b2 := b1.trans (c2.mono b1.size)
              go_wp2_with fail
              refine (pMarks_any _).mono ?_
              rintro e w3 ⟨b, rfl, c3, hc3⟩
              have b3 := b2.trans (c3.mono b2.size)
              go_wp2_with fail
              refine (KM.out _ _).mono ?_
              rintro e w4 ⟨rfl, c4⟩
              go_wp2_with fail
              go_ret2
              exact ⟨by have h := HC.out; subst h; rfl, b3.trans (c4.mono b3.size)⟩
end Go.Proofs.YtggllkcoabeejaaDoor
