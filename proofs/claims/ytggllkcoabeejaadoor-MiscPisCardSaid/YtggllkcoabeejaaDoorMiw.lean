/- Processing instructions, put: the document's. -/
import Derived.Test.YtggllkcoabeejaaDoorMiv
import Derived.Test.YtggllkcoabeejaaDoorMin
namespace Go.Proofs.YtggllkcoabeejaaDoor
open Go.ChangeShapes Go.WideShapes Go.ChangeAt Go.RowKit
set_option linter.unusedVariables false
set_option maxRecDepth 100000

instance (T D : List UInt8) : Decidable (badPi T D) := by unfold badPi; infer_instance
def putpiV (T D : List UInt8) : Value := if badPi T D then .tuple #[.string ⟨#[]⟩, .int .i64 7] else if 1024 < T.length then .tuple #[.string ⟨#[]⟩, .int .i64 11] else .tuple #[strV (piT T D), .int .i64 0]
theorem fnd_bool (l sub : List UInt8) : ((0 : Int) ≤ fndV l sub 0) ↔ 0 ≤ Lib.index l sub := by
  unfold fndV
  rw [List.drop_zero]
  split <;> omega
set_option maxHeartbeats 4000000 in
theorem rputPi_any (T D : List UInt8) (w : World) (hT : T.length ≤ 1000000) (hD : D.length ≤ 1000000) :
    Calls Tryd.prog 17 #[strV T, strV D] w fun e w' => e = .returned (putpiV T D) ∧ Below w.heap.size w w' := by
  have hst := str_size T
  have hsd := str_size D
  obtain ⟨V, hV⟩ : ∃ V, putpiV T D = V := ⟨_, rfl⟩
  have HV := Lib.hid hV
  rw [hV]
  have KI' := risB_any T w true hT
  have KR' := fun (w' : World) => rreserved_any T w'
  rw [show wholeB T (kindP true startN) (kindP true charN) = wholeB T (plainP startN) (plainP charN) from rfl] at KI'
  obtain ⟨q1, hq1⟩ : ∃ q, wholeB T (plainP startN) (plainP charN) = q := ⟨_, rfl⟩
  obtain ⟨q2, hq2⟩ : ∃ q, resB T = q := ⟨_, rfl⟩
  rw [hq1] at KI'
  rw [hq2] at KR'
  have KI := Lib.hid KI'
  have KR := Lib.hid KR'
  clear KI' KR' hV
  cases q1 with
  | false =>
    have HC := Lib.hid (show V = .tuple #[.string ⟨#[]⟩, .int .i64 7] by rw [← HV.out]; unfold putpiV; rw [if_pos (.inl hq1)])
    clear hq1 hq2 HV
    go_enter Tryd.func17, Tryd.ntmps17
    go_wp2_with fail
    refine KI.out.mono ?_
    rintro e w1 ⟨rfl, b1⟩
    go_wp2_with fail
    go_ret2
    exact ⟨by have h := HC.out; subst h; rfl, b1⟩
  | true =>
    cases q2 with
    | true =>
      have HC := Lib.hid (show V = .tuple #[.string ⟨#[]⟩, .int .i64 7] by rw [← HV.out]; unfold putpiV; rw [if_pos (.inr (.inl hq2))])
      clear hq1 hq2 HV
      go_enter Tryd.func17, Tryd.ntmps17
      go_wp2_with fail
      refine KI.out.mono ?_
      rintro e w1 ⟨rfl, b1⟩
      go_wp2_with fail
      refine (KR.out _).mono ?_
      rintro e w2 ⟨rfl, rfl⟩
      go_wp2_with fail
      go_ret2
      exact ⟨by have h := HC.out; subst h; rfl, b1⟩
    | false =>
      have FB := Lib.hid (fnd_bool D pB)
      have FK := Lib.hid (fun (w' : World) (B cap : Nat) (hc : D.length ≤ cap) (hc' : cap ≤ 9223372036854775807) (hs : Sees w' (some ⟨B, 0, none⟩) (vB D)) => rfind_any D pB (some ⟨B, 0, none⟩) D.length cap 0 w' rfl hc hc' (by omega) (Nat.zero_le _) hs (by decide) (by decide))
      obtain ⟨z, hz⟩ : ∃ z, fndV D pB 0 = z := ⟨_, rfl⟩
      rw [hz] at FK FB
      by_cases h3 : 0 ≤ z
      · have HC := Lib.hid (show V = .tuple #[.string ⟨#[]⟩, .int .i64 7] by rw [← HV.out]; unfold putpiV; rw [if_pos (.inr (.inr (.inl (FB.out.1 h3))))])
        clear hq1 hq2 HV hz FB
        go_enter Tryd.func17, Tryd.ntmps17
        go_wp2_with fail
        refine KI.out.mono ?_
        rintro e w1 ⟨rfl, b1⟩
        go_wp2_with fail
        refine (KR.out _).mono ?_
        rintro e w2 ⟨rfl, rfl⟩
        obtain ⟨B1, cap1, u1, hcv, hc1, hc2, hu1, _, _, hsu⟩ := bytes_made D w1 hD
        go_wp2_with fail
        refine (FK.out _ _ _ hc1 hc2 hsu).mono ?_
        rintro e w3 ⟨rfl, hw3⟩
        subst hw3
        go_wp2_with fail
        go_ret2
        exact ⟨by have h := HC.out; subst h; rfl, b1.trans (hu1.mono b1.size)⟩
      · rcases D with _ | ⟨x, D⟩
        · have hnb : ¬ badPi T [] := by
            rintro (h | h | h | ⟨h, h'⟩)
            · rw [hq1] at h; cases h
            · rw [hq2] at h; cases h
            · exact h3 (FB.out.2 h)
            · exact h rfl
          by_cases h9 : 1024 < T.length
          · have h9i : (1024 : Int) < (T.length : Int) := by omega
            have HC := Lib.hid (show V = .tuple #[.string ⟨#[]⟩, .int .i64 11] by rw [← HV.out]; unfold putpiV; rw [if_neg hnb, if_pos h9])
            clear hq1 hq2 HV hz FB hnb
            go_enter Tryd.func17, Tryd.ntmps17
            go_wp2_with fail
            refine KI.out.mono ?_
            rintro e w1 ⟨rfl, b1⟩
            go_wp2_with fail
            refine (KR.out _).mono ?_
            rintro e w2 ⟨rfl, rfl⟩
            obtain ⟨B1, cap1, u1, hcv, hc1, hc2, hu1, _, _, hsu⟩ := bytes_made [] w1 hD
            go_wp2_with fail
            refine (FK.out _ _ _ hc1 hc2 hsu).mono ?_
            rintro e w3 ⟨rfl, hw3⟩
            subst hw3
            go_wp2_with fail
            go_ret2
            exact ⟨by have h := HC.out; subst h; rfl, b1.trans (hu1.mono b1.size)⟩

          · have h9i : ¬ ((1024 : Int) < (T.length : Int)) := by omega
            have HC := Lib.hid (show V = .tuple #[strV (pA ++ T ++ [] ++ pB), .int .i64 0] by rw [← HV.out]; unfold putpiV; rw [if_neg hnb, if_neg h9]; unfold piT piX; rw [if_pos rfl, ← List.append_assoc])
            clear hq1 hq2 HV hz FB hnb
            have a1 : (⟨#[60, 63]⟩ : ByteArray) ++ ⟨T.toArray⟩ = ⟨(pA ++ T).toArray⟩ := tx_app2 pA T
            rw [List.append_nil] at HC
            have a3 : (⟨(pA ++ T).toArray⟩ : ByteArray) ++ ⟨#[63, 62]⟩ = ⟨(pA ++ T ++ pB).toArray⟩ := tx_app2 (pA ++ T) pB
            have hly : (pA ++ T).length = T.length + 2 := by simp [pA]
            generalize pA ++ T = Y at a1 a3 hly HC
            generalize Y ++ pB = U at a3 HC
            have hszy := str_size Y
            rw [hly] at hszy
            have a2 : (⟨Y.toArray⟩ : ByteArray) ++ ⟨#[]⟩ = ⟨Y.toArray⟩ := (tx_app2 Y []).trans (by rw [List.append_nil])
            have n1 : ¬ 9223372036854775807 < T.length + 2 := by omega
            have n2 : ¬ 9223372036854775807 < T.length + 2 + 2 := by omega
            go_enter Tryd.func17, Tryd.ntmps17
            go_wp2_with fail
            refine KI.out.mono ?_
            rintro e w1 ⟨rfl, b1⟩
            go_wp2_with fail
            refine (KR.out _).mono ?_
            rintro e w2 ⟨rfl, rfl⟩
            obtain ⟨B1, cap1, u1, hcv, hc1, hc2, hu1, _, _, hsu⟩ := bytes_made [] w1 hD
            go_wp2_with fail
            refine (FK.out _ _ _ hc1 hc2 hsu).mono ?_
            rintro e w3 ⟨rfl, hw3⟩
            subst hw3
            go_wp2_with fail
            go_ret2
            exact ⟨by have h := HC.out; subst h; rfl, b1.trans (hu1.mono b1.size)⟩

        · have x0 : ∀ W : World, (Instr.index 9 (strV (x :: D)) (.int .i64 (0 : Int))).run Tryd.prog W = .ok (.int .u8 (byteAt (x :: D) 0 : Int)) W := fun W => str_idx (x :: D) 0 (by simp) W
          have hx9 : byteAt (x :: D) 0 < 256 := UInt8.toNat_lt x
          obtain ⟨d0, hd0⟩ : ∃ d, byteAt (x :: D) 0 = d := ⟨_, rfl⟩
          have KB' := fun (w' : World) => rblank_any (d0 : Int) w'
          obtain ⟨q4, hq4⟩ : ∃ q, blankB (d0 : Int) = q := ⟨_, rfl⟩
          rw [hq4] at KB'
          have KB := Lib.hid KB'
          have hbl0 : blankB (byteAt (x :: D) 0 : Int) = q4 := by rw [hd0]; exact hq4
          rw [hd0] at x0 hx9
          clear KB' hq4 hd0
          cases q4 with
          | true =>
            have HC := Lib.hid (show V = .tuple #[.string ⟨#[]⟩, .int .i64 7] by rw [← HV.out]; unfold putpiV; rw [if_pos (.inr (.inr (.inr ⟨by simp, hbl0⟩)))])
            clear hq1 hq2 HV hz FB hbl0
            go_enter Tryd.func17, Tryd.ntmps17
            go_wp2_with fail
            refine KI.out.mono ?_
            rintro e w1 ⟨rfl, b1⟩
            go_wp2_with fail
            refine (KR.out _).mono ?_
            rintro e w2 ⟨rfl, rfl⟩
            obtain ⟨B1, cap1, u1, hcv, hc1, hc2, hu1, _, _, hsu⟩ := bytes_made (x :: D) w1 hD
            go_wp2_with fail
            refine (FK.out _ _ _ hc1 hc2 hsu).mono ?_
            rintro e w3 ⟨rfl, hw3⟩
            subst hw3
            go_wp2_with fail
            refine (KB.out _).mono ?_
            rintro e w4 ⟨rfl, rfl⟩
            go_wp2_with fail
            go_ret2
            exact ⟨by have h := HC.out; subst h; rfl, b1.trans (hu1.mono b1.size)⟩

          | false =>
            have hbl : blankB (byteAt (x :: D) 0 : Int) = false := hbl0
            clear hbl0
            have hnb : ¬ badPi T (x :: D) := by
              rintro (h | h | h | ⟨h, h'⟩)
              · rw [hq1] at h; cases h
              · rw [hq2] at h; cases h
              · exact h3 (FB.out.2 h)
              · rw [hbl] at h'; cases h'
            by_cases h9 : 1024 < T.length
            · have h9i : (1024 : Int) < (T.length : Int) := by omega
              have HC := Lib.hid (show V = .tuple #[.string ⟨#[]⟩, .int .i64 11] by rw [← HV.out]; unfold putpiV; rw [if_neg hnb, if_pos h9])
              clear hq1 hq2 HV hz FB hnb
              go_enter Tryd.func17, Tryd.ntmps17
              go_wp2_with fail
              refine KI.out.mono ?_
              rintro e w1 ⟨rfl, b1⟩
              go_wp2_with fail
              refine (KR.out _).mono ?_
              rintro e w2 ⟨rfl, rfl⟩
              obtain ⟨B1, cap1, u1, hcv, hc1, hc2, hu1, _, _, hsu⟩ := bytes_made (x :: D) w1 hD
              go_wp2_with fail
              refine (FK.out _ _ _ hc1 hc2 hsu).mono ?_
              rintro e w3 ⟨rfl, hw3⟩
              subst hw3
              go_wp2_with fail
              refine (KB.out _).mono ?_
              rintro e w4 ⟨rfl, rfl⟩
              go_wp2_with fail
              go_ret2
              exact ⟨by have h := HC.out; subst h; rfl, b1.trans (hu1.mono b1.size)⟩

            · have h9i : ¬ ((1024 : Int) < (T.length : Int)) := by omega
              have HC := Lib.hid (show V = .tuple #[strV (pA ++ T ++ (32 :: x :: D) ++ pB), .int .i64 0] by rw [← HV.out]; unfold putpiV; rw [if_neg hnb, if_neg h9]; unfold piT piX; rw [if_neg (by simp), ← List.append_assoc])
              clear hq1 hq2 HV hz FB hnb
              have a0 : (⟨#[32]⟩ : ByteArray) ++ ⟨((x :: D)).toArray⟩ = ⟨(32 :: x :: D).toArray⟩ := tx_app2 [32] ((x :: D))
              have a1 : (⟨#[60, 63]⟩ : ByteArray) ++ ⟨T.toArray⟩ = ⟨(pA ++ T).toArray⟩ := tx_app2 pA T
              have a2 : (⟨(pA ++ T).toArray⟩ : ByteArray) ++ ⟨((32 :: x :: D) : List UInt8).toArray⟩ = ⟨(pA ++ T ++ (32 :: x :: D)).toArray⟩ := tx_app2 (pA ++ T) (32 :: x :: D)
              have a3 : (⟨(pA ++ T ++ (32 :: x :: D)).toArray⟩ : ByteArray) ++ ⟨#[63, 62]⟩ = ⟨(pA ++ T ++ (32 :: x :: D) ++ pB).toArray⟩ := tx_app2 (pA ++ T ++ (32 :: x :: D)) pB
              have hly : (pA ++ T).length = T.length + 2 := by simp [pA]
              have hlx : (pA ++ T ++ (32 :: x :: D)).length = T.length + 2 + (D.length + 2) := by rw [List.length_append, hly]; simp
              generalize pA ++ T = Y at a1 a2 a3 hly hlx HC
              generalize Y ++ (32 :: x :: D) = X at a2 a3 hlx HC
              generalize X ++ pB = U at a3 HC
              have hszy := str_size Y
              rw [hly] at hszy
              have hszx := str_size X
              rw [hlx] at hszx
              have hsz0 := str_size (32 :: x :: D)
              have hDl : D.length + 1 ≤ 1000000 := by simpa using hD
              have n0 : ¬ 9223372036854775807 < 1 + (D.length + 1) := by omega
              have n1 : ¬ 9223372036854775807 < T.length + 2 + (D.length + 1 + 1) := by omega
              have n2 : ¬ 9223372036854775807 < T.length + 2 + (D.length + 2) + 2 := by omega
              clear hDl
              go_enter Tryd.func17, Tryd.ntmps17
              go_wp2_with fail
              refine KI.out.mono ?_
              rintro e w1 ⟨rfl, b1⟩
              go_wp2_with fail
              refine (KR.out _).mono ?_
              rintro e w2 ⟨rfl, rfl⟩
              obtain ⟨B1, cap1, u1, hcv, hc1, hc2, hu1, _, _, hsu⟩ := bytes_made (x :: D) w1 hD
              go_wp2_with fail
              refine (FK.out _ _ _ hc1 hc2 hsu).mono ?_
              rintro e w3 ⟨rfl, hw3⟩
              subst hw3
              go_wp2_with fail
              refine (KB.out _).mono ?_
              rintro e w4 ⟨rfl, rfl⟩
              go_wp2_with fail
              go_ret2
              exact ⟨by have h := HC.out; subst h; rfl, b1.trans (hu1.mono b1.size)⟩
end Go.Proofs.YtggllkcoabeejaaDoor
