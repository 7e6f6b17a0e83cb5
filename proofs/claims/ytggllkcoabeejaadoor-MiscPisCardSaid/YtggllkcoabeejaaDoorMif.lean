/- Comments and marked texts, put. -/
import Derived.Test.YtggllkcoabeejaaDoorMie
namespace Go.Proofs.YtggllkcoabeejaaDoor
open Go.ChangeShapes Go.WideShapes Go.ChangeAt Go.RowKit
set_option linter.unusedVariables false
set_option maxRecDepth 100000

theorem tx_app2 (l m : List UInt8) : (⟨l.toArray⟩ : ByteArray) ++ ⟨m.toArray⟩ = ⟨(l ++ m).toArray⟩ := by
  apply ByteArray.ext
  simp [ByteArray.data_append]
set_option maxHeartbeats 1000000 in
theorem mput_any (a b l : List UInt8) (F : Value) (w : World) (ha : a.length ≤ 1000) (hb : b.length ≤ 1000) (hl : l.length ≤ 1000000) :
    Calls Tryd.prog 32 #[.agg #[strV a, strV b, F], strV l] w fun e w' => e = .returned (strV (a ++ l ++ b)) ∧ Below w.heap.size w w' := by
  have h1 := str_size a
  have h2 := str_size b
  have h3 := str_size l
  have h4 := tx_app2 a l
  have h5 := tx_app2 (a ++ l) b
  have n1 : ¬ 9223372036854775807 < a.length + l.length := by omega
  have n2 : ¬ 9223372036854775807 < a.length + l.length + b.length := by omega
  go_enter Tryd.func32, Tryd.ntmps32
  go_wp2_with fail
  go_ret
  exact ⟨by rw [List.append_assoc]; rfl, (Below.refl _ _).alloc (Nat.le_refl _) _⟩
def putcV (l : List UInt8) : Value := if 0 ≤ Lib.index (l ++ [45]) [45, 45] then .tuple #[.string ⟨#[]⟩, .int .i64 7] else .tuple #[strV (cA ++ l ++ cB), .int .i64 0]
def putdV (l : List UInt8) : Value := if 0 ≤ Lib.index l dB then .tuple #[.string ⟨#[]⟩, .int .i64 7] else .tuple #[strV (dA ++ l ++ dB), .int .i64 0]
set_option maxHeartbeats 1000000 in
theorem putc_any (l : List UInt8) (w : World) (hl : l.length ≤ 1000000) (hm : MaxAt w) :
    Calls Tryd.prog 13 #[strV l] w fun e w' => e = .returned (putcV l) ∧ Below w.heap.size w w' := by
  have K1' := sContains_any l [45, 45] w (by omega) hm
  have K2' := sSuffix_any l [45] w (by omega)
  have K3 := Lib.hid (fun (w' : World) => mput_any cA cB l (.func (.func 38) #[] #[]) w' (by simp [cA]) (by simp [cB]) hl)
  have hbad := cmt_bad l
  obtain ⟨V, hV⟩ : ∃ V, putcV l = V := ⟨_, rfl⟩
  have HV := Lib.hid hV
  rw [hV]
  unfold putcV at HV
  obtain ⟨q1, hq1⟩ : ∃ q, Lib.contains l [45, 45] = q := ⟨_, rfl⟩
  obtain ⟨q2, hq2⟩ : ∃ q, Lib.hasSuffix l [45] = q := ⟨_, rfl⟩
  rw [hq1] at K1' hbad
  rw [hq2] at K2' hbad
  have K1 := Lib.hid K1'
  have K2 := Lib.hid K2'
  have HB := Lib.hid hbad
  clear K1' K2' hbad hq1 hq2 hV hm
  cases q1 with
  | true =>
    have HC := Lib.hid (show V = .tuple #[.string ⟨#[]⟩, .int .i64 7] by rw [← HV.out, if_pos (of_decide_eq_true (HB.out.symm.trans rfl))])
    go_enter Tryd.func13, Tryd.ntmps13
    go_wp2_with fail
    refine K1.out.mono ?_
    rintro e w1 ⟨rfl, rfl⟩
    go_wp2_with fail
    go_ret2
    exact ⟨by have h := HC.out; subst h; rfl, Below.refl _ _⟩
  | false =>
    cases q2 with
    | true =>
      have HC := Lib.hid (show V = .tuple #[.string ⟨#[]⟩, .int .i64 7] by rw [← HV.out, if_pos (of_decide_eq_true (HB.out.symm.trans rfl))])
      go_enter Tryd.func13, Tryd.ntmps13
      go_wp2_with fail
      refine K1.out.mono ?_
      rintro e w1 ⟨rfl, rfl⟩
      go_wp2_with fail
      refine K2.out.mono ?_
      rintro e w1 ⟨rfl, rfl⟩
      go_wp2_with fail
      go_ret2
      exact ⟨by have h := HC.out; subst h; rfl, Below.refl _ _⟩
    | false =>
      have HC := Lib.hid (show V = .tuple #[strV (cA ++ l ++ cB), .int .i64 0] by rw [← HV.out, if_neg (of_decide_eq_false (HB.out.symm.trans rfl))])
      go_enter Tryd.func13, Tryd.ntmps13
      go_wp2_with fail
      refine K1.out.mono ?_
      rintro e w1 ⟨rfl, rfl⟩
      go_wp2_with fail
      refine K2.out.mono ?_
      rintro e w1 ⟨rfl, rfl⟩
      go_wp2_with fail
      refine (cMarks_any _).mono ?_
      rintro e w1 ⟨rfl, b1⟩
      go_wp2_with fail
      refine (K3.out _).mono ?_
      rintro e w2 ⟨rfl, b2⟩
      go_wp2_with fail
      go_ret2
      exact ⟨by have h := HC.out; subst h; rfl, b1.trans (b2.mono b1.size)⟩
set_option maxHeartbeats 1000000 in
theorem putd_any (l : List UInt8) (w : World) (hl : l.length ≤ 1000000) (hm : MaxAt w) :
    Calls Tryd.prog 15 #[strV l] w fun e w' => e = .returned (putdV l) ∧ Below w.heap.size w w' := by
  have K1' := sContains_any l dB w (by omega) hm
  have K3 := Lib.hid (fun (b : Nat) (w' : World) => mput_any dA dB l (.func (.func 54) #[] #[.pointer (some ⟨b, 0, none⟩)]) w' (by simp [dA]) (by simp [dB]) hl)
  obtain ⟨V, hV⟩ : ∃ V, putdV l = V := ⟨_, rfl⟩
  have HV := Lib.hid hV
  rw [hV]
  unfold putdV at HV
  have hq0 : Lib.contains l dB = decide (0 ≤ Lib.index l dB) := rfl
  obtain ⟨q1, hq1⟩ : ∃ q, Lib.contains l dB = q := ⟨_, rfl⟩
  rw [hq1] at K1' hq0
  have K1 := Lib.hid K1'
  have HB := Lib.hid hq0
  clear K1' hq0 hq1 hV hm
  cases q1 with
  | true =>
    have HC := Lib.hid (show V = .tuple #[.string ⟨#[]⟩, .int .i64 7] by rw [← HV.out, if_pos (of_decide_eq_true HB.out.symm)])
    go_enter Tryd.func15, Tryd.ntmps15
    go_wp2_with fail
    refine K1.out.mono ?_
    rintro e w1 ⟨rfl, rfl⟩
    go_wp2_with fail
    go_ret2
    exact ⟨by have h := HC.out; subst h; rfl, Below.refl _ _⟩
  | false =>
    have HC := Lib.hid (show V = .tuple #[strV (dA ++ l ++ dB), .int .i64 0] by rw [← HV.out, if_neg (of_decide_eq_false HB.out.symm)])
    go_enter Tryd.func15, Tryd.ntmps15
    go_wp2_with fail
    refine K1.out.mono ?_
    rintro e w1 ⟨rfl, rfl⟩
    go_wp2_with fail
    refine (dMarks_any _).mono ?_
    rintro e w1 ⟨b, rfl, b1, _⟩
    go_wp2_with fail
    refine (K3.out b _).mono ?_
    rintro e w2 ⟨rfl, b2⟩
    go_wp2_with fail
    go_ret2
    exact ⟨by have h := HC.out; subst h; rfl, b1.trans (b2.mono b1.size)⟩
end Go.Proofs.YtggllkcoabeejaaDoor
