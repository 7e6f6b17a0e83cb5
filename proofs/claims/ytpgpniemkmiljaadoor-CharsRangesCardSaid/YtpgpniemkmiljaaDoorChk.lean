/- What the laws of this layer hold besides: the page's example. -/
import Derived.Test.YtpgpniemkmiljaaDoorCha
import Derived.Test.YtpgpniemkmiljaaDoorChd
namespace Go.Proofs.YtpgpniemkmiljaaDoor
open Go.ChangeShapes Go.WideShapes Go.ChangeAt Go.RowKit
set_option linter.unusedVariables false

theorem inv_of {f : Nat} {a : Array Value} {v : Value} {W : World} (ht : Tables W) (hf : ∀ w, Tables w → Calls Tryd.prog f a w fun e w' => e = .returned v ∧ Below w.heap.size w w') :
    ∀ w1, Below W.heap.size W w1 → Calls Tryd.prog f a w1 fun e w' => e = .returned v ∧ Below W.heap.size W w' :=
  fun w1 hB => (hf w1 (ht.below hB)).mono (fun e w' h => ⟨h.1, hB.trans (h.2.mono hB.size)⟩)

set_option maxRecDepth 100000 in
set_option maxHeartbeats 2000000 in
theorem live_any (w : World) (ht : Tables w) :
    Calls Tryd.prog 5 #[] w fun e w' => e = .returned (.bool true) ∧ Below w.heap.size w w' := by
  have A0 := Lib.hid (inv_of (f := 11) (a := #[.int .i64 0]) (v := .bool false) ht (fun w1 h1 => by have h := char_any 0 w1 h1; rwa [show hasT charT 0 = false from by decide] at h))
  have A1 := Lib.hid (inv_of (f := 11) (a := #[.int .i64 65534]) (v := .bool false) ht (fun w1 h1 => by have h := char_any 65534 w1 h1; rwa [show hasT charT 65534 = false from by decide] at h))
  have A2 := Lib.hid (inv_of (f := 11) (a := #[.int .i64 9]) (v := .bool true) ht (fun w1 h1 => by have h := char_any 9 w1 h1; rwa [show hasT charT 9 = true from by decide] at h))
  have S0 := Lib.hid (inv_of (f := 12) (a := #[.int .i64 58]) (v := .bool true) ht (fun w1 h1 => by have h := nameStart_any 58 w1 h1; rwa [show hasT startT 58 = true from by decide] at h))
  have S1 := Lib.hid (inv_of (f := 12) (a := #[.int .i64 45]) (v := .bool false) ht (fun w1 h1 => by have h := nameStart_any 45 w1 h1; rwa [show hasT startT 45 = false from by decide] at h))
  have N0 := Lib.hid (inv_of (f := 13) (a := #[.int .i64 45]) (v := .bool true) ht (fun w1 h1 => by have h := nameChar_any 45 w1 h1; rwa [show (hasT followT 45 || hasT startT 45) = true from by decide] at h))
  have D0 := Lib.hid (show ∀ w1 : World, Calls Tryd.prog 14 #[.int .i64 102, .int .i64 16] w1 fun e w' => e = .returned (.int .i64 15) ∧ w1 = w' from fun w1 => by have h := digit_any 102 16 w1; rwa [show digN 102 16 = 15 from by decide] at h)
  have hB : Below w.heap.size w w := Below.refl _ _
  clear ht
  go_enter Tryd.func5, Tryd.ntmps5
  go_wp2_with (first
    | (go_at_call 11; ((first | with_reducible refine (A0.out _ (by assumption)).mono ?_ | with_reducible refine (A1.out _ (by assumption)).mono ?_ | with_reducible refine (A2.out _ (by assumption)).mono ?_); rintro e w1 ⟨rfl, hb1⟩))
    | (go_at_call 12; ((first | with_reducible refine (S0.out _ (by assumption)).mono ?_ | with_reducible refine (S1.out _ (by assumption)).mono ?_); rintro e w1 ⟨rfl, hb1⟩))
    | (go_at_call 13; refine (N0.out _ (by assumption)).mono ?_; rintro e w1 ⟨rfl, hb1⟩)
    | (go_at_call 14; refine (D0.out _).mono ?_; rintro e w1 ⟨rfl, rfl⟩))
  go_ret
  exact ⟨rfl, by assumption⟩

end Go.Proofs.YtpgpniemkmiljaaDoor
