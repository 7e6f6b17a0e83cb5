/- What no joiner, and one without a function, tell. -/
import Derived.Test.YtoiplpmjocemfaaJnk
namespace Go.Proofs.Ytoiplpmjocemfaa
open Go.ChangeShapes Go.WideShapes Go.ChangeAt Go.RowKit
set_option linter.unusedVariables false
set_option maxRecDepth 100000

def zeroE : Ev := ⟨0, ⟨#[]⟩, ⟨#[]⟩, [], none, 0, ⟨#[]⟩⟩
theorem nilNil : ∀ w : World, (binOp .eql 77 .nilFunc .nilFunc).run Try.prog w = .ok (.bool true) w := fun _ => by kernel_rfl
set_option maxHeartbeats 1000000 in
theorem putNone_any (e : Ev) (w : World) : Calls Try.prog 48 #[.pointer none, evW e] w fun en w' => en = .returned (.int .i64 1) ∧ Below w.heap.size w w' := by
  unfold evW
  go_enter Try.func48, Try.ntmps48
  go_wp2_with fail
  go_ret
  exact ⟨rfl, (Below.refl _ _).alloc (Nat.le_refl _) _⟩
set_option maxHeartbeats 1000000 in
theorem flushNone_any (w : World) : Calls Try.prog 49 #[.pointer none] w fun en w' => en = .returned (.int .i64 1) ∧ Below w.heap.size w w' := by
  go_enter Try.func49, Try.ntmps49
  go_wp2_with fail
  go_ret
  exact ⟨rfl, Below.refl _ _⟩
theorem newNil_any (w : World) : Calls Try.prog 46 #[.nilFunc] w fun en w' => en = .returned (.pointer (some ⟨w.heap.size, 0, none⟩)) ∧ w' = w.alloc (.cells #[.nilFunc, .slice none 0 0] 118) := by
  go_enter Try.func46, Try.ntmps46
  go_wp2_with fail
  go_ret
  exact ⟨rfl, rfl⟩
set_option maxHeartbeats 1000000 in
theorem flushNil_any (J : Nat) (w : World) (hJ : w.heap[J]? = some (.cells #[.nilFunc, .slice none 0 0] 118)) : Calls Try.prog 49 #[.pointer (some ⟨J, 0, none⟩)] w fun en w' => en = .returned (.int .i64 1) ∧ Below w.heap.size w w' := by
  have c0 := cell_at (k := 0) hJ rfl
  have kf := nilNil
  clear hJ
  go_enter Try.func49, Try.ntmps49
  go_wp2_with fail
  go_ret
  exact ⟨rfl, Below.refl _ _⟩
set_option maxHeartbeats 1000000 in
theorem putNil_any (e : Ev) (J : Nat) (w : World) (hJ : w.heap[J]? = some (.cells #[.nilFunc, .slice none 0 0] 118)) : Calls Try.prog 48 #[.pointer (some ⟨J, 0, none⟩), evW e] w fun en w' => en = .returned (.int .i64 1) ∧ Below w.heap.size w w' := by
  have hbW := (Below.refl w.heap.size w).alloc (Nat.le_refl _) (.cells #[.int .i64 e.kind, .string e.sp, .string e.lo, .slice e.A e.at_.length e.c, .string e.tx] 76)
  have c0 := cell_at (k := 0) ((hbW.block J (Array.getElem?_eq_some_iff.1 hJ).1).trans hJ) rfl
  have kf := nilNil
  clear hJ
  unfold evW
  go_enter Try.func48, Try.ntmps48
  go_wp2_with fail
  go_ret
  exact ⟨rfl, hbW⟩
end Go.Proofs.Ytoiplpmjocemfaa
