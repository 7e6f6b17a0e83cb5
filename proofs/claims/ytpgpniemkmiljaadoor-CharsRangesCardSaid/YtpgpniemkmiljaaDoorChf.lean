/- The law's walk: the classes and the digits. -/
import Derived.Test.YtpgpniemkmiljaaDoorChe
namespace Go.Proofs.YtpgpniemkmiljaaDoor
open Go.ChangeShapes Go.WideShapes Go.ChangeAt Go.RowKit
set_option linter.unusedVariables false

theorem imp_f {a b : Bool} (h : a = true → b = true) (hb : b = false) : a = false := by
  cases a
  · rfl
  · rw [h rfl] at hb; cases hb

theorem cls_sn (r : Int) : cls r 2 = true → cls r 3 = true := by
  intro h
  show (hasT followT r || hasT startT r) = true
  rw [show hasT startT r = true from h]; simp
theorem cls_bc (r : Int) : cls r 1 = true → cls r 0 = true := by
  intro h
  have := (blankB_iff r).1 h
  exact (charT_iff r).2 (by omega)
theorem cls_nc (r : Int) : cls r 3 = true → cls r 0 = true := by
  intro h
  have h : (hasT followT r || hasT startT r) = true := h
  rw [Bool.or_eq_true] at h
  refine (charT_iff r).2 ?_
  rcases h with h | h
  · have := (followT_iff r).1 h; omega
  · have := (startT_iff r).1 h; omega
theorem cls_pc (r : Int) : cls r 4 = true → cls r 0 = true := by
  intro h
  have := (pubidT_iff r).1 h
  exact (charT_iff r).2 (by omega)

set_option maxRecDepth 100000 in
set_option maxHeartbeats 400000 in
theorem ask_0 (w : World) :
    Calls Tryd.prog 7 #[.int .i64 ((0 : Nat) : Int)] w fun e w' => e = .returned (.func (.func 11) #[] #[]) ∧ w = w' := by
  go_enter Tryd.func7, Tryd.ntmps7
  go_wp2_with fail
  go_ret
  exact ⟨rfl, rfl⟩
set_option maxRecDepth 100000 in
set_option maxHeartbeats 400000 in
theorem ask_1 (w : World) :
    Calls Tryd.prog 7 #[.int .i64 ((1 : Nat) : Int)] w fun e w' => e = .returned (.func (.func 16) #[] #[]) ∧ w = w' := by
  go_enter Tryd.func7, Tryd.ntmps7
  go_wp2_with fail
  go_ret
  exact ⟨rfl, rfl⟩
set_option maxRecDepth 100000 in
set_option maxHeartbeats 400000 in
theorem ask_2 (w : World) :
    Calls Tryd.prog 7 #[.int .i64 ((2 : Nat) : Int)] w fun e w' => e = .returned (.func (.func 12) #[] #[]) ∧ w = w' := by
  go_enter Tryd.func7, Tryd.ntmps7
  go_wp2_with fail
  go_ret
  exact ⟨rfl, rfl⟩
set_option maxRecDepth 100000 in
set_option maxHeartbeats 400000 in
theorem ask_3 (w : World) :
    Calls Tryd.prog 7 #[.int .i64 ((3 : Nat) : Int)] w fun e w' => e = .returned (.func (.func 13) #[] #[]) ∧ w = w' := by
  go_enter Tryd.func7, Tryd.ntmps7
  go_wp2_with fail
  go_ret
  exact ⟨rfl, rfl⟩
set_option maxRecDepth 100000 in
set_option maxHeartbeats 400000 in
theorem ask_4 (w : World) :
    Calls Tryd.prog 7 #[.int .i64 ((4 : Nat) : Int)] w fun e w' => e = .returned (.func (.func 17) #[] #[]) ∧ w = w' := by
  go_enter Tryd.func7, Tryd.ntmps7
  go_wp2_with fail
  go_ret
  exact ⟨rfl, rfl⟩


end Go.Proofs.YtpgpniemkmiljaaDoor
