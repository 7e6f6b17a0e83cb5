/- Plain facts on numbers that are held, and the contracts of the functions of package sat (and of the document's own answers) that do not loop. -/
import Derived.Test.YtfppkjogdahnbaaSees
namespace Go.Proofs.Ytfppkjogdahnbaa
open Go.ChangeShapes Go.WideShapes Go.ChangeAt Go.RowKit

/-- The greatest int. -/
def CAP : Int := 9223372036854775807
def holdS (a : Int) : Int := if a < 0 then 0 else a
def addS (a b : Int) : Int := if CAP - holdS b < holdS a then CAP else holdS a + holdS b
def subS (a b : Int) : Int := if holdS a < holdS b then 0 else holdS a - holdS b
theorem holdS_bd (a : Int) (h : a ≤ CAP) : 0 ≤ holdS a ∧ holdS a ≤ CAP := by unfold holdS; unfold CAP at *; split <;> omega
theorem addS_bd (a b : Int) (h : a ≤ CAP) (h' : b ≤ CAP) : 0 ≤ addS a b ∧ addS a b ≤ CAP := by
  have h1 := holdS_bd a h; have h2 := holdS_bd b h'
  unfold addS; unfold CAP at *; split <;> omega

set_option maxHeartbeats 400000 in
theorem hold_any (a : Int) (w : World) :
    Calls Try.prog 12 #[.int .i64 a] w fun e w' => e = .returned (.int .i64 (holdS a)) ∧ w = w' := by
  by_cases h : a < 0
  all_goals
    go_enter Try.func12, Try.ntmps12
    go_wp2
    go_ret
    exact ⟨ret_int (by unfold holdS; split <;> omega), rfl⟩

set_option maxHeartbeats 400000 in
theorem rhold_any (a : Int) (w : World) :
    Calls Try.prog 13 #[.int .i64 a] w fun e w' => e = .returned (.int .i64 (holdS a)) ∧ w = w' := by
  by_cases h : a < 0
  all_goals
    go_enter Try.func13, Try.ntmps13
    go_wp2
    go_ret
    exact ⟨ret_int (by unfold holdS; split <;> omega), rfl⟩

set_option maxHeartbeats 400000 in
theorem add_any (a b : Int) (w : World) (ha : I64 a) (hb : I64 b) :
    Calls Try.prog 14 #[.int .i64 a, .int .i64 b] w fun e w' => e = .returned (.int .i64 (addS a b)) ∧ w = w' := by
  obtain ⟨ha1, ha2⟩ := ha
  obtain ⟨hb1, hb2⟩ := hb
  by_cases h1 : a < 0
  all_goals by_cases h2 : b < 0
  all_goals
    go_enter Try.func14, Try.ntmps14
    go_wp2
    all_goals
      go_ret
      exact ⟨ret_int (by unfold addS holdS CAP; repeat (split <;> try omega)), rfl⟩

set_option maxHeartbeats 400000 in
theorem radd_any (a b : Int) (w : World) (ha : I64 a) (hb : I64 b) :
    Calls Try.prog 15 #[.int .i64 a, .int .i64 b] w fun e w' => e = .returned (.int .i64 (addS a b)) ∧ w = w' := by
  obtain ⟨ha1, ha2⟩ := ha
  obtain ⟨hb1, hb2⟩ := hb
  by_cases h1 : a < 0
  all_goals by_cases h2 : b < 0
  all_goals
    go_enter Try.func15, Try.ntmps15
    go_wp2
    all_goals
      go_ret
      exact ⟨ret_int (by unfold addS holdS CAP; repeat (split <;> try omega)), rfl⟩
end Go.Proofs.Ytfppkjogdahnbaa
