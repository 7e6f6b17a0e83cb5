/- Contracts: the document's own answers for characters' classes. -/
import Derived.Test.YtdmfladcldkmeaaDoorCha
namespace Go.Proofs.YtdmfladcldkmeaaDoor
open Go.ChangeShapes Go.WideShapes Go.ChangeAt Go.RowKit
set_option linter.unusedVariables false

theorem charT_iff (r : Int) : hasT charT r = true ↔ (9 ≤ r ∧ r ≤ 10) ∨ (13 ≤ r ∧ r ≤ 13) ∨ (32 ≤ r ∧ r ≤ 55295) ∨ (57344 ≤ r ∧ r ≤ 65533) ∨ (65536 ≤ r ∧ r ≤ 1114111) := by
  simp [hasT, charT]
theorem startT_iff (r : Int) : hasT startT r = true ↔ (58 ≤ r ∧ r ≤ 58) ∨ (65 ≤ r ∧ r ≤ 90) ∨ (95 ≤ r ∧ r ≤ 95) ∨ (97 ≤ r ∧ r ≤ 122) ∨ (192 ≤ r ∧ r ≤ 214) ∨ (216 ≤ r ∧ r ≤ 246) ∨ (248 ≤ r ∧ r ≤ 767) ∨ (880 ≤ r ∧ r ≤ 893) ∨ (895 ≤ r ∧ r ≤ 8191) ∨
    (8204 ≤ r ∧ r ≤ 8205) ∨ (8304 ≤ r ∧ r ≤ 8591) ∨ (11264 ≤ r ∧ r ≤ 12271) ∨ (12289 ≤ r ∧ r ≤ 55295) ∨ (63744 ≤ r ∧ r ≤ 64975) ∨ (65008 ≤ r ∧ r ≤ 65533) ∨ (65536 ≤ r ∧ r ≤ 983039) := by
  simp [hasT, startT]
theorem followT_iff (r : Int) : hasT followT r = true ↔ (45 ≤ r ∧ r ≤ 46) ∨ (48 ≤ r ∧ r ≤ 57) ∨ (183 ≤ r ∧ r ≤ 183) ∨ (768 ≤ r ∧ r ≤ 879) ∨ (8255 ≤ r ∧ r ≤ 8256) := by
  simp [hasT, followT]
theorem pubidT_iff (r : Int) : hasT pubidT r = true ↔ (10 ≤ r ∧ r ≤ 10) ∨ (13 ≤ r ∧ r ≤ 13) ∨ (32 ≤ r ∧ r ≤ 33) ∨ (35 ≤ r ∧ r ≤ 37) ∨ (39 ≤ r ∧ r ≤ 59) ∨ (61 ≤ r ∧ r ≤ 61) ∨ (63 ≤ r ∧ r ≤ 90) ∨ (95 ≤ r ∧ r ≤ 95) ∨ (97 ≤ r ∧ r ≤ 122) := by
  simp [hasT, pubidT]
def blankB (r : Int) : Bool := decide (r = 32) || decide (r = 9) || decide (r = 13) || decide (r = 10)
theorem blankB_iff (r : Int) : blankB r = true ↔ r = 32 ∨ r = 9 ∨ r = 13 ∨ r = 10 := by
  simp [blankB, or_assoc]
theorem yes_ {b : Bool} {p : Prop} (h : b = true ↔ p) (hp : p) : true = b := (h.2 hp).symm
theorem no_ {b : Bool} {p : Prop} (h : b = true ↔ p) (hp : ¬ p) : false = b := by
  cases b
  · rfl
  · exact absurd (h.1 rfl) hp


set_option maxRecDepth 100000 in
set_option maxHeartbeats 2000000 in
theorem rchar3_any (r : Int) (w : World) :
    Calls Tryd.prog 128 #[.int .i64 r] w fun e w' => e = .returned (.bool (hasT charT r)) ∧ w = w' := by
  go_enter Tryd.func128, Tryd.ntmps128
  go_wp2
  all_goals
    go_ret
    exact ⟨ret_bool (by rw [Bool.eq_iff_iff, charT_iff r]; simp; try omega), rfl⟩

set_option maxRecDepth 100000 in
set_option maxHeartbeats 400000 in
theorem rblank_any (r : Int) (w : World) :
    Calls Tryd.prog 76 #[.int .i64 r] w fun e w' => e = .returned (.bool (blankB r)) ∧ w = w' := by
  go_enter Tryd.func76, Tryd.ntmps76
  go_wp2
  all_goals
    go_ret
    exact ⟨ret_bool (by rw [Bool.eq_iff_iff, blankB_iff r]; simp; try omega), rfl⟩

set_option maxRecDepth 100000 in
set_option maxHeartbeats 400000 in
theorem blank_any (r : Int) (w : World) :
    Calls Tryd.prog 75 #[.int .i64 r] w fun e w' => e = .returned (.bool (blankB r)) ∧ w = w' := by
  have D : r = 32 ∨ (r ≠ 32 ∧ r = 9) ∨ (r ≠ 32 ∧ r ≠ 9 ∧ r = 13) ∨ (r ≠ 32 ∧ r ≠ 9 ∧ r ≠ 13 ∧ r = 10) ∨ (r ≠ 32 ∧ r ≠ 9 ∧ r ≠ 13 ∧ r ≠ 10) := by omega
  rcases D with rfl | ⟨_, rfl⟩ | ⟨_, _, rfl⟩ | ⟨_, _, _, rfl⟩ | ⟨h1, h2, h3, h4⟩
  all_goals
    go_enter Tryd.func75, Tryd.ntmps75
    go_wp2
    go_ret
    exact ⟨ret_bool (by rw [Bool.eq_iff_iff, blankB_iff]; simp; try omega), rfl⟩

theorem one_any (b : Bool) (w : World) :
    Calls Tryd.prog 179 #[.bool b] w fun e w' => e = .returned (.int .i64 (if b then 1 else 0)) ∧ w = w' := by
  cases b
  all_goals
    go_enter Tryd.func179, Tryd.ntmps179
    go_wp2
    go_ret
    exact ⟨rfl, rfl⟩

end Go.Proofs.YtdmfladcldkmeaaDoor
