/- Contract of Runes: all characters' numbers. -/
import Derived.Test.YtggllkcoabeejaaDoorUtfI
import Derived.RangeFuncBox
namespace Go.Proofs.YtggllkcoabeejaaDoor
open Go.ChangeShapes Go.WideShapes Go.ChangeAt Go.RowKit Go.Shelf
set_option linter.unusedVariables false
attribute [local go_sem] Oper.semAt_some

theorem int_info : (Tryd.prog.info? 3).map (fun i => (i.zero, i.size, i.bytes)) = some (some (.int .i64 0), 1, 8) := by kernel_rfl
theorem ownsRow_form {W : World} {base : Nat} {e : TypeId} {size : Nat} {v : Value} {k : Nat} {xs : List Value} (h : W.ownsRow base e size v k xs) : ∃ A c, v = .slice A k c := by
  rcases h.2 with ⟨rfl, rfl⟩ | ⟨g, cap, _, rfl, _⟩
  · exact ⟨_, _, rfl⟩
  · exact ⟨_, _, rfl⟩
theorem Boxed.off {W : World} {b c : Nat} {t : TypeId} {v : Value} (h : Boxed W b t v) (hne : b ≠ c) (u : Value) : Boxed (W.setCell ⟨c, 0, none⟩ u) b t v :=
  h.kept (grownBy_setCell' W c u) (by simpa using hne)
/-- What Runes tells. -/
def RunesPost (l : List UInt8) (w : World) (e : Ending) (W' : World) : Prop :=
  (badS l = none → ∃ v, e = .returned (.tuple #[v, .int .i64 0]) ∧ W'.ownsRow w.heap.size 3 1 v (runesS l).length ((runesS l).map (Value.int .i64))) ∧
  (badS l ≠ none → e = .returned (.tuple #[.slice none 0 0, .int .i64 5])) ∧ Below w.heap.size w W'
def nums (pre : List Item) : List Value := pre.map fun x => .int .i64 x.1
theorem nums_snoc (pre : List Item) (x : Item) : nums (pre ++ [x]) = nums pre ++ [.int .i64 x.1] := by unfold nums; simp

end Go.Proofs.YtggllkcoabeejaaDoor
