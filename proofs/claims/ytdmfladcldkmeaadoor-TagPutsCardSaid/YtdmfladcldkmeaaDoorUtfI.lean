/- Contract of Check: the first place at which there is no character. -/
import Derived.Test.YtdmfladcldkmeaaDoorUtfH
namespace Go.Proofs.YtdmfladcldkmeaaDoor
open Go.ChangeShapes Go.WideShapes Go.ChangeAt Go.RowKit Go.Shelf
set_option linter.unusedVariables false
attribute [local go_sem] Oper.semAt_some

/-- What Check tells. -/
def checkV (l : List UInt8) : Value := if badS l = none then .tuple #[.int .i64 l.length, .int .i64 0] else .tuple #[.int .i64 ((badS l).getD 0 : Nat), .int .i64 5]
/-- The cells of a step in its own block. -/
def Step (W : World) (b : Nat) (x : Item) : Prop := W.cell? ⟨b, 0, none⟩ = some (.int .i64 x.1) ∧ W.cell? ⟨b, 1, none⟩ = some (.int .i64 (x.2.1 : Int))
theorem Step.kept {A B : World} {b : Nat} {x : Item} {row : Option Nat} (h : Step A b x) (hg : A.grownBy B row) (hr : ∀ r, row = some r → ∃ o : Obj, A.heap[r]? = some o ∧ o.isCells = false) : Step B b x :=
  ⟨cell_kept h.1 hg hr, cell_kept h.2 hg hr⟩
theorem Step.new (w : World) (x : Item) (t : TypeId) : Step (w.alloc (.cells #[.int .i64 x.1, .int .i64 (x.2.1 : Int)] t)) w.heap.size x := ⟨by simp [World.cell?_alloc_new], by simp [World.cell?_alloc_new]⟩

end Go.Proofs.YtdmfladcldkmeaaDoor
