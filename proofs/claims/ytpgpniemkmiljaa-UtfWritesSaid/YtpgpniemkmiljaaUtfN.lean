/- Contracts: the document's own Runes and Ints; Text. -/
import Derived.Test.YtpgpniemkmiljaaUtfK
namespace Go.Proofs.Ytpgpniemkmiljaa
open Go.ChangeShapes Go.WideShapes Go.ChangeAt Go.RowKit
set_option linter.unusedVariables false

/-- What the document's own Runes tells. -/
def RRunesPost (l : List UInt8) (w : World) (e : Ending) (W' : World) : Prop :=
  (badS l = none → ∃ v, e = .returned (.tuple #[v, .int .i64 (-1)]) ∧ W'.ownsRow w.heap.size 3 1 v (runesS l).length ((runesS l).map (Value.int .i64))) ∧
  (∀ k, badS l = some k → e = .returned (.tuple #[.slice none 0 0, .int .i64 (k : Int)])) ∧ Below w.heap.size w W'
theorem own_below {w w' : World} {base : Nat} {e : TypeId} {size n : Nat} {v : Value} {xs : List Value} (h : w.ownsRow base e size v n xs) (hb : Below w.heap.size w w') : w'.ownsRow base e size v n xs :=
  h.kept (row := none) ⟨hb.os, hb.tape, hb.output, hb.size, fun i hi _ => hb.block i hi⟩ (by
    rcases h.2 with ⟨rfl, _⟩ | ⟨g, _, _, rfl, _⟩
    · exact .inl rfl
    · exact .inr (by simp [Value.ownBlock]))

end Go.Proofs.Ytpgpniemkmiljaa
