/- Contracts: the document's own Runes and Ints; Text. -/
import Derived.Test.YtggllkcoabeejaaDoorUtfK
namespace Go.Proofs.YtggllkcoabeejaaDoor
open Go.ChangeShapes Go.WideShapes Go.ChangeAt Go.RowKit
set_option linter.unusedVariables false

/-- What the document's own Runes tells. -/
def RRunesPost (l : List UInt8) (w : World) (e : Ending) (W' : World) : Prop :=
  (badS l = none → ∃ v, e = .returned (.tuple #[v, .int .i64 (-1)]) ∧ W'.ownsRow w.heap.size 3 1 v (runesS l).length ((runesS l).map (Value.int .i64))) ∧
  (∀ k, badS l = some k → e = .returned (.tuple #[.slice none 0 0, .int .i64 (k : Int)])) ∧ Below w.heap.size w W'
theorem rchar_err (l : List UInt8) (A : Option Addr) (n c k : Nat) (w : World) (hn : l.length = n) (hm : n ≤ 9223372036854775800) (hk : k < n) (hs : Sees w A (vB l)) (h : (chrAt l k).2 = 0) :
    Calls Tryd.prog 59 #[.slice A n c, .int .i64 k] w fun e w' => e = .returned (.tuple #[.int .i64 0, .int .i64 0]) ∧ Below w.heap.size w w' := by
  have := rchar_any l A n c k w hn hm hk hs
  have h2 : chrV l k = .tuple #[.int .i64 0, .int .i64 0] := by
    unfold chrV
    have : chrAt l k = (0, 0) := by
      unfold chrAt at h ⊢
      simp only [] at h ⊢
      split
      · rfl
      · next hc => rw [if_neg hc] at h; exact absurd (.inl h) hc
    rw [this]; rfl
  rw [h2] at this
  exact this
theorem rchar_ok (l : List UInt8) (A : Option Addr) (n c k : Nat) (w : World) (hn : l.length = n) (hm : n ≤ 9223372036854775800) (hk : k < n) (hs : Sees w A (vB l)) (r : Int) (m : Nat) (h : chrAt l k = (r, m)) :
    Calls Tryd.prog 59 #[.slice A n c, .int .i64 k] w fun e w' => e = .returned (.tuple #[.int .i64 r, .int .i64 m]) ∧ Below w.heap.size w w' := by
  have := rchar_any l A n c k w hn hm hk hs
  unfold chrV at this
  rw [h] at this
  exact this
theorem own_below {w w' : World} {base : Nat} {e : TypeId} {size n : Nat} {v : Value} {xs : List Value} (h : w.ownsRow base e size v n xs) (hb : Below w.heap.size w w') : w'.ownsRow base e size v n xs :=
  h.kept (row := none) ⟨hb.os, hb.tape, hb.output, hb.size, fun i hi _ => hb.block i hi⟩ (by
    rcases h.2 with ⟨rfl, _⟩ | ⟨g, _, _, rfl, _⟩
    · exact .inl rfl
    · exact .inr (by simp [Value.ownBlock]))

end Go.Proofs.YtggllkcoabeejaaDoor
