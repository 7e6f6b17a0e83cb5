/- Contracts of those who range over the characters of a text: Len, Check, Runes. -/
import Derived.Test.YtdmfladcldkmeaaDoorUtfG
namespace Go.Proofs.YtdmfladcldkmeaaDoor
open Go.ChangeShapes Go.WideShapes Go.ChangeAt Go.RowKit Go.Shelf
set_option linter.unusedVariables false
attribute [local go_sem] Oper.semAt_some

theorem items_len (l : List UInt8) (f k : Nat) : (items l f k).length ≤ f := by
  induction f generalizing k with
  | zero => simp [items]
  | succ f ih =>
    rw [items]
    split
    · split
      · simp
      · simp only [List.length_cons]; have := ih (k + (chrAt l k).2); omega
    · simp
theorem stepsS_len (l : List UInt8) : (stepsS l).length ≤ l.length := items_len l _ _
theorem items_err (l : List UInt8) (f k : Nat) : ∀ x ∈ items l f k, x.2.2 ≠ 0 → x.1 = 0 ∧ x.2.2 = 5 := by
  induction f generalizing k with
  | zero => simp [items]
  | succ f ih =>
    rw [items]
    split
    · split
      · simp
      · intro x hx he
        rcases List.mem_cons.1 hx with rfl | hx
        · exact absurd rfl he
        · exact ih _ x hx he
    · simp
/-- The first place at which there is no character. -/
def badS (l : List UInt8) : Option Nat := ((stepsS l).find? fun x => x.2.2 != 0).map fun x => x.2.1
def runesS (l : List UInt8) : List Int := (stepsS l).map fun x => x.1
theorem badS_none {l : List UInt8} {ys : List Item} (h : ys = stepsS l) (ha : ∀ y ∈ ys, y.2.2 = 0) : badS l = none := by
  unfold badS
  rw [← h, List.find?_eq_none.2 (fun x hx => by simp [ha x hx])]; rfl
theorem badS_some {l : List UInt8} {pre : List Item} {x : Item} (hp : pre ++ [x] <+: stepsS l) (ha : ∀ y ∈ pre, y.2.2 = 0) (hx : x.2.2 ≠ 0) : badS l = some x.2.1 ∧ x.2.2 = 5 := by
  obtain ⟨t, ht⟩ := hp
  refine ⟨?_, (items_err l _ _ x (by show x ∈ stepsS l; rw [← ht]; simp) hx).2⟩
  unfold badS
  rw [← ht, List.append_assoc, List.find?_append, List.find?_eq_none.2 (fun y hy => by simp [ha y hy])]
  simp [hx]

/-- What Len tells. -/
def lenV (l : List UInt8) : Value := if badS l = none then .tuple #[.int .i64 (runesS l).length, .int .i64 0] else .tuple #[.int .i64 0, .int .i64 5]

/-- A cell of the call's own that may be written. -/
def Cel (W : World) (b : Nat) (v : Value) : Prop := W.cell? ⟨b, 0, none⟩ = some v ∧ W.frozen? ⟨b, 0, none⟩ = false
theorem Cel.kept {A B : World} {b : Nat} {v : Value} {row : Option Nat} (h : Cel A b v) (hg : A.grownBy B row) (hr : ∀ r, row = some r → ∃ o : Obj, A.heap[r]? = some o ∧ o.isCells = false) : Cel B b v :=
  ⟨cell_kept h.1 hg hr, (frozen_kept h.1 hg hr).trans h.2⟩
theorem Cel.set {W : World} {b : Nat} {v : Value} (h : Cel W b v) (u : Value) : Cel (W.setCell ⟨b, 0, none⟩ u) b u :=
  ⟨World.cell?_setCell_same' _ _ _ (by rw [h.1]; rfl), by rw [World.frozen?_setCell]; exact h.2⟩
theorem Cel.other {W : World} {b c : Nat} {v : Value} (h : Cel W b v) (hne : b ≠ c) (u : Value) : Cel (W.setCell ⟨c, 0, none⟩ u) b v :=
  ⟨(World.cell?_setCell_other W _ _ u (fun e => by injection e with e1; exact hne e1.symm)).trans h.1, by rw [World.frozen?_setCell]; exact h.2⟩
theorem Cel.new (w : World) (v : Value) (t : TypeId) : Cel (w.alloc (.cells #[v] t)) w.heap.size v := ⟨by simp [World.cell?_alloc_new], by unfold World.frozen?; simp only [World.alloc_heap_new w (.cells #[v] t)]; simp⟩
theorem Cel.alloc {W : World} {b : Nat} {v : Value} (h : Cel W b v) (o : Obj) : Cel (W.alloc o) b v :=
  have hb : Below W.heap.size W (W.alloc o) := (Below.refl _ W).alloc (Nat.le_refl _) o
  have hl := World.block_lt_of_cell? W _ h.1
  ⟨(hb.cell hl).trans h.1, (hb.frozen hl).trans h.2⟩

end Go.Proofs.YtdmfladcldkmeaaDoor
