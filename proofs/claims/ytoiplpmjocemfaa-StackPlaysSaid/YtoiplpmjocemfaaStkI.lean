/- Calls of a stack that came in, read as a list. -/
import Derived.Test.YtoiplpmjocemfaaStkH
import Derived.Deep.SlicePairs
namespace Go.Proofs.Ytoiplpmjocemfaa
open Go.ChangeShapes Go.WideShapes Go.ChangeAt Go.RowKit
set_option linter.unusedVariables false

theorem acts_of {w : World} {a : Addr} {len : Nat} {V0 V1 : Nat → Value} (h : ∀ i, i < len → w.cell? (a.add (i * 2)) = some (V0 i) ∧ w.cell? (a.add (i * 2 + 1)) = some (V1 i) ∧ (∃ z, V0 i = .int .i64 z) ∧ ∃ z, V1 i = .int .i64 z) :
    ∃ l : List (Int × Int), l.length = len ∧ Sees w (some a) (aV l) := by
  refine ⟨(List.range len).map fun i => (intOf (V0 i), intOf (V1 i)), by simp, fun _ => ⟨a, rfl, fun j u hu => ?_⟩⟩
  have hj : j / 2 < len := by
    have := (List.getElem?_eq_some_iff.1 hu).1
    rw [aV_len] at this
    simp at this
    omega
  obtain ⟨h0, h1, ⟨z0, e0⟩, z1, e1⟩ := h (j / 2) hj
  obtain ⟨g0, g1⟩ := aV_get ((List.range len).map fun i => (intOf (V0 i), intOf (V1 i))) (j / 2) (intOf (V0 (j / 2)), intOf (V1 (j / 2))) (by simp [hj])
  rcases Nat.mod_two_eq_zero_or_one j with hm | hm
  · rw [show j / 2 * 2 = j by omega] at h0 g0
    rw [g0] at hu
    obtain rfl := Option.some.inj hu
    rw [h0, e0]
    rfl
  · rw [show j / 2 * 2 + 1 = j by omega] at h1 g1
    rw [g1] at hu
    obtain rfl := Option.some.inj hu
    rw [h1, e1]
    rfl
theorem open_acts {H : Type} {enc : TypeId × Value → H} {W : World} {base fuel : Nat} {spare : Nat → Bool} {held : Bool} {a : Option Addr} {len cap : Nat} {x : DataW H × List MemPlace}
    (hf : DataW.trod enc Try.prog W base spare held fuel 22 (Value.slice a len cap).cells.toList = some x) :
    ∃ l : List (Int × Int), l.length = len ∧ len ≤ cap ∧ cap ≤ maxLen ∧ Sees W a (aV l) := by
  rcases Go.Deep.open_slice_pairs Try.underlying22 Try.underlying32 (by kernel_rfl) rfl rfl (by kernel_rfl) (by kernel_rfl) hf with ⟨hcs, _⟩ | ⟨y, l, c, m, n, V0, V1, D0, D1, P0, P1, hcs, _, hl, hm, hmm, _, hel⟩
  · simp [Value.cells] at hcs
    obtain ⟨rfl, rfl, rfl⟩ := hcs
    exact ⟨[], rfl, Nat.le_refl _, by unfold maxLen; omega, sees_nil _ _⟩
  · simp [Value.cells] at hcs
    obtain ⟨rfl, rfl, rfl⟩ := hcs
    have hlm : len ≤ m := by rw [hmm]; split <;> omega
    obtain ⟨l, h1, h2⟩ := acts_of (w := W) (a := y) (len := len) (V0 := V0) (V1 := V1) (fun i hi => by
      obtain ⟨c0, c1, t0, t1⟩ := hel i (by omega)
      obtain ⟨z0, e0, _⟩ := DataW.trod_int Try.underlying3 t0
      obtain ⟨z1, e1, _⟩ := DataW.trod_int Try.underlying3 t1
      exact ⟨c0, c1, ⟨z0, by simpa using e0⟩, z1, by simpa using e1⟩)
    exact ⟨l, h1, hl, hm, h2⟩
end Go.Proofs.Ytoiplpmjocemfaa
