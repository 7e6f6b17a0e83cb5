/- The page's example of layer 2. -/
import Derived.Test.YtdmfladcldkmeaaDoorUtfJ
import Derived.Laws.IdiomStrings
import Derived.Lib.BufferRead
namespace Go.Proofs.YtdmfladcldkmeaaDoor
open Go.ChangeShapes Go.WideShapes Go.ChangeAt Go.RowKit
set_option linter.unusedVariables false

theorem conv_sees (w : World) (A : Option Addr) (n c : Nat) (l : List UInt8) (hl : l.length = n) (hs : Sees w A (vB l)) :
    (convert 36 9 (.slice A n c)).run Tryd.prog w = .ok (.string ⟨l.toArray⟩) w := by
  subst hl
  rcases A with _ | a
  · have h0 : l = [] := by
      cases l with
      | nil => rfl
      | cons x l =>
        obtain ⟨ad, h, _⟩ := hs (by unfold vB; simp)
        cases h
    subst h0
    exact Lib.run_convert_nil_bytes w _ _ 5 c Tryd.underlying36 Tryd.underlying5 Tryd.underlying9
  · refine run_convert_bytes_back w _ _ 5 a c l Tryd.underlying36 Tryd.underlying5 Tryd.underlying9 (fun j hj => ?_)
    obtain ⟨ad, e, hc⟩ := hs.byte (k := j) hj
    obtain rfl : a = ad := by injection e
    rw [hc]
    unfold byteAt
    rw [List.getElem?_eq_getElem hj]; rfl
theorem sees_own {w : World} {base : Nat} {e : TypeId} {A : Option Addr} {n m c : Nat} {xs : List Value} (h : w.ownsRow base e 1 (.slice A m c) n xs) : Sees w A xs := by
  intro hne
  rcases h.2 with ⟨h1, h2⟩ | ⟨g, cap, cur, h1, h2, h3, h4⟩
  · have := h.1
    subst h2
    exact absurd (List.eq_nil_of_length_eq_zero (by simpa using this)) hne
  · injection h1 with h5
    refine ⟨⟨g, 0, none⟩, h5, fun j u hu => h.cells (g := g) ?_ j u hu⟩
    rw [h5]; rfl
theorem sees_new (w : World) (l : List Value) (t : TypeId) : Sees (w.alloc (.cells l.toArray t)) (some ⟨w.heap.size, 0, none⟩) l :=
  fun _ => ⟨_, rfl, cells_new w l t⟩
end Go.Proofs.YtdmfladcldkmeaaDoor
