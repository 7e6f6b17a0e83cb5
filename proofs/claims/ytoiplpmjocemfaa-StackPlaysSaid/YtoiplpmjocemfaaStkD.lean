/- The walk of StackTurns. -/
import Derived.Test.YtoiplpmjocemfaaStkC
namespace Go.Proofs.Ytoiplpmjocemfaa
open Go.ChangeShapes Go.WideShapes Go.ChangeAt Go.RowKit
set_option linter.unusedVariables false

theorem take_snoc (l : List Int) (k : Nat) (h : k < l.length) : l.take (k + 1) = l.take k ++ [l[k]] := by
  rw [List.take_succ_eq_append_getElem h]
theorem Sees.num {w : World} {A : Option Addr} {l : List Int} (h : Sees w A (vK l)) {k : Nat} (hk : k < l.length) :
    ∃ ad, A = some ad ∧ w.cell? (ad.add k) = some (.int .i64 l[k]) := by
  obtain ⟨ad, u, e, hu, hc⟩ := h.at (k := k) (by rw [vK_len]; exact hk)
  unfold vK at hu
  rw [List.getElem?_map, List.getElem?_eq_getElem hk] at hu
  injection hu with hu
  exact ⟨ad, e, by rw [hc, ← hu]⟩

theorem Sees.num2 {w : World} {A : Option Addr} {l : List Int} (h : Sees w A (vK l)) {k : Nat} (hk : k < l.length) :
    ∃ ad x, A = some ad ∧ l.take (k + 1) = l.take k ++ [x] ∧ w.cell? (ad.add k) = some (.int .i64 x) ∧ l[k]? = some x := by
  obtain ⟨ad, e, hc⟩ := h.num hk
  exact ⟨ad, l[k], e, take_snoc l k hk, hc, List.getElem?_eq_getElem hk⟩
end Go.Proofs.Ytoiplpmjocemfaa
