/- What was told up to a place is ahead of all that is told: pure. -/
import Derived.Test.YtoiplpmjocemfaaJnl
namespace Go.Proofs.Ytoiplpmjocemfaa
open Go.ChangeShapes Go.WideShapes Go.ChangeAt Go.RowKit
set_option linter.unusedVariables false
set_option maxRecDepth 100000

theorem flush_pre (p : List Ev × List UInt8) : p.1 <+: flushJ p := by
  unfold flushJ
  split
  · exact List.prefix_refl _
  · exact List.prefix_append _ _
theorem step_pre (l : List Ev) (k : Nat) : (joinN l k).1 <+: (joinN l (k + 1)).1 := by
  rw [joinN]
  split
  · unfold stepJ
    split
    · exact List.prefix_refl _
    · exact (flush_pre _).trans (List.prefix_append _ _)
  · exact List.prefix_refl _
theorem join_pre (l : List Ev) {j n : Nat} (h : j ≤ n) : (joinN l j).1 <+: (joinN l n).1 := by
  induction n with
  | zero => obtain rfl : j = 0 := by omega
            exact List.prefix_refl _
  | succ n ih =>
    rcases Nat.lt_or_ge n j with h1 | h1
    · obtain rfl : j = n + 1 := by omega
      exact List.prefix_refl _
    · exact (ih h1).trans (step_pre l n)
theorem join_preA (l : List Ev) {j : Nat} (h : j ≤ l.length) : (joinN l j).1 <+: joinA l := (join_pre l h).trans (flush_pre _)
theorem take_pre {o p : List Ev} {n : Nat} (h : o <+: p) (hn : n ≤ o.length) : o.take n = p.take n := by
  obtain ⟨q, rfl⟩ := h
  rw [List.take_append_of_le_length hn]
end Go.Proofs.Ytoiplpmjocemfaa
