/- A row that is joined stays so: pure. -/
import Derived.Test.YtoiplpmjocemfaaJni
namespace Go.Proofs.Ytoiplpmjocemfaa
open Go.ChangeShapes Go.WideShapes Go.ChangeAt Go.RowKit
set_option linter.unusedVariables false
set_option maxRecDepth 100000

/-- Texts are none empty, and no two stand side by side; p: does one stand ahead? -/
def Tidy : Bool → List Ev → Prop
  | _, [] => True
  | p, e :: o => (e.kind = 3 → (∃ t, t ≠ [] ∧ e = textE t) ∧ p = false) ∧ Tidy (e.kind == 3) o
def lastT : Bool → List Ev → Bool
  | p, [] => p
  | _, e :: o => lastT (e.kind == 3) o
theorem tidy_snoc : ∀ {p : Bool} {o : List Ev} {e : Ev}, Tidy p o → (e.kind = 3 → (∃ t, t ≠ [] ∧ e = textE t) ∧ lastT p o = false) → Tidy p (o ++ [e])
  | p, [], e, _, h => ⟨h, trivial⟩
  | p, x :: o, e, h1, h => ⟨h1.1, tidy_snoc h1.2 h⟩
theorem lastT_snoc : ∀ (p : Bool) (o : List Ev) (e : Ev), lastT p (o ++ [e]) = (e.kind == 3)
  | _, [], _ => rfl
  | _, x :: o, e => lastT_snoc _ o e
theorem joinN_fold (l : List Ev) : ∀ k, joinN l k = (l.take k).foldl stepJ ([], [])
  | 0 => by simp [joinN]
  | k + 1 => by
    have ih := joinN_fold l k
    by_cases hk : k < l.length
    · rw [joinN_at (List.getElem?_eq_getElem hk), List.take_succ_eq_append_getElem hk, List.foldl_append, ← ih]; rfl
    · rw [joinN, List.getElem?_eq_none (by omega), ih, List.take_of_length_le (by omega), List.take_of_length_le (by omega)]
theorem fold_tidy : ∀ (o acc : List Ev) (s : List UInt8), Tidy (decide (s ≠ [])) o → flushJ (o.foldl stepJ (acc, s)) = flushJ (acc, s) ++ o
  | [], acc, s, _ => by simp
  | e :: o, acc, s, h => by
    rw [List.foldl_cons]
    by_cases hk : e.kind = 3
    · obtain ⟨⟨t, ht, rfl⟩, hp⟩ := h.1 hk
      have hs : s = [] := by simpa using hp
      subst hs
      have e1 : stepJ (acc, []) (textE t) = (acc, t) := by
        unfold stepJ
        rw [if_pos hk]
        simp [textE, ByteArray.toList_eq]
      rw [e1, fold_tidy o acc t (by have := h.2; simpa [ht, textE] using this)]
      unfold flushJ
      rw [if_neg ht, if_pos rfl]
      simp
    · have e1 : stepJ (acc, s) e = (flushJ (acc, s) ++ [e], []) := by unfold stepJ; rw [if_neg hk]
      rw [e1, fold_tidy o _ [] (by have := h.2; rw [show (e.kind == 3) = false by simpa using hk] at this; simpa using this)]
      rw [show flushJ (flushJ (acc, s) ++ [e], []) = flushJ (acc, s) ++ [e] by rw [flushJ, if_pos rfl]]
      simp
theorem tidy_flush {o : List Ev} {s : List UInt8} (h : Tidy false o) (hl : lastT false o = false) : Tidy false (flushJ (o, s)) := by
  unfold flushJ
  split
  · exact h
  · next hs => exact tidy_snoc h (fun _ => ⟨⟨s, hs, rfl⟩, hl⟩)
theorem tidy_join (l : List Ev) : ∀ k, Tidy false (joinN l k).1 ∧ lastT false (joinN l k).1 = false
  | 0 => ⟨trivial, rfl⟩
  | k + 1 => by
    obtain ⟨h1, h2⟩ := tidy_join l k
    rw [joinN]
    split
    · next e _ =>
      unfold stepJ
      split
      · exact ⟨h1, h2⟩
      · next hk => exact ⟨tidy_snoc (tidy_flush h1 h2) (fun h => absurd h hk), by rw [lastT_snoc]; simpa using hk⟩
    · exact ⟨h1, h2⟩
theorem tidy_all (l : List Ev) : Tidy false (joinA l) := tidy_flush (tidy_join l l.length).1 (tidy_join l l.length).2
theorem joinA_again (l : List Ev) : joinA (joinA l) = joinA l := by
  have h := fold_tidy (joinA l) [] [] (by simpa using tidy_all l)
  have e : joinA (joinA l) = flushJ ((joinA l).foldl stepJ ([], [])) := by
    rw [show joinA (joinA l) = flushJ (joinN (joinA l) (joinA l).length) from rfl, joinN_fold, List.take_length]
  rw [e, h]
  simp [flushJ]
end Go.Proofs.Ytoiplpmjocemfaa
