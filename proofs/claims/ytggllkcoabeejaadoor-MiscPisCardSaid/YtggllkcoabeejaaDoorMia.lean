/- First places of marks: pure. -/
import Derived.Lib.IndexMore
import Derived.Lib.IndexLaws
import Derived.Lib.Strings
import Derived.Test.YtggllkcoabeejaaDoorSees
namespace Go.Proofs.YtggllkcoabeejaaDoor
set_option linter.unusedVariables false

theorem occ2 (s : List UInt8) (a b : UInt8) (j : Nat) : Lib.occAt s [a, b] j = true ↔ s[j]? = some a ∧ s[j + 1]? = some b := by
  unfold Lib.occAt
  have h0 : s[j]? = (s.drop j)[0]? := by simp
  have h1 : s[j + 1]? = (s.drop j)[1]? := by simp
  rw [h0, h1]
  generalize s.drop j = t
  match t with
  | [] => simp
  | [x] => simp
  | x :: y :: t =>
    simp
    exact ⟨fun ⟨p, q⟩ => ⟨p.symm, q.symm⟩, fun ⟨p, q⟩ => ⟨p.symm, q.symm⟩⟩
theorem occ3 (s : List UInt8) (a b c : UInt8) (j : Nat) : Lib.occAt s [a, b, c] j = true ↔ s[j]? = some a ∧ s[j + 1]? = some b ∧ s[j + 2]? = some c := by
  unfold Lib.occAt
  have h0 : s[j]? = (s.drop j)[0]? := by simp
  have h1 : s[j + 1]? = (s.drop j)[1]? := by simp
  have h2 : s[j + 2]? = (s.drop j)[2]? := by simp
  rw [h0, h1, h2]
  generalize s.drop j = t
  match t with
  | [] => simp
  | [x] => simp
  | [x, y] => simp
  | x :: y :: z :: t =>
    simp
    exact ⟨fun ⟨p, q, r⟩ => ⟨p.symm, q.symm, r.symm⟩, fun ⟨p, q, r⟩ => ⟨p.symm, q.symm, r.symm⟩⟩
theorem idx_none {s sub : List UInt8} (h : Lib.index s sub < 0) (j : Nat) (hj : j ≤ s.length) : Lib.occAt s sub j = false := by
  cases ho : Lib.occAt s sub j with
  | false => rfl
  | true =>
    rcases Lib.index_spec s sub with ⟨_, h2⟩ | ⟨i, h1, _⟩
    · rw [h2 j hj] at ho; cases ho
    · omega
/-- A comment that was put: the first mark is the end. -/
theorem cmt_index {l : List UInt8} (h : Lib.index (l ++ [45]) [45, 45] < 0) : Lib.index (l ++ [45, 45, 62]) [45, 45] = l.length := by
  refine Lib.index_first (by simp) ?_ (fun j hj => ?_)
  · rw [occ2]
    constructor
    · rw [List.getElem?_append_right (Nat.le_refl _)]; simp
    · rw [List.getElem?_append_right (by omega)]; simp
  · cases ho : Lib.occAt (l ++ [45, 45, 62]) [45, 45] j with
    | false => rfl
    | true =>
      obtain ⟨h1, h2⟩ := (occ2 _ _ _ _).1 ho
      have h3 : Lib.occAt (l ++ [45]) [45, 45] j = true := by
        rw [occ2]
        refine ⟨by rw [List.getElem?_append_left hj] at h1 ⊢; exact h1, ?_⟩
        by_cases hj2 : j + 1 < l.length
        · rw [List.getElem?_append_left hj2] at h2 ⊢; exact h2
        · rw [List.getElem?_append_right (by omega), show j + 1 - l.length = 0 by omega]; rfl
      rw [idx_none h j (by simp; omega)] at h3
      cases h3
theorem data_index {l : List UInt8} (h : Lib.index l [93, 93, 62] < 0) : Lib.index (l ++ [93, 93, 62]) [93, 93, 62] = l.length := by
  refine Lib.index_first (by simp) ?_ (fun j hj => ?_)
  · rw [occ3]
    refine ⟨?_, ?_, ?_⟩
    · rw [List.getElem?_append_right (Nat.le_refl _)]; simp
    · rw [List.getElem?_append_right (by omega)]; simp
    · rw [List.getElem?_append_right (by omega)]; simp
  · cases ho : Lib.occAt (l ++ [93, 93, 62]) [93, 93, 62] j with
    | false => rfl
    | true =>
      obtain ⟨h1, h2, h3⟩ := (occ3 _ _ _ _ _).1 ho
      by_cases hj2 : j + 2 < l.length
      · have h4 : Lib.occAt l [93, 93, 62] j = true := by
          rw [occ3]
          rw [List.getElem?_append_left (by omega)] at h1 h2 h3
          exact ⟨h1, h2, h3⟩
        rw [idx_none h j (by omega)] at h4
        cases h4
      · rw [List.getElem?_append_right (by omega)] at h3
        have : j + 2 - l.length = 0 ∨ j + 2 - l.length = 1 := by omega
        rcases this with e | e <;> rw [e] at h3 <;> simp at h3
/-- When a comment can't be put. -/
theorem cmt_bad (l : List UInt8) : (Lib.contains l [45, 45] || Lib.hasSuffix l [45]) = decide (0 ≤ Lib.index (l ++ [45]) [45, 45]) := by
  rw [Bool.eq_iff_iff]
  unfold Lib.contains Lib.hasSuffix
  simp only [Bool.or_eq_true, decide_eq_true_eq]
  constructor
  · rintro (h | h)
    · rcases Lib.index_spec l [45, 45] with ⟨h1, _⟩ | ⟨i, h1, h2, h3, _⟩
      · omega
      · by_cases hn : Lib.index (l ++ [45]) [45, 45] < 0
        · have h4 : Lib.occAt (l ++ [45]) [45, 45] i = true := by
            obtain ⟨a1, a2⟩ := (occ2 _ _ _ _).1 h3
            have b2 := (List.getElem?_eq_some_iff.1 a2).1
            rw [occ2, List.getElem?_append_left (by omega), List.getElem?_append_left b2]
            exact ⟨a1, a2⟩
          rw [idx_none hn i (by simp; omega)] at h4
          cases h4
        · omega
    · rw [List.isSuffixOf_iff_suffix] at h
      obtain ⟨t, rfl⟩ := h
      by_cases hn : Lib.index (t ++ [45] ++ [45]) [45, 45] < 0
      · have h4 : Lib.occAt (t ++ [45] ++ [45]) [45, 45] t.length = true := by
          rw [occ2, List.append_assoc]
          constructor
          · rw [List.getElem?_append_right (Nat.le_refl _)]; simp
          · rw [List.getElem?_append_right (by omega)]; simp
        rw [idx_none hn t.length (by simp)] at h4
        cases h4
      · omega
  · intro h
    rcases Lib.index_spec (l ++ [45]) [45, 45] with ⟨h1, _⟩ | ⟨i, h1, h2, h3, _⟩
    · omega
    · obtain ⟨a1, a2⟩ := (occ2 _ _ _ _).1 h3
      have b2 := (List.getElem?_eq_some_iff.1 a2).1
      simp only [List.length_append, List.length_cons, List.length_nil] at b2
      by_cases hi : i + 1 < l.length
      · left
        rw [List.getElem?_append_left (by omega)] at a1 a2
        by_cases hn : Lib.index l [45, 45] < 0
        · have h4 : Lib.occAt l [45, 45] i = true := (occ2 _ _ _ _).2 ⟨a1, a2⟩
          rw [idx_none hn i (by omega)] at h4
          cases h4
        · omega
      · right
        rw [List.getElem?_append_left (by omega)] at a1
        rw [List.isSuffixOf_iff_suffix]
        refine ⟨l.take i, ?_⟩
        have hil : i < l.length := by omega
        rw [List.getElem?_eq_getElem hil] at a1
        injection a1 with a1
        have := List.take_append_drop i l
        rw [List.drop_eq_getElem_cons hil, a1, List.drop_eq_nil_of_le (by omega)] at this
        exact this
end Go.Proofs.YtggllkcoabeejaaDoor
