/- Lines, one by one: where they begin and end. Nothing of the program is named here. -/
import Derived.Test.YtpgpniemkmiljaaEolF
namespace Go.Proofs.Ytpgpniemkmiljaa
open Go.ChangeShapes Go.WideShapes Go.ChangeAt Go.RowKit
set_option linter.unusedVariables false

/-- A line begins at p. -/
structure IsStart (l : List UInt8) (L p : Nat) : Prop where
  le : p ≤ l.length
  line : lineN l p = L
  col : colN l p = 0
/-- The line that begins at p ends ahead of e. -/
structure EndOf (l : List UInt8) (p e : Nat) : Prop where
  le : p ≤ e
  size : e ≤ l.length
  none : ∀ j, p ≤ j → j < e → l[j]? ≠ some 10
  last : e = l.length ∨ l[e]? = some 10
theorem start_one (l : List UInt8) : IsStart l 1 0 := ⟨Nat.zero_le _, by simp [lineN], rfl⟩
theorem lineN_step (l : List UInt8) (k : Nat) (hk : k < l.length) : lineN l k ≤ lineN l (k + 1) := by
  by_cases h : l[k]? = some 10
  · rw [lineN_feed l k h]; omega
  · rw [lineN_other l k hk h]; exact Nat.le_refl _
theorem lineN_mono (l : List UInt8) {a b : Nat} (hab : a ≤ b) (hb : b ≤ l.length) : lineN l a ≤ lineN l b := by
  induction b with
  | zero => rw [show a = 0 by omega]; exact Nat.le_refl _
  | succ b ih =>
    by_cases h : a = b + 1
    · rw [h]; exact Nat.le_refl _
    · exact Nat.le_trans (ih (by omega) (by omega)) (lineN_step l b (by omega))
theorem start_back (l : List UInt8) {L p : Nat} (h : IsStart l L (p + 1)) : l[p]? = some 10 := by
  have := h.col
  rw [colN] at this
  split at this
  · assumption
  · omega
theorem start_lt {l : List UInt8} {L M p q : Nat} (h : IsStart l L p) (k : IsStart l M q) (hpq : p < q) : L < M := by
  cases q with
  | zero => omega
  | succ q =>
    have h1 := start_back l k
    have h2 := lineN_feed l q h1
    have h3 := lineN_mono l (a := p) (b := q) (by omega) (by have := k.le; omega)
    rw [← h.line, ← k.line]; omega
theorem start_unique {l : List UInt8} {L p q : Nat} (h : IsStart l L p) (k : IsStart l L q) : p = q := by
  rcases Nat.lt_trichotomy p q with e | e | e
  · have := start_lt h k e; omega
  · exact e
  · have := start_lt k h e; omega
theorem same_line (l : List UInt8) {p e : Nat} (hp : p ≤ e) (he : e ≤ l.length) (h : ∀ j, p ≤ j → j < e → l[j]? ≠ some 10) : lineN l e = lineN l p := by
  induction e with
  | zero => rw [show p = 0 by omega]
  | succ e ih =>
    by_cases hpe : p = e + 1
    · rw [hpe]
    · rw [lineN_other l e (by omega) (h e (by omega) (by omega)), ih (by omega) (by omega) (fun j h1 h2 => h j h1 (by omega))]
theorem EndOf.unique {l : List UInt8} {p e f : Nat} (h : EndOf l p e) (k : EndOf l p f) : e = f := by
  rcases Nat.lt_trichotomy e f with c | c | c
  · rcases h.last with h1 | h1
    · have := k.size; omega
    · exact absurd h1 (k.none e h.le c)
  · exact c
  · rcases k.last with h1 | h1
    · have := h.size; omega
    · exact absurd h1 (h.none f k.le c)
/-- What the search for a feed tells of the line at p. -/
theorem end_none {l : List UInt8} {p : Nat} (hp : p ≤ l.length) (h : Lib.indexByte (l.drop p) 10 < 0) : EndOf l p l.length := by
  refine ⟨hp, Nat.le_refl _, fun j h1 h2 e => ?_, .inl rfl⟩
  have := (index_none h).2 10 (List.mem_of_getElem? (i := j - p) (by rw [List.getElem?_drop, show p + (j - p) = j by omega]; exact e))
  exact this rfl
theorem end_some {l : List UInt8} {p n : Nat} (hp : p ≤ l.length) (hn : n < (l.drop p).length) (h3 : ∀ c ∈ (l.drop p).take n, c ≠ 10) (h4 : l.drop p = (l.drop p).take n ++ 10 :: (l.drop p).drop (n + 1)) :
    EndOf l p (p + n) ∧ l[p + n]? = some 10 := by
  rw [List.length_drop] at hn
  have e : l[p + n]? = some 10 := by
    rw [← List.getElem?_drop, h4, List.getElem?_append_right (by simp; omega)]
    have : n - ((l.drop p).take n).length = 0 := by rw [List.length_take, List.length_drop]; omega
    rw [this]; rfl
  refine ⟨⟨Nat.le_add_right _ _, by omega, fun j h1 h2 e2 => ?_, .inr e⟩, e⟩
  exact h3 10 (List.mem_of_getElem? (i := j - p) (by rw [List.getElem?_take, if_pos (by omega), List.getElem?_drop, show p + (j - p) = j by omega]; exact e2)) rfl
theorem start_next {l : List UInt8} {L p e : Nat} (h : IsStart l L p) (he : EndOf l p e) (h10 : l[e]? = some 10) : IsStart l (L + 1) (e + 1) := by
  have hel : e < l.length := (List.getElem?_eq_some_iff.1 h10).1
  exact ⟨by omega, by rw [lineN_feed l e h10, same_line l he.le he.size he.none, h.line], colN_feed l e h10⟩
theorem last_line {l : List UInt8} {L p : Nat} (h : IsStart l L p) (he : EndOf l p l.length) : lineN l l.length = L := by
  rw [same_line l he.le (Nat.le_refl _) he.none, h.line]
theorem start_bd {l : List UInt8} {L p : Nat} (h : IsStart l L p) : 1 ≤ L ∧ L ≤ lineN l l.length := by
  rw [← h.line]
  exact ⟨(lineN_le l p).1, lineN_mono l h.le (Nat.le_refl _)⟩
theorem end_exists (l : List UInt8) {p : Nat} (hp : p ≤ l.length) : ∃ e, EndOf l p e := by
  by_cases h : Lib.indexByte (l.drop p) 10 < 0
  · exact ⟨_, end_none hp h⟩
  · obtain ⟨n, _, h2, h3, h4⟩ := index_some (show 0 ≤ Lib.indexByte (l.drop p) 10 by omega)
    exact ⟨_, (end_some hp h2 h3 h4).1⟩
theorem end_feed {l : List UInt8} {L p e : Nat} (h : IsStart l L p) (he : EndOf l p e) (hl : L < lineN l l.length) : l[e]? = some 10 := by
  rcases he.last with h1 | h1
  · subst h1; have := last_line h he; omega
  · exact h1
theorem end_last {l : List UInt8} {L p e : Nat} (h : IsStart l L p) (he : EndOf l p e) (hl : lineN l l.length ≤ L) : e = l.length := by
  rcases he.last with h1 | h1
  · exact h1
  · have := start_bd (start_next h he h1); omega
theorem start_exists (l : List UInt8) : ∀ L, 1 ≤ L → L ≤ lineN l l.length → ∃ p, IsStart l L p
  | 0, h, _ => by omega
  | 1, _, _ => ⟨0, start_one l⟩
  | L + 2, _, h => by
    obtain ⟨p, hp⟩ := start_exists l (L + 1) (by omega) (by omega)
    obtain ⟨e, he⟩ := end_exists l hp.le
    exact ⟨e + 1, start_next hp he (end_feed hp he (by omega))⟩
theorem take_end {l : List UInt8} {p e : Nat} (he : EndOf l p e) : l.take p ++ (l.drop p).take (e - p) = l.take e := by
  have := he.le
  rw [← List.take_add, show p + (e - p) = e by omega]
theorem take_feed {l : List UInt8} {e : Nat} (h : l[e]? = some 10) : l.take e ++ [10] = l.take (e + 1) := by
  obtain ⟨hk, x⟩ := List.getElem?_eq_some_iff.1 h
  rw [take_snocB l e hk, x]
end Go.Proofs.Ytpgpniemkmiljaa
