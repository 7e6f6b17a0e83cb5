/- Line ends in plain words: texts with line ends made one; lines and places. Nothing of the program is named here. -/
import Derived.Test.YtpgpniemkmiljaaByt
import Derived.Laws.CopyOwn
namespace Go.Proofs.Ytpgpniemkmiljaa
open Go.ChangeShapes Go.WideShapes Go.ChangeAt Go.RowKit
set_option linter.unusedVariables false

/-- Line ends made one. -/
def normS : List UInt8 → List UInt8
  | [] => []
  | c :: r => if c ≠ 13 then c :: normS r else if r.head? = some 10 then normS r else 10 :: normS r
/-- Are there no carriage returns? -/
def plainS (l : List UInt8) : Bool := l.all fun c => c != 13
theorem normS_plain {l : List UInt8} (h : plainS l = true) : normS l = l := by
  induction l with
  | nil => rfl
  | cons c r ih =>
    unfold plainS at h ih
    simp only [List.all_cons, Bool.and_eq_true, bne_iff_ne] at h
    rw [normS, if_pos h.1, ih h.2]
theorem normS_ahead {l : List UInt8} (h : plainS l = true) (r : List UInt8) : normS (l ++ r) = l ++ normS r := by
  induction l with
  | nil => rfl
  | cons c l ih =>
    unfold plainS at h ih
    simp only [List.all_cons, Bool.and_eq_true, bne_iff_ne] at h
    rw [List.cons_append, normS, if_pos h.1, ih h.2, List.cons_append]
theorem normS_feed (r : List UInt8) (h : r.head? = some 10) : normS (13 :: r) = normS r := by rw [normS, if_neg (by simp), if_pos h]
theorem normS_carriage (r : List UInt8) (h : r.head? ≠ some 10) : normS (13 :: r) = 10 :: normS r := by rw [normS, if_neg (by simp), if_neg h]
theorem plain_normS (l : List UInt8) : plainS (normS l) = true := by
  induction l with
  | nil => rfl
  | cons c r ih =>
    rw [normS]
    split
    · rename_i h
      unfold plainS at ih ⊢
      rw [List.all_cons, ih, Bool.and_true]
      simpa using h
    · split
      · exact ih
      · unfold plainS at ih ⊢
        rw [List.all_cons, ih]; rfl
theorem normS_len (l : List UInt8) : (normS l).length ≤ l.length := by
  induction l with
  | nil => exact Nat.le_refl _
  | cons c r ih =>
    rw [normS]
    split
    · simp only [List.length_cons]; omega
    · split
      · simp only [List.length_cons]; omega
      · simp only [List.length_cons]; omega

/-- What the search for a byte tells. -/
theorem index_none {l : List UInt8} {x : UInt8} (h : Lib.indexByte l x < 0) : Lib.indexByte l x = -1 ∧ ∀ c ∈ l, c ≠ x := by
  induction l with
  | nil => exact ⟨rfl, fun c h => by cases h⟩
  | cons b l ih =>
    have hge := Lib.indexByte_ge l x
    unfold Lib.indexByte at h ⊢
    by_cases hb : (b == x) = true
    · rw [if_pos hb] at h; omega
    · rw [if_neg hb] at h ⊢
      by_cases hi : (Lib.indexByte l x == -1) = true
      · rw [if_pos hi]
        have hi' : Lib.indexByte l x = -1 := by simpa using hi
        refine ⟨rfl, fun c hc => ?_⟩
        rcases List.mem_cons.1 hc with rfl | hc
        · simpa using hb
        · exact (ih (by omega)).2 c hc
      · rw [if_neg hi] at h
        have hi' : Lib.indexByte l x ≠ -1 := by simpa using hi
        omega
theorem index_some {l : List UInt8} {x : UInt8} (h : 0 ≤ Lib.indexByte l x) :
    ∃ n : Nat, Lib.indexByte l x = (n : Int) ∧ n < l.length ∧ (∀ c ∈ l.take n, c ≠ x) ∧ l = l.take n ++ x :: l.drop (n + 1) := by
  induction l with
  | nil => unfold Lib.indexByte at h; omega
  | cons b l ih =>
    have hge := Lib.indexByte_ge l x
    unfold Lib.indexByte at h ⊢
    by_cases hb : (b == x) = true
    · rw [if_pos hb]
      refine ⟨0, rfl, by simp, fun c hc => by simp at hc, ?_⟩
      have : b = x := by simpa using hb
      simp [this]
    · rw [if_neg hb] at h ⊢
      by_cases hi : (Lib.indexByte l x == -1) = true
      · rw [if_pos hi] at h; omega
      · rw [if_neg hi] at h ⊢
        have hi' : Lib.indexByte l x ≠ -1 := by simpa using hi
        obtain ⟨n, h1, h2, h3, h4⟩ := ih (by omega)
        refine ⟨n + 1, by rw [h1]; rfl, by simp; omega, fun c hc => ?_, ?_⟩
        · rw [List.take_succ_cons] at hc
          rcases List.mem_cons.1 hc with rfl | hc
          · simpa using hb
          · exact h3 c hc
        · rw [List.take_succ_cons, List.drop_succ_cons, List.cons_append, ← h4]
theorem plain_of_none {l : List UInt8} (h : ∀ c ∈ l, c ≠ 13) : plainS l = true := by
  unfold plainS
  rw [List.all_eq_true]
  intro c hc
  simpa using h c hc

/-- How far a place lies within its line. -/
def colN (l : List UInt8) : Nat → Nat
  | 0 => 0
  | k + 1 => if l[k]? = some 10 then 0 else colN l k + 1
/-- The line of a place, from 1 on. -/
def lineN (l : List UInt8) (k : Nat) : Nat := 1 + (l.take k).count 10
theorem colN_le (l : List UInt8) (k : Nat) : colN l k ≤ k := by
  induction k with
  | zero => exact Nat.le_refl _
  | succ k ih => rw [colN]; split <;> omega
theorem lineN_le (l : List UInt8) (k : Nat) : 1 ≤ lineN l k ∧ lineN l k ≤ k + 1 := by
  unfold lineN
  have := List.count_le_length (a := (10 : UInt8)) (l := l.take k)
  have := List.length_take_le k l
  omega
theorem take_snocB (l : List UInt8) (k : Nat) (h : k < l.length) : l.take (k + 1) = l.take k ++ [l[k]] := by
  rw [List.take_succ_eq_append_getElem h]
theorem lineN_feed (l : List UInt8) (k : Nat) (h : l[k]? = some 10) : lineN l (k + 1) = lineN l k + 1 := by
  obtain ⟨hk, e⟩ := List.getElem?_eq_some_iff.1 h
  unfold lineN
  rw [take_snocB l k hk, List.count_append, e]
  simp; omega
theorem lineN_other (l : List UInt8) (k : Nat) (hk : k < l.length) (h : l[k]? ≠ some 10) : lineN l (k + 1) = lineN l k := by
  unfold lineN
  rw [take_snocB l k hk, List.count_append]
  have : l[k] ≠ 10 := fun e => h (by rw [List.getElem?_eq_getElem hk, e])
  simp [this]
theorem colN_feed (l : List UInt8) (k : Nat) (h : l[k]? = some 10) : colN l (k + 1) = 0 := by rw [colN, if_pos h]
theorem colN_other (l : List UInt8) (k : Nat) (h : l[k]? ≠ some 10) : colN l (k + 1) = colN l k + 1 := by rw [colN, if_neg h]
theorem colN_take (l : List UInt8) (k n : Nat) (h : n ≤ k) : colN (l.take k) n = colN l n := by
  induction n with
  | zero => rfl
  | succ n ih => rw [colN, colN, ih (by omega), List.getElem?_take, if_pos (show n < k by omega)]
theorem lineN_take (l : List UInt8) (k : Nat) : lineN (l.take k) k = lineN l k := by unfold lineN; rw [List.take_take, Nat.min_self]
theorem byte10 (l : List UInt8) (k : Nat) (h : k < l.length) : (((byteAt l k : Nat) : Int) = 10 ↔ l[k]? = some 10) := by
  unfold byteAt
  rw [List.getElem?_eq_getElem h]
  simp only [Option.getD_some, Option.some.injEq]
  constructor
  · intro e; exact UInt8.toNat_inj.1 (by have : l[k].toNat = 10 := by omega
                                         rw [this]; rfl)
  · intro e; rw [e]; rfl
end Go.Proofs.Ytpgpniemkmiljaa
