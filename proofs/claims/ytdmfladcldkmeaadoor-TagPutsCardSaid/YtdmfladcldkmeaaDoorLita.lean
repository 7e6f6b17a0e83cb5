/- Texts between quotes, and the references of a text: what is read (pure). -/
import Derived.Test.YtdmfladcldkmeaaDoorEse
import Derived.Test.YtdmfladcldkmeaaDoorCrg
namespace Go.Proofs.YtdmfladcldkmeaaDoor
open Go.ChangeShapes Go.WideShapes Go.ChangeAt Go.RowKit
set_option linter.unusedVariables false
set_option maxRecDepth 100000

theorem index_cases (l : List UInt8) (b : UInt8) : (Lib.indexByte l b = -1 ∧ ∀ k : Nat, l[k]? ≠ some b) ∨ ∃ i : Nat, Lib.indexByte l b = i ∧ i < l.length ∧ l[i]? = some b ∧ ∀ k < i, l[k]? ≠ some b := by
  have h := Lib.indexByte_ge l b
  by_cases h0 : Lib.indexByte l b = -1
  · exact .inl ⟨h0, Lib.indexByte_none h0⟩
  · obtain ⟨i, hi⟩ : ∃ i : Nat, Lib.indexByte l b = i := ⟨(Lib.indexByte l b).toNat, by omega⟩
    obtain ⟨h1, h2⟩ := Lib.indexByte_some hi
    exact .inr ⟨i, hi, (List.getElem?_eq_some_iff.1 h1).1, h1, h2⟩
/-- A byte at a place, as a number. -/
theorem at_iff {l : List UInt8} {k b : Nat} (hk : k < l.length) (hb : b < 256) : l[k]? = some (UInt8.ofNat b) ↔ byteAt l k = b := by
  unfold byteAt
  rw [List.getElem?_eq_getElem hk, Option.some_inj, Option.getD_some]
  constructor
  · rintro h; rw [h]; simp; omega
  · rintro rfl; simp

/-- A text, a place, an error, as results. -/
abbrev Trip := List UInt8 × Int × Int
def trV (x : Trip) : Value := .tuple #[strV x.1, .int .i64 x.2.1, .int .i64 x.2.2]
def noT (e : Int) : Trip := ([], 0, e)
theorem trV_no (e : Int) : trV (noT e) = .tuple #[.string ⟨#[]⟩, .int .i64 0, .int .i64 e] := rfl
/-- What stands between two quotes. -/
def quoT (l : List UInt8) (k : Int) : Trip :=
  if k < 0 ∨ (l.length : Int) < k then noT 3
  else if k.toNat = l.length ∨ (byteAt l k.toNat ≠ 34 ∧ byteAt l k.toNat ≠ 39) then noT 7
  else if Lib.indexByte (l.drop (k.toNat + 1)) (UInt8.ofNat (byteAt l k.toNat)) < 0 then noT 7
  else ((l.drop (k.toNat + 1)).take (Lib.indexByte (l.drop (k.toNat + 1)) (UInt8.ofNat (byteAt l k.toNat))).toNat,
    ((k.toNat + 1 + (Lib.indexByte (l.drop (k.toNat + 1)) (UInt8.ofNat (byteAt l k.toNat))).toNat + 1 : Nat) : Int), 0)
theorem quoT_out {l : List UInt8} {k : Int} (h : k < 0 ∨ (l.length : Int) < k) : quoT l k = noT 3 := by rw [quoT, if_pos h]
theorem quoT_not {l : List UInt8} {k : Nat} (hk : k ≤ l.length) (h : k = l.length ∨ (byteAt l k ≠ 34 ∧ byteAt l k ≠ 39)) : quoT l (k : Int) = noT 7 := by
  rw [quoT, if_neg (by omega), Int.toNat_natCast, if_pos h]
theorem quoT_open {l : List UInt8} {k b : Nat} (hk : k < l.length) (hb : byteAt l k = b) (h : b = 34 ∨ b = 39) (hi : Lib.indexByte (l.drop (k + 1)) (UInt8.ofNat b) < 0) : quoT l (k : Int) = noT 7 := by
  rw [quoT, if_neg (by omega), Int.toNat_natCast, if_neg (by rw [hb]; omega), hb, if_pos hi]
theorem quoT_ok {l : List UInt8} {k b i : Nat} (hk : k < l.length) (hb : byteAt l k = b) (h : b = 34 ∨ b = 39) (hi : Lib.indexByte (l.drop (k + 1)) (UInt8.ofNat b) = i) :
    quoT l (k : Int) = ((l.drop (k + 1)).take i, ((k + 1 + i + 1 : Nat) : Int), 0) := by
  rw [quoT, if_neg (by omega), Int.toNat_natCast, if_neg (by rw [hb]; omega), hb, hi, if_neg (by omega), Int.toNat_natCast]
theorem quoT_err (l : List UInt8) (k : Int) (h : (quoT l k).2.2 ≠ 0) : quoT l k = noT (quoT l k).2.2 := by
  unfold quoT at h ⊢
  split
  · rfl
  · next h1 =>
    rw [if_neg h1] at h
    split
    · rfl
    · next h2 =>
      rw [if_neg h2] at h
      split
      · rfl
      · next h3 =>
        rw [if_neg h3] at h
        exact absurd rfl h
theorem quoT_len (l : List UInt8) (k : Int) : (quoT l k).1.length ≤ l.length := by
  unfold quoT
  split
  · simp [noT]
  · split
    · simp [noT]
    · split
      · simp [noT]
      · simp only [List.length_take, List.length_drop]; omega

/-- A number among results. -/
def fldI (v : Value) (i : Nat) : Int := match v with | .tuple xs => intOf (xs.getD i undef) | _ => 0
/-- The place behind the reference at a place, and the error. -/
def bhN (l : List UInt8) (k : Nat) : Int × Int :=
  if k + 1 < l.length ∧ byteAt l (k + 1) = 35 then (fldI (chV l k) 1, fldI (chV l k) 2) else (fldI (entV l k 38) 1, fldI (entV l k 38) 2)
theorem digZ_le (l : List UInt8) (b : Int) : ∀ f k, k ≤ l.length → digZ l b f k ≤ l.length
  | 0, k, h => h
  | f + 1, k, h => by
    rw [digZ]
    split
    · next h1 => exact digZ_le l b f (k + 1) (by omega)
    · exact h
theorem crefD_go {l : List UInt8} {b : Int} {s : Nat} (hs : s ≤ l.length) (h : fldI (crefD l b s) 2 = 0) : ∃ m : Nat, fldI (crefD l b s) 1 = m ∧ s < m ∧ m ≤ l.length := by
  unfold crefD at h ⊢
  split
  · next h1 => rw [if_pos h1] at h; exact absurd h (by show (7 : Int) ≠ 0; omega)
  · next h1 =>
    rw [if_neg h1] at h
    split
    · next h2 => rw [if_pos h2] at h; exact absurd h (by show (6 : Int) ≠ 0; omega)
    · have hg := digZ_ge l b l.length s
      have hl := digZ_le l b l.length s hs
      exact ⟨digZ l b l.length s + 1, rfl, by omega, by omega⟩
theorem chV_go {l : List UInt8} {k : Nat} (hk : k < l.length) (h : fldI (chV l k) 2 = 0) : ∃ m : Nat, fldI (chV l k) 1 = m ∧ k < m ∧ m ≤ l.length := by
  unfold chV at h ⊢
  rw [if_neg (by omega)] at h ⊢
  rw [Int.toNat_natCast] at h ⊢
  split
  · next h1 => rw [if_pos h1] at h; exact absurd h (by show (7 : Int) ≠ 0; omega)
  · next h1 =>
    rw [if_neg h1] at h
    have hk3 : k + 3 ≤ l.length := by
      rcases Nat.lt_or_ge l.length (k + 3) with h2 | h2
      · exact absurd (.inl h2) h1
      · exact h2
    split
    · next h2 =>
      rw [if_pos h2] at h
      obtain ⟨m, a, b, c⟩ := crefD_go (by omega) h
      exact ⟨m, a, by omega, c⟩
    · next h2 =>
      rw [if_neg h2] at h
      obtain ⟨m, a, b, c⟩ := crefD_go (by omega) h
      exact ⟨m, a, by omega, c⟩
theorem entV_go {l : List UInt8} {k : Nat} (hk : k < l.length) (h : fldI (entV l k 38) 2 = 0) : ∃ m : Nat, fldI (entV l k 38) 1 = m ∧ k < m ∧ m ≤ l.length := by
  have hz := endN_le l (plainP charN) l.length (plainP startN) (k + 1) (by omega)
  rw [show endN l (plainP charN) l.length (plainP startN) (k + 1) = entZ l k from rfl] at hz
  unfold entV at h ⊢
  rw [if_neg (by omega)] at h ⊢
  rw [Int.toNat_natCast] at h ⊢
  split
  · next h1 => rw [if_pos h1] at h; exact absurd h (by show (7 : Int) ≠ 0; omega)
  · next h1 =>
    rw [if_neg h1] at h
    split
    · next h2 => rw [if_pos h2] at h; exact absurd h (by show (7 : Int) ≠ 0; omega)
    · next h2 =>
      rw [if_neg h2] at h
      split
      · next h3 => rw [if_pos h3] at h; exact absurd h (by show (11 : Int) ≠ 0; omega)
      · next h3 =>
        rw [if_neg h3] at h
        split
        · next h4 => rw [if_pos h4] at h; exact absurd h (by show (7 : Int) ≠ 0; omega)
        · next h4 => exact ⟨entZ l k + 1, rfl, by omega, by omega⟩
theorem bh_go {l : List UInt8} {k : Nat} (hk : k < l.length) (h : (bhN l k).2 = 0) : ∃ m : Nat, (bhN l k).1 = m ∧ k < m ∧ m ≤ l.length := by
  unfold bhN at h ⊢
  split
  · next h1 => rw [if_pos h1] at h; exact chV_go hk h
  · next h1 => rw [if_neg h1] at h; exact entV_go hk h

/-- The first place at which an "&" begins no reference, and the error. -/
def refsN (l : List UInt8) : Nat → Nat → Int × Int
  | 0, _ => (0, 0)
  | f + 1, k => if k < l.length then (if byteAt l k ≠ 38 then refsN l f (k + 1) else if (bhN l k).2 ≠ 0 then ((k : Int), (bhN l k).2) else refsN l f (bhN l k).1.toNat) else (0, 0)
theorem refs_end {l : List UInt8} (f k : Nat) (h : l.length ≤ k) : refsN l f k = (0, 0) := by
  cases f with
  | zero => rfl
  | succ f => rw [refsN, if_neg (by omega)]
theorem refs_one {l : List UInt8} (f k : Nat) (h : k < l.length) (hb : byteAt l k ≠ 38) : refsN l (f + 1) k = refsN l f (k + 1) := by rw [refsN, if_pos h, if_pos hb]
theorem refs_err {l : List UInt8} (f k : Nat) (h : k < l.length) (hb : byteAt l k = 38) (he : (bhN l k).2 ≠ 0) : refsN l (f + 1) k = ((k : Int), (bhN l k).2) := by
  rw [refsN, if_pos h, if_neg (by omega), if_pos he]
theorem refs_on {l : List UInt8} (f k m : Nat) (h : k < l.length) (hb : byteAt l k = 38) (he : (bhN l k).2 = 0) (hm : (bhN l k).1 = m) : refsN l (f + 1) k = refsN l f m := by
  rw [refsN, if_pos h, if_neg (by omega), if_neg (by rw [he]; simp), hm, Int.toNat_natCast]
theorem refs_skip {l : List UInt8} (m : Nat) : ∀ (f k : Nat), m ≤ f → k + m ≤ l.length → (∀ j, j < m → byteAt l (k + j) ≠ 38) → refsN l f k = refsN l (f - m) (k + m) := by
  induction m with
  | zero => intro f k _ _ _; rfl
  | succ m ih =>
    intro f k hf hk h
    obtain ⟨g, rfl⟩ : ∃ g, f = g + 1 := ⟨f - 1, by omega⟩
    have h0 := h 0 (by omega)
    rw [Nat.add_zero] at h0
    rw [refs_one g k (by omega) h0, ih g (k + 1) (by omega) (by omega) (fun j hj => by have := h (j + 1) (by omega); rwa [show k + 1 + j = k + (j + 1) by omega])]
    congr 1 <;> omega
theorem refs_none {l : List UInt8} (f k : Nat) (h : ∀ j, k ≤ j → j < l.length → byteAt l j ≠ 38) : refsN l f k = (0, 0) := by
  induction f generalizing k with
  | zero => rfl
  | succ f ih =>
    by_cases hk : k < l.length
    · rw [refs_one f k hk (h k (Nat.le_refl _) hk)]
      exact ih (k + 1) (fun j h1 h2 => h j (by omega) h2)
    · exact refs_end _ _ (by omega)
def refsV (l : List UInt8) : Value := .tuple #[.int .i64 (refsN l l.length 0).1, .int .i64 (refsN l l.length 0).2]

/-- The error of the first check that has one. -/
def chk : List (List UInt8 → Int) → List UInt8 → Int
  | [], _ => 0
  | f :: fs, s => if f s ≠ 0 then f s else chk fs s
def chkT (fs : List (List UInt8 → Int)) (x : Trip) : Trip := if x.2.2 ≠ 0 then noT x.2.2 else if chk fs x.1 ≠ 0 then noT (chk fs x.1) else (x.1, x.2.1, 0)
def withoutE (c : Nat) (s : List UInt8) : Int := if 0 ≤ Lib.indexByte s (UInt8.ofNat c) then 7 else 0
def refsE (s : List UInt8) : Int := (refsN s s.length 0).2
end Go.Proofs.YtdmfladcldkmeaaDoor
