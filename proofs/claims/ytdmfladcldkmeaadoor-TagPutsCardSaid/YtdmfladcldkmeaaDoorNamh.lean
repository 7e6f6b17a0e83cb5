/- Names: what a colon does to characters and to rows of them. -/
import Derived.Test.YtdmfladcldkmeaaDoorNamg
namespace Go.Proofs.YtdmfladcldkmeaaDoor
set_option linter.unusedVariables false
set_option maxRecDepth 100000

theorem rawS_inv {l : List UInt8} {k m : Nat} {r : Int} (h : rawS l k = (r, m)) (h0 : m ≠ 0) :
    (m = 1 ∧ byteAt l k < 128 ∧ r = byteAt l k) ∨ (m = 2 ∧ 192 ≤ byteAt l k ∧ byteAt l k < 224 ∧ 0 ≤ restS l (k + 1)) ∨
    (m = 3 ∧ 224 ≤ byteAt l k ∧ byteAt l k < 240 ∧ 0 ≤ restS l (k + 1) ∧ 0 ≤ restS l (k + 2)) ∨
    (m = 4 ∧ 240 ≤ byteAt l k ∧ byteAt l k < 248 ∧ 0 ≤ restS l (k + 1) ∧ 0 ≤ restS l (k + 2) ∧ 0 ≤ restS l (k + 3)) := by
  unfold rawS at h
  simp only [] at h
  split at h
  · injection h with h1 h2
    exact .inl ⟨h2.symm, by omega, h1.symm⟩
  · split at h
    · injection h with h1 h2
      exact .inr (.inl ⟨h2.symm, by omega, by omega, by omega⟩)
    · split at h
      · injection h with h1 h2
        exact .inr (.inr (.inl ⟨h2.symm, by omega, by omega, by omega, by omega⟩))
      · split at h
        · injection h with h1 h2
          exact .inr (.inr (.inr ⟨h2.symm, by omega, by omega, by omega, by omega, by omega⟩))
        · injection h with h1 h2
          exact absurd h2.symm h0
theorem rest_inv {l : List UInt8} {j : Nat} (h : 0 ≤ restS l j) : j < l.length ∧ 128 ≤ byteAt l j := by
  unfold restS at h
  split at h
  · next h1 => exact ⟨h1.1, h1.2.1⟩
  · omega
theorem byteAt_take (l : List UInt8) {i j : Nat} (h : j < i) : byteAt (l.take i) j = byteAt l j := by
  unfold byteAt; rw [List.getElem?_take, if_pos h]
theorem rest_take (l : List UInt8) {i j : Nat} (h : j < i) : restS (l.take i) j = restS l j := by
  unfold restS
  rw [byteAt_take l h, List.length_take]
  have e : j < min i l.length ↔ j < l.length := by omega
  simp only [e]
theorem rawS_take {l : List UInt8} {i k m : Nat} {r : Int} (h : rawS l k = (r, m)) (h0 : m ≠ 0) (hi : k + m ≤ i) : rawS (l.take i) k = (r, m) := by
  have hb := byteAt_take l (i := i) (j := k) (by omega)
  rcases rawS_inv h h0 with ⟨rfl, h1, _⟩ | ⟨rfl, h1, h2, x⟩ | ⟨rfl, h1, h2, x, y⟩ | ⟨rfl, h1, h2, x, y, z⟩
  · rw [← h, rawS_1 h1, rawS_1 (by rw [hb]; exact h1), hb]
  · rw [← h, rawS_2 h1 h2 rfl x, rawS_2 (x := restS l (k + 1)) (by rw [hb]; exact h1) (by rw [hb]; exact h2) (rest_take l (by omega)) x, hb]
  · rw [← h, rawS_3 h1 h2 rfl x rfl y, rawS_3 (x := restS l (k + 1)) (y := restS l (k + 2)) (by rw [hb]; exact h1) (by rw [hb]; exact h2) (rest_take l (by omega)) x (rest_take l (by omega)) y, hb]
  · rw [← h, rawS_4 h1 h2 rfl x rfl y rfl z, rawS_4 (x := restS l (k + 1)) (y := restS l (k + 2)) (z := restS l (k + 3)) (by rw [hb]; exact h1) (by rw [hb]; exact h2) (rest_take l (by omega)) x (rest_take l (by omega)) y (rest_take l (by omega)) z, hb]
theorem chr_raw {l : List UInt8} {k m : Nat} {r : Int} (h : chrAt l k = (r, m)) (h0 : m ≠ 0) : rawS l k = (r, m) ∧ ¬ ((rawS l k).2 = 0 ∨ isR (rawS l k).1 = false ∨ encLen (rawS l k).1.toNat ≠ (rawS l k).2) := by
  unfold chrAt at h
  simp only [] at h
  split at h
  · injection h with h1 h2
    exact absurd h2.symm h0
  · next h1 => exact ⟨h, h1⟩
theorem chr_take {l : List UInt8} {i k m : Nat} {r : Int} (h : chrAt l k = (r, m)) (h0 : m ≠ 0) (hi : k + m ≤ i) : chrAt (l.take i) k = (r, m) := by
  obtain ⟨h1, h2⟩ := chr_raw h h0
  have h3 := rawS_take h1 h0 hi
  unfold chrAt
  simp only []
  rw [h3]
  rw [h1] at h2
  rw [if_neg h2]
theorem chr_colon {l : List UInt8} {k : Nat} (h : byteAt l k = 58) : chrAt l k = (58, 1) := by
  unfold chrAt
  simp only []
  rw [rawS_1 (by omega), h]
  rfl
theorem chr_58 {l : List UInt8} {k m : Nat} (h : chrAt l k = (58, m)) (h0 : m ≠ 0) : byteAt l k = 58 := by
  obtain ⟨h1, h2⟩ := chr_raw h h0
  rw [h1] at h2
  have h3 : m = 1 := by
    rcases Nat.decEq (encLen 58) m with h4 | h4
    · exact absurd (.inr (.inr h4)) h2
    · rw [← h4]; rfl
  rcases rawS_inv h1 h0 with ⟨_, h4, h5⟩ | ⟨h4, _⟩ | ⟨h4, _⟩ | ⟨h4, _⟩
  · omega
  · omega
  · omega
  · omega
theorem chr_tail {l : List UInt8} {k m t : Nat} {r : Int} (h : chrAt l k = (r, m)) (h0 : m ≠ 0) (h1 : 0 < t) (h2 : t < m) : 128 ≤ byteAt l (k + t) := by
  rcases rawS_inv (chr_raw h h0).1 h0 with ⟨rfl, _, _⟩ | ⟨rfl, _, _, x⟩ | ⟨rfl, _, _, x, y⟩ | ⟨rfl, _, _, x, y, z⟩
  · omega
  · obtain rfl : t = 1 := by omega
    exact (rest_inv x).2
  · have : t = 1 ∨ t = 2 := by omega
    rcases this with rfl | rfl
    · exact (rest_inv x).2
    · exact (rest_inv y).2
  · have : t = 1 ∨ t = 2 ∨ t = 3 := by omega
    rcases this with rfl | rfl | rfl
    · exact (rest_inv x).2
    · exact (rest_inv y).2
    · exact (rest_inv z).2

theorem plain_yes {p : Int → Bool} {r : Int} (h : p r = true) (hr : r ≠ 58) : plainP p r = true := by
  show (decide (r ≠ 58) && p r) = true
  rw [h, decide_eq_true hr]; rfl
theorem plain_58 (p : Int → Bool) : plainP p 58 = false := by
  show (decide ((58 : Int) ≠ 58) && p 58) = false
  rw [decide_eq_false (fun h => h rfl)]; rfl
/-- Ahead of a colon what was a row is a plain one. -/
theorem end_take {l : List UInt8} {q : Int → Bool} {i : Nat} (hi : i < l.length) (h58 : byteAt l i = 58) (f : Nat) : ∀ (p : Int → Bool) (k : Nat), k ≤ i → (∀ j, k ≤ j → j < i → byteAt l j ≠ 58) →
    endN l q f p k = l.length → endN (l.take i) (plainP q) f (plainP p) k = i := by
  have hlen : (l.take i).length = i := by simp; omega
  induction f with
  | zero => intro p k hk _ h; rw [endN] at h; omega
  | succ f ih =>
    intro p k hk hno h
    rcases Nat.lt_or_ge k i with hlt | hge
    · rw [endN] at h
      split at h
      · next hc =>
        obtain ⟨r, m, hrm⟩ : ∃ r m, chrAt l k = (r, m) := ⟨(chrAt l k).1, (chrAt l k).2, Prod.ext_iff.2 ⟨Eq.refl _, Eq.refl _⟩⟩
        rw [hrm] at hc h
        obtain ⟨_, h0, hp⟩ := hc
        have hmi : k + m ≤ i := by
          rcases Nat.lt_or_ge i (k + m) with h1 | h1
          · have := chr_tail (t := i - k) hrm h0 (by omega) (by omega)
            rw [show k + (i - k) = i by omega] at this
            omega
          · exact h1
        have hr : r ≠ 58 := by
          rintro rfl
          exact hno k (Nat.le_refl _) hlt (chr_58 hrm h0)
        rw [endN_on f k (by omega) (chr_take hrm h0 hmi) h0 (plain_yes hp hr)]
        exact ih q (k + m) hmi (fun j h1 h2 => hno j (by omega) h2) h
      · omega
    · rw [endN_out _ _ (.inl (by omega))]; omega
/-- A plain row has no colon. -/
theorem end_plain {l : List UInt8} {q : Int → Bool} (f : Nat) : ∀ (p : Int → Bool) (k : Nat), endN l (plainP q) f (plainP p) k = l.length → ∀ j, k ≤ j → j < l.length → byteAt l j ≠ 58 := by
  induction f with
  | zero => intro p k h j h1 h2; rw [endN] at h; omega
  | succ f ih =>
    intro p k h j h1 h2 h58
    rw [endN] at h
    split at h
    · next hc =>
      obtain ⟨r, m, hrm⟩ : ∃ r m, chrAt l k = (r, m) := ⟨(chrAt l k).1, (chrAt l k).2, Prod.ext_iff.2 ⟨Eq.refl _, Eq.refl _⟩⟩
      rw [hrm] at hc h
      obtain ⟨_, h0, hp⟩ := hc
      simp only [] at hp h0 h
      rcases Nat.lt_or_ge j (k + m) with h3 | h3
      · rcases Nat.lt_or_ge k j with h4 | h4
        · have := chr_tail (t := j - k) hrm h0 (by omega) (by omega)
          rw [show k + (j - k) = j by omega] at this
          omega
        · obtain rfl : j = k := by omega
          have := chr_colon h58
          rw [hrm] at this
          injection this with h5 h6
          rw [h5, plain_58] at hp
          cases hp
      · exact ih q (k + m) h j h3 h2 h58
    · omega

/-- More rounds than there are bytes say nothing else. -/
theorem endN_more {l : List UInt8} {q : Int → Bool} (f g : Nat) : ∀ (p : Int → Bool) (k : Nat), l.length ≤ k + f → l.length ≤ k + g → endN l q f p k = endN l q g p k := by
  induction f generalizing g with
  | zero => intro p k h1 _; rw [endN_out 0 k (.inl (by omega)), endN_out g k (.inl (by omega))]
  | succ f ih =>
    intro p k h1 h2
    cases g with
    | zero => rw [endN_out 0 k (.inl (by omega)), endN_out _ k (.inl (by omega))]
    | succ g =>
      rw [endN, endN]
      split
      · next hc => exact ih g q _ (by omega) (by omega)
      · rfl
theorem endN_long {l : List UInt8} {q : Int → Bool} {n : Nat} (hl : l.length = n) (f : Nat) : ∀ (g : Nat) (p : Int → Bool) (k : Nat), endN l q f p k = n → f < g → endN l q g p k = n := by
  induction f with
  | zero => intro g p k h hg; rw [endN] at h; rw [endN_out g k (.inl (by omega))]; exact h
  | succ f ih =>
    intro g p k h hg
    obtain ⟨g, rfl⟩ : ∃ g', g = g' + 1 := ⟨g - 1, by omega⟩
    rw [endN] at h ⊢
    split at h
    · next hc => rw [if_pos hc]; exact ih g q _ h (by omega)
    · next hc => rw [if_neg hc]; exact h
theorem endN_fuel {l : List UInt8} {p q : Int → Bool} {i f : Nat} (hl : l.length = i) (h : endN l q f p 0 = i) : endN l q i p 0 = i := by
  rcases Nat.lt_or_ge f i with h1 | h1
  · exact endN_long hl f i p 0 h h1
  · rw [endN_more i f p 0 (by omega) (by omega)]; exact h
theorem byteAt_58 {l : List UInt8} {j : Nat} : l[j]? = some 58 ↔ byteAt l j = 58 := by
  unfold byteAt
  constructor
  · intro h; rw [h]; rfl
  · intro h
    cases hj : l[j]? with
    | none => rw [hj] at h; exact absurd h (by decide)
    | some b =>
      rw [hj] at h
      simp only [Option.getD_some] at h
      congr 1
      exact UInt8.toNat_inj.1 h
theorem whole_iff {l : List UInt8} {p q : Int → Bool} : wholeB l p q = true ↔ l ≠ [] ∧ endN l q l.length p 0 = l.length := by
  unfold wholeB
  cases l <;> simp
/-- The part ahead of the first colon of a name is a plain name, if there is one. -/
theorem whole_take {l : List UInt8} {p q : Int → Bool} {i : Nat} (h : wholeB l p q = true) (hi : l[i]? = some 58) (hno : ∀ k < i, l[k]? ≠ some 58) (h0 : i ≠ 0) : wholeB (l.take i) (plainP p) (plainP q) = true := by
  obtain ⟨h1, h2⟩ := whole_iff.1 h
  have hil : i < l.length := (List.getElem?_eq_some_iff.1 hi).1
  have hlen : (l.take i).length = i := by simp; omega
  refine whole_iff.2 ⟨fun e => ?_, ?_⟩
  · rw [e] at hlen; simp at hlen; omega
  · have h3 := end_take hil (byteAt_58.1 hi) l.length p 0 (Nat.zero_le _) (fun j _ hj e => hno j hj (byteAt_58.2 e)) h2
    rw [hlen]
    exact endN_fuel hlen h3
/-- What has a colon is no plain name. -/
theorem whole_not {l : List UInt8} {p q : Int → Bool} {j : Nat} (hj : l[j]? = some 58) : wholeB l (plainP p) (plainP q) = false := by
  cases hw : wholeB l (plainP p) (plainP q) with
  | false => rfl
  | true => exact absurd (byteAt_58.1 hj) (end_plain l.length p 0 (whole_iff.1 hw).2 j (Nat.zero_le _) (List.getElem?_eq_some_iff.1 hj).1)
end Go.Proofs.YtdmfladcldkmeaaDoor
