/- Names: what a colon does to characters and to rows of them. A row of characters within a text: what is behind it is no more of it. Names: a name's parts, by the program and by the document. Strings of known bytes: an index, a piece, two of them one behind the other. Contracts of strings.Builder over a builder that the caller has made: what it holds behind WriteString and WriteByte, and what String tells. -/
import Derived.Laws.Strings
import Derived.Lib.Builder
import Derived.Lib.AppendStr
import Derived.Lib.UnsafeStr
import Derived.Laws.Externs
import Derived.Laws.AppendOwn
import Derived.RegionTactic
import Derived.ChangeAlike
import Derived.Test.YtdmfladcldkmeaaDoorPkaa
import Derived.Test.YtdmfladcldkmeaaDoorPkae
namespace Go.Proofs.YtdmfladcldkmeaaDoor
set_option linter.unusedVariables false
set_option maxRecDepth 100000

theorem rawS_inv {l : List UInt8} {k m : Nat} {r : Int} (h : rawS l k = (r, m)) (h0 : m ≠ 0) :
    (m = 1 ∧ byteAt l k < 128 ∧ r = byteAt l k) ∨ (m = 2 ∧ 192 ≤ byteAt l k ∧ byteAt l k < 224 ∧ 0 ≤ restS l (k + 1)) ∨
    (m = 3 ∧ 224 ≤ byteAt l k ∧ byteAt l k < 240 ∧ 0 ≤ restS l (k + 1) ∧ 0 ≤ restS l (k + 2)) ∨
    (m = 4 ∧ 240 ≤ byteAt l k ∧ byteAt l k < 248 ∧ 0 ≤ restS l (k + 1) ∧ 0 ≤ restS l (k + 2) ∧ 0 ≤ restS l (k + 3)) := by
  unfold rawS at h
  simp only [] at h
  split at h
  · injection h with h1 h2
    exact .inl ⟨h2.symm, by omega, h1.symm⟩
  · split at h
    · injection h with h1 h2
      exact .inr (.inl ⟨h2.symm, by omega, by omega, by omega⟩)
    · split at h
      · injection h with h1 h2
        exact .inr (.inr (.inl ⟨h2.symm, by omega, by omega, by omega, by omega⟩))
      · split at h
        · injection h with h1 h2
          exact .inr (.inr (.inr ⟨h2.symm, by omega, by omega, by omega, by omega, by omega⟩))
        · injection h with h1 h2
          exact absurd h2.symm h0
theorem rest_inv {l : List UInt8} {j : Nat} (h : 0 ≤ restS l j) : j < l.length ∧ 128 ≤ byteAt l j := by
  unfold restS at h
  split at h
  · next h1 => exact ⟨h1.1, h1.2.1⟩
  · omega
theorem byteAt_take (l : List UInt8) {i j : Nat} (h : j < i) : byteAt (l.take i) j = byteAt l j := by
  unfold byteAt; rw [List.getElem?_take, if_pos h]
theorem rest_take (l : List UInt8) {i j : Nat} (h : j < i) : restS (l.take i) j = restS l j := by
  unfold restS
  rw [byteAt_take l h, List.length_take]
  have e : j < min i l.length ↔ j < l.length := by omega
  simp only [e]
theorem rawS_take {l : List UInt8} {i k m : Nat} {r : Int} (h : rawS l k = (r, m)) (h0 : m ≠ 0) (hi : k + m ≤ i) : rawS (l.take i) k = (r, m) := by
  have hb := byteAt_take l (i := i) (j := k) (by omega)
  rcases rawS_inv h h0 with ⟨rfl, h1, _⟩ | ⟨rfl, h1, h2, x⟩ | ⟨rfl, h1, h2, x, y⟩ | ⟨rfl, h1, h2, x, y, z⟩
  · rw [← h, rawS_1 h1, rawS_1 (by rw [hb]; exact h1), hb]
  · rw [← h, rawS_2 h1 h2 rfl x, rawS_2 (x := restS l (k + 1)) (by rw [hb]; exact h1) (by rw [hb]; exact h2) (rest_take l (by omega)) x, hb]
  · rw [← h, rawS_3 h1 h2 rfl x rfl y, rawS_3 (x := restS l (k + 1)) (y := restS l (k + 2)) (by rw [hb]; exact h1) (by rw [hb]; exact h2) (rest_take l (by omega)) x (rest_take l (by omega)) y, hb]
  · rw [← h, rawS_4 h1 h2 rfl x rfl y rfl z, rawS_4 (x := restS l (k + 1)) (y := restS l (k + 2)) (z := restS l (k + 3)) (by rw [hb]; exact h1) (by rw [hb]; exact h2) (rest_take l (by omega)) x (rest_take l (by omega)) y (rest_take l (by omega)) z, hb]
theorem chr_raw {l : List UInt8} {k m : Nat} {r : Int} (h : chrAt l k = (r, m)) (h0 : m ≠ 0) : rawS l k = (r, m) ∧ ¬ ((rawS l k).2 = 0 ∨ isR (rawS l k).1 = false ∨ encLen (rawS l k).1.toNat ≠ (rawS l k).2) := by
  unfold chrAt at h
  simp only [] at h
  split at h
  · injection h with h1 h2
    exact absurd h2.symm h0
  · next h1 => exact ⟨h, h1⟩
theorem chr_take {l : List UInt8} {i k m : Nat} {r : Int} (h : chrAt l k = (r, m)) (h0 : m ≠ 0) (hi : k + m ≤ i) : chrAt (l.take i) k = (r, m) := by
  obtain ⟨h1, h2⟩ := chr_raw h h0
  have h3 := rawS_take h1 h0 hi
  unfold chrAt
  simp only []
  rw [h3]
  rw [h1] at h2
  rw [if_neg h2]
theorem chr_colon {l : List UInt8} {k : Nat} (h : byteAt l k = 58) : chrAt l k = (58, 1) := by
  unfold chrAt
  simp only []
  rw [rawS_1 (by omega), h]
  rfl
theorem chr_58 {l : List UInt8} {k m : Nat} (h : chrAt l k = (58, m)) (h0 : m ≠ 0) : byteAt l k = 58 := by
  obtain ⟨h1, h2⟩ := chr_raw h h0
  rw [h1] at h2
  have h3 : m = 1 := by
    rcases Nat.decEq (encLen 58) m with h4 | h4
    · exact absurd (.inr (.inr h4)) h2
    · rw [← h4]; rfl
  rcases rawS_inv h1 h0 with ⟨_, h4, h5⟩ | ⟨h4, _⟩ | ⟨h4, _⟩ | ⟨h4, _⟩
  · omega
  · omega
  · omega
  · omega
theorem chr_tail {l : List UInt8} {k m t : Nat} {r : Int} (h : chrAt l k = (r, m)) (h0 : m ≠ 0) (h1 : 0 < t) (h2 : t < m) : 128 ≤ byteAt l (k + t) := by
  rcases rawS_inv (chr_raw h h0).1 h0 with ⟨rfl, _, _⟩ | ⟨rfl, _, _, x⟩ | ⟨rfl, _, _, x, y⟩ | ⟨rfl, _, _, x, y, z⟩
  · omega
  · obtain rfl : t = 1 := by omega
    exact (rest_inv x).2
  · have : t = 1 ∨ t = 2 := by omega
    rcases this with rfl | rfl
    · exact (rest_inv x).2
    · exact (rest_inv y).2
  · have : t = 1 ∨ t = 2 ∨ t = 3 := by omega
    rcases this with rfl | rfl | rfl
    · exact (rest_inv x).2
    · exact (rest_inv y).2
    · exact (rest_inv z).2

theorem plain_yes {p : Int → Bool} {r : Int} (h : p r = true) (hr : r ≠ 58) : plainP p r = true := by
  show (decide (r ≠ 58) && p r) = true
  rw [h, decide_eq_true hr]; rfl
theorem plain_58 (p : Int → Bool) : plainP p 58 = false := by
  show (decide ((58 : Int) ≠ 58) && p 58) = false
  rw [decide_eq_false (fun h => h rfl)]; rfl
/-- Ahead of a colon what was a row is a plain one. -/
theorem end_take {l : List UInt8} {q : Int → Bool} {i : Nat} (hi : i < l.length) (h58 : byteAt l i = 58) (f : Nat) : ∀ (p : Int → Bool) (k : Nat), k ≤ i → (∀ j, k ≤ j → j < i → byteAt l j ≠ 58) →
    endN l q f p k = l.length → endN (l.take i) (plainP q) f (plainP p) k = i := by
  have hlen : (l.take i).length = i := by simp; omega
  induction f with
  | zero => intro p k hk _ h; rw [endN] at h; omega
  | succ f ih =>
    intro p k hk hno h
    rcases Nat.lt_or_ge k i with hlt | hge
    · rw [endN] at h
      split at h
      · next hc =>
        obtain ⟨r, m, hrm⟩ : ∃ r m, chrAt l k = (r, m) := ⟨(chrAt l k).1, (chrAt l k).2, Prod.ext_iff.2 ⟨Eq.refl _, Eq.refl _⟩⟩
        rw [hrm] at hc h
        obtain ⟨_, h0, hp⟩ := hc
        have hmi : k + m ≤ i := by
          rcases Nat.lt_or_ge i (k + m) with h1 | h1
          · have := chr_tail (t := i - k) hrm h0 (by omega) (by omega)
            rw [show k + (i - k) = i by omega] at this
            omega
          · exact h1
        have hr : r ≠ 58 := by
          rintro rfl
          exact hno k (Nat.le_refl _) hlt (chr_58 hrm h0)
        rw [endN_on f k (by omega) (chr_take hrm h0 hmi) h0 (plain_yes hp hr)]
        exact ih q (k + m) hmi (fun j h1 h2 => hno j (by omega) h2) h
      · omega
    · rw [endN_out _ _ (.inl (by omega))]; omega
/-- A plain row has no colon. -/
theorem end_plain {l : List UInt8} {q : Int → Bool} (f : Nat) : ∀ (p : Int → Bool) (k : Nat), endN l (plainP q) f (plainP p) k = l.length → ∀ j, k ≤ j → j < l.length → byteAt l j ≠ 58 := by
  induction f with
  | zero => intro p k h j h1 h2; rw [endN] at h; omega
  | succ f ih =>
    intro p k h j h1 h2 h58
    rw [endN] at h
    split at h
    · next hc =>
      obtain ⟨r, m, hrm⟩ : ∃ r m, chrAt l k = (r, m) := ⟨(chrAt l k).1, (chrAt l k).2, Prod.ext_iff.2 ⟨Eq.refl _, Eq.refl _⟩⟩
      rw [hrm] at hc h
      obtain ⟨_, h0, hp⟩ := hc
      simp only [] at hp h0 h
      rcases Nat.lt_or_ge j (k + m) with h3 | h3
      · rcases Nat.lt_or_ge k j with h4 | h4
        · have := chr_tail (t := j - k) hrm h0 (by omega) (by omega)
          rw [show k + (j - k) = j by omega] at this
          omega
        · obtain rfl : j = k := by omega
          have := chr_colon h58
          rw [hrm] at this
          injection this with h5 h6
          rw [h5, plain_58] at hp
          cases hp
      · exact ih q (k + m) h j h3 h2 h58
    · omega

/-- More rounds than there are bytes say nothing else. -/
theorem endN_more {l : List UInt8} {q : Int → Bool} (f g : Nat) : ∀ (p : Int → Bool) (k : Nat), l.length ≤ k + f → l.length ≤ k + g → endN l q f p k = endN l q g p k := by
  induction f generalizing g with
  | zero => intro p k h1 _; rw [endN_out 0 k (.inl (by omega)), endN_out g k (.inl (by omega))]
  | succ f ih =>
    intro p k h1 h2
    cases g with
    | zero => rw [endN_out 0 k (.inl (by omega)), endN_out _ k (.inl (by omega))]
    | succ g =>
      rw [endN, endN]
      split
      · next hc => exact ih g q _ (by omega) (by omega)
      · rfl
theorem endN_long {l : List UInt8} {q : Int → Bool} {n : Nat} (hl : l.length = n) (f : Nat) : ∀ (g : Nat) (p : Int → Bool) (k : Nat), endN l q f p k = n → f < g → endN l q g p k = n := by
  induction f with
  | zero => intro g p k h hg; rw [endN] at h; rw [endN_out g k (.inl (by omega))]; exact h
  | succ f ih =>
    intro g p k h hg
    obtain ⟨g, rfl⟩ : ∃ g', g = g' + 1 := ⟨g - 1, by omega⟩
    rw [endN] at h ⊢
    split at h
    · next hc => rw [if_pos hc]; exact ih g q _ h (by omega)
    · next hc => rw [if_neg hc]; exact h
theorem endN_fuel {l : List UInt8} {p q : Int → Bool} {i f : Nat} (hl : l.length = i) (h : endN l q f p 0 = i) : endN l q i p 0 = i := by
  rcases Nat.lt_or_ge f i with h1 | h1
  · exact endN_long hl f i p 0 h h1
  · rw [endN_more i f p 0 (by omega) (by omega)]; exact h
theorem byteAt_58 {l : List UInt8} {j : Nat} : l[j]? = some 58 ↔ byteAt l j = 58 := by
  unfold byteAt
  constructor
  · intro h; rw [h]; rfl
  · intro h
    cases hj : l[j]? with
    | none => rw [hj] at h; exact absurd h (by decide)
    | some b =>
      rw [hj] at h
      simp only [Option.getD_some] at h
      congr 1
      exact UInt8.toNat_inj.1 h
theorem whole_iff {l : List UInt8} {p q : Int → Bool} : wholeB l p q = true ↔ l ≠ [] ∧ endN l q l.length p 0 = l.length := by
  unfold wholeB
  cases l <;> simp
/-- The part ahead of the first colon of a name is a plain name, if there is one. -/
theorem whole_take {l : List UInt8} {p q : Int → Bool} {i : Nat} (h : wholeB l p q = true) (hi : l[i]? = some 58) (hno : ∀ k < i, l[k]? ≠ some 58) (h0 : i ≠ 0) : wholeB (l.take i) (plainP p) (plainP q) = true := by
  obtain ⟨h1, h2⟩ := whole_iff.1 h
  have hil : i < l.length := (List.getElem?_eq_some_iff.1 hi).1
  have hlen : (l.take i).length = i := by simp; omega
  refine whole_iff.2 ⟨fun e => ?_, ?_⟩
  · rw [e] at hlen; simp at hlen; omega
  · have h3 := end_take hil (byteAt_58.1 hi) l.length p 0 (Nat.zero_le _) (fun j _ hj e => hno j hj (byteAt_58.2 e)) h2
    rw [hlen]
    exact endN_fuel hlen h3
/-- What has a colon is no plain name. -/
theorem whole_not {l : List UInt8} {p q : Int → Bool} {j : Nat} (hj : l[j]? = some 58) : wholeB l (plainP p) (plainP q) = false := by
  cases hw : wholeB l (plainP p) (plainP q) with
  | false => rfl
  | true => exact absurd (byteAt_58.1 hj) (end_plain l.length p 0 (whole_iff.1 hw).2 j (Nat.zero_le _) (List.getElem?_eq_some_iff.1 hj).1)
end Go.Proofs.YtdmfladcldkmeaaDoor
namespace Go.Proofs.YtdmfladcldkmeaaDoor
open Go.ChangeShapes Go.WideShapes Go.ChangeAt Go.RowKit
set_option linter.unusedVariables false
set_option maxRecDepth 100000

theorem xbt_mid (A T B : List UInt8) {j : Nat} (h : j < T.length) : byteAt (A ++ T ++ B) (A.length + j) = byteAt T j := by
  unfold byteAt
  rw [List.append_assoc, List.getElem?_append_right (by omega), Nat.add_sub_cancel_left, List.getElem?_append_left h]
theorem xbt_end (A T B : List UInt8) (j : Nat) : byteAt (A ++ T ++ B) (A.length + T.length + j) = byteAt B j := by
  unfold byteAt
  rw [List.getElem?_append_right (by simp), List.length_append, Nat.add_sub_cancel_left]
theorem xrs_mid (A T B : List UInt8) {j : Nat} (h : 0 ≤ restS T j) : restS (A ++ T ++ B) (A.length + j) = restS T j := by
  have hj := (rest_inv h).1
  have h2 : A.length + j < (A ++ T ++ B).length := by simp; omega
  unfold restS
  rw [xbt_mid A T B hj]
  simp only [hj, h2, true_and]
theorem xrw_mid (A T B : List UInt8) {k m : Nat} {r : Int} (h : rawS T k = (r, m)) (h0 : m ≠ 0) (hk : k < T.length) : rawS (A ++ T ++ B) (A.length + k) = (r, m) := by
  have hb := xbt_mid A T B hk
  have e (j : Nat) : A.length + k + j = A.length + (k + j) := by omega
  rcases rawS_inv h h0 with ⟨rfl, h1, _⟩ | ⟨rfl, h1, h2, x⟩ | ⟨rfl, h1, h2, x, y⟩ | ⟨rfl, h1, h2, x, y, z⟩
  · rw [← h, rawS_1 h1, rawS_1 (by rw [hb]; exact h1), hb]
  · rw [← h, rawS_2 h1 h2 rfl x, rawS_2 (x := restS T (k + 1)) (by rw [hb]; exact h1) (by rw [hb]; exact h2) (by rw [e]; exact xrs_mid A T B x) x, hb]
  · rw [← h, rawS_3 h1 h2 rfl x rfl y, rawS_3 (x := restS T (k + 1)) (y := restS T (k + 2)) (by rw [hb]; exact h1) (by rw [hb]; exact h2) (by rw [e]; exact xrs_mid A T B x) x (by rw [e]; exact xrs_mid A T B y) y, hb]
  · rw [← h, rawS_4 h1 h2 rfl x rfl y rfl z, rawS_4 (x := restS T (k + 1)) (y := restS T (k + 2)) (z := restS T (k + 3)) (by rw [hb]; exact h1) (by rw [hb]; exact h2) (by rw [e]; exact xrs_mid A T B x) x (by rw [e]; exact xrs_mid A T B y) y (by rw [e]; exact xrs_mid A T B z) z, hb]
theorem xch_mid (A T B : List UInt8) {k m : Nat} {r : Int} (h : chrAt T k = (r, m)) (h0 : m ≠ 0) (hk : k < T.length) : chrAt (A ++ T ++ B) (A.length + k) = (r, m) := by
  obtain ⟨h1, h2⟩ := chr_raw h h0
  have h3 := xrw_mid A T B h1 h0 hk
  unfold chrAt
  simp only []
  rw [h3]
  rw [h1] at h2
  rw [if_neg h2]
/-- Where a row ends within, it ends: what is behind it is no more of it. -/
theorem xen_mid (A T B : List UInt8) {q : Int → Bool} (hq : q (chrAt (A ++ T ++ B) (A.length + T.length)).1 = false) (f : Nat) : ∀ (g : Nat) (p : Int → Bool) (k : Nat), p (chrAt (A ++ T ++ B) (A.length + T.length)).1 = false →
    k ≤ T.length → endN T q f p k = T.length → (A ++ T ++ B).length ≤ A.length + k + g → endN (A ++ T ++ B) q g p (A.length + k) = A.length + T.length := by
  induction f with
  | zero =>
    intro g p k hp hk he _
    rw [endN] at he
    subst he
    exact endN_out _ _ (.inr (.inr hp))
  | succ f ih =>
    intro g p k hp hk he hg
    rcases Nat.lt_or_ge k T.length with hlt | hge
    · rw [endN] at he
      split at he
      · next h =>
        obtain ⟨_, h0, h1⟩ := h
        obtain ⟨r, m, hrm⟩ : ∃ r m, chrAt T k = (r, m) := ⟨_, _, rfl⟩
        rw [hrm] at he h0 h1
        have hkm : k + m ≤ T.length := by
          rcases Nat.lt_or_ge T.length (k + m) with h2 | h2
          · rw [endN_out _ _ (.inl (by simp only; omega))] at he; simp only at he; omega
          · exact h2
        have hL : (A ++ T ++ B).length = A.length + T.length + B.length := by simp; omega
        obtain ⟨g, rfl⟩ : ∃ g', g = g' + 1 := ⟨g - 1, by omega⟩
        rw [endN_on g (A.length + k) (by omega) (xch_mid A T B hrm h0 hlt) h0 h1, show A.length + k + m = A.length + (k + m) by omega]
        simp only at h0
        exact ih g q (k + m) hq hkm he (by omega)
      · omega
    · obtain rfl : k = T.length := by omega
      exact endN_out _ _ (.inr (.inr hp))
theorem xch_asc {l : List UInt8} {k b : Nat} (h : byteAt l k = b) (hb : b < 128) : chrAt l k = ((b : Int), 1) := by
  unfold chrAt
  simp only []
  rw [rawS_1 (by omega), h]
  have e1 : isR (b : Int) = true := by unfold isR; simp; omega
  have e2 : encLen ((b : Int)).toNat = 1 := by unfold encLen; rw [Int.toNat_natCast, if_pos hb]
  simp only [e1, e2]
  simp
/-- What stands behind a place, told of the rest. -/
theorem xbt_drop (l : List UInt8) (a j : Nat) : byteAt (l.drop a) j = byteAt l (a + j) := by unfold byteAt; rw [List.getElem?_drop]
theorem xrs_drop (l : List UInt8) (a j : Nat) : restS (l.drop a) j = restS l (a + j) := by
  unfold restS
  rw [xbt_drop, List.length_drop]
  have e : j < l.length - a ↔ a + j < l.length := by omega
  simp only [e]
theorem xch_drop (l : List UInt8) (a j : Nat) : chrAt (l.drop a) j = chrAt l (a + j) := by
  unfold chrAt rawS
  simp only [xbt_drop, xrs_drop, Nat.add_assoc]
/-- A row that was found is a whole one by itself. -/
theorem xen_cut {l : List UInt8} {q : Int → Bool} {z : Nat} (f : Nat) : ∀ (g : Nat) (p : Int → Bool) (a k : Nat), endN l q f p (a + k) = z → a + k ≤ z → z ≤ l.length → z - a ≤ k + g → endN ((l.drop a).take (z - a)) q g p k = z - a := by
  induction f with
  | zero =>
    intro g p a k he h1 h2 h3
    rw [endN] at he
    exact (endN_out _ _ (.inl (by simp only [List.length_take, List.length_drop]; omega))).trans (by omega)
  | succ f ih =>
    intro g p a k he h1 h2 h3
    have hT : ((l.drop a).take (z - a)).length = z - a := by simp only [List.length_take, List.length_drop]; omega
    rcases Nat.lt_or_ge (a + k) z with hlt | hge
    · rw [endN] at he
      split at he
      · next h =>
        obtain ⟨h4, h0, h5⟩ := h
        obtain ⟨r, m, hrm⟩ : ∃ r m, chrAt l (a + k) = (r, m) := ⟨_, _, rfl⟩
        rw [hrm] at he h0 h5
        simp only at he h0 h5
        have hle := (endN_le l q f q (a + k + m) (by have := (chrAt_room l (a + k) h4).1; rw [hrm] at this; exact this)).1
        obtain ⟨g, rfl⟩ : ∃ g', g = g' + 1 := ⟨g - 1, by omega⟩
        rw [endN_on g k (by omega) (chr_take (l := l.drop a) (by rw [xch_drop]; exact hrm) h0 (by omega)) h0 h5]
        exact ih g q a (k + m) (by rw [← Nat.add_assoc]; exact he) (by omega) h2 (by omega)
      · omega
    · have : a + k = z := by omega
      exact (endN_out _ _ (.inl (by omega))).trans (by omega)
theorem whole_cut {l : List UInt8} {p q : Int → Bool} {f a z : Nat} (h : endN l q f p a = z) (h1 : a < z) (h2 : z ≤ l.length) : wholeB ((l.drop a).take (z - a)) p q = true := by
  have hT : ((l.drop a).take (z - a)).length = z - a := by simp only [List.length_take, List.length_drop]; omega
  refine whole_iff.2 ⟨fun e => ?_, ?_⟩
  · rw [e] at hT; simp at hT; omega
  · rw [hT]
    exact xen_cut f (z - a) p a 0 h (by omega) h2 (by omega)
/-- A whole row begins with what may begin one. -/
theorem whole_first {l : List UInt8} {p q : Int → Bool} (h : wholeB l p q = true) : 0 < l.length ∧ (chrAt l 0).2 ≠ 0 ∧ p (chrAt l 0).1 = true := by
  obtain ⟨h1, h2⟩ := whole_iff.1 h
  have h0 := List.length_pos_iff.2 h1
  refine ⟨h0, ?_⟩
  obtain ⟨f, hf⟩ : ∃ f, l.length = f + 1 := ⟨l.length - 1, by omega⟩
  rw [hf, endN] at h2
  split at h2
  · next h => exact ⟨h.2.1, h.2.2⟩
  · omega
theorem whole_byte {l : List UInt8} {p q : Int → Bool} (h : wholeB l p q = true) {b : Nat} (hb : byteAt l 0 = b) (h8 : b < 128) : p (b : Int) = true := by
  have := (whole_first h).2.2
  rw [xch_asc hb h8] at this
  exact this
end Go.Proofs.YtdmfladcldkmeaaDoor
namespace Go.Proofs.YtdmfladcldkmeaaDoor
open Go.ChangeShapes Go.WideShapes Go.ChangeAt Go.RowKit
set_option linter.unusedVariables false
set_option maxRecDepth 100000

def partV (l : List UInt8) : Value :=
  if wholeB l startN charN = false then .tuple #[.string ⟨#[]⟩, .string ⟨#[]⟩, .int .i64 7]
  else if colI l < 0 then .tuple #[.string ⟨#[]⟩, strV l, .int .i64 0]
  else if (colI l).toNat = 0 ∨ wholeB (l.drop ((colI l).toNat + 1)) (plainP startN) (plainP charN) = false then .tuple #[.string ⟨#[]⟩, .string ⟨#[]⟩, .int .i64 9]
  else .tuple #[strV (l.take (colI l).toNat), strV (l.drop ((colI l).toNat + 1)), .int .i64 0]
theorem partV_7 {l : List UInt8} (h : wholeB l startN charN = false) : partV l = .tuple #[.string ⟨#[]⟩, .string ⟨#[]⟩, .int .i64 7] := by rw [partV, if_pos h]
theorem partV_one {l : List UInt8} (h : wholeB l startN charN = true) (hc : colI l < 0) : partV l = .tuple #[.string ⟨#[]⟩, strV l, .int .i64 0] := by
  rw [partV, if_neg (by rw [h]; exact Bool.noConfusion), if_pos hc]
theorem partV_9 {l : List UInt8} {i : Nat} (h : wholeB l startN charN = true) (hc : colI l = i) (h2 : i = 0 ∨ wholeB (l.drop (i + 1)) (plainP startN) (plainP charN) = false) : partV l = .tuple #[.string ⟨#[]⟩, .string ⟨#[]⟩, .int .i64 9] := by
  rw [partV, if_neg (by rw [h]; exact Bool.noConfusion), if_neg (by omega), hc, Int.toNat_natCast, if_pos h2]
theorem partV_two {l : List UInt8} {i : Nat} (h : wholeB l startN charN = true) (hc : colI l = i) (h1 : i ≠ 0) (h2 : wholeB (l.drop (i + 1)) (plainP startN) (plainP charN) = true) : partV l = .tuple #[strV (l.take i), strV (l.drop (i + 1)), .int .i64 0] := by
  rw [partV, if_neg (by rw [h]; exact Bool.noConfusion), if_neg (by omega), hc, Int.toNat_natCast, if_neg]
  rintro (h3 | h3)
  · exact h1 h3
  · rw [h2] at h3; cases h3

set_option maxHeartbeats 1000000 in
theorem part_any (l : List UInt8) (w : World) (hl : l.length ≤ 1000000) (ht : TabN w) :
    Calls Tryd.prog 99 #[strV l] w fun e w' => e = .returned (partV l) ∧ Below w.heap.size w w' := by
  have H1 := Lib.hid (isName_any l w hl ht)
  cases hw : wholeB l startN charN with
  | false =>
    rw [partV_7 hw]
    rw [hw] at H1
    clear hw
    go_enter Tryd.func99, Tryd.ntmps99
    go_wp2_with fail
    refine H1.out.mono ?_
    rintro e w1 ⟨rfl, hb⟩
    go_wp2_with fail
    go_ret3
    exact ⟨rfl, hb⟩
  | true =>
    rw [hw] at H1
    have HC := Lib.hid (fun (w : World) => cut_any l w hl)
    rcases colI_cases l with ⟨hc, hno⟩ | ⟨i, hc, hi, hno⟩
    · rw [partV_one hw (by omega)]
      unfold cutV at HC
      rw [if_pos (by omega)] at HC
      clear hw hno hc
      go_enter Tryd.func99, Tryd.ntmps99
      go_wp2_with fail
      refine H1.out.mono ?_
      rintro e w1 ⟨rfl, hb1⟩
      go_wp2_with fail
      refine (HC.out w1).mono ?_
      rintro e w2 ⟨rfl, hb2⟩
      go_wp2_with fail
      go_ret3
      exact ⟨rfl, hb1.trans (hb2.mono hb1.size)⟩
    · unfold cutV at HC
      rw [if_neg (by omega), hc, Int.toNat_natCast] at HC
      have hdl : (l.drop (i + 1)).length ≤ 1000000 := by rw [List.length_drop]; omega
      have HP := Lib.hid (fun (w' : World) (hb : Below w.heap.size w w') => isPlain_any (l.drop (i + 1)) w' hdl (ht.below hb))
      by_cases h0 : i = 0
      · subst h0
        rw [partV_9 hw hc (.inl rfl)]
        rw [List.take_zero] at HC
        clear hw hc hi hno
        go_enter Tryd.func99, Tryd.ntmps99
        go_wp2_with fail
        refine H1.out.mono ?_
        rintro e w1 ⟨rfl, hb1⟩
        go_wp2_with fail
        refine (HC.out w1).mono ?_
        rintro e w2 ⟨rfl, hb2⟩
        go_wp2_with fail
        go_ret3
        exact ⟨rfl, hb1.trans (hb2.mono hb1.size)⟩
      · have hil : i < l.length := (List.getElem?_eq_some_iff.1 hi).1
        have hpe : (l.take i).isEmpty = false := by
          rw [List.isEmpty_eq_false_iff]
          intro e
          have h5 : (l.take i).length = i := by simp; omega
          rw [e] at h5
          exact h0 h5.symm
        cases hp : wholeB (l.drop (i + 1)) (plainP startN) (plainP charN) with
        | false =>
          rw [partV_9 hw hc (.inr hp)]
          rw [hp] at HP
          clear hw hc hi hno hp
          obtain ⟨P, hP⟩ : ∃ P, l.take i = P := ⟨_, rfl⟩
          obtain ⟨L, hL⟩ : ∃ L, l.drop (i + 1) = L := ⟨_, rfl⟩
          rw [hP] at HC hpe
          rw [hL] at HC HP
          clear hP hL hdl
          go_enter Tryd.func99, Tryd.ntmps99
          go_wp2_with fail
          refine H1.out.mono ?_
          rintro e w1 ⟨rfl, hb1⟩
          go_wp2_with fail
          refine (HC.out w1).mono ?_
          rintro e w2 ⟨rfl, hb2⟩
          have hb12 := hb1.trans (hb2.mono hb1.size)
          go_wp2_with fail
          refine (HP.out w2 hb12).mono ?_
          rintro e w3 ⟨rfl, hb3⟩
          go_wp2_with fail
          go_ret3
          exact ⟨rfl, hb12.trans (hb3.mono hb12.size)⟩
        | true =>
          rw [partV_two hw hc h0 hp]
          rw [hp] at HP
          clear hw hc hi hno hp
          obtain ⟨P, hP⟩ : ∃ P, l.take i = P := ⟨_, rfl⟩
          obtain ⟨L, hL⟩ : ∃ L, l.drop (i + 1) = L := ⟨_, rfl⟩
          rw [hP] at HC hpe ⊢
          rw [hL] at HC HP ⊢
          clear hP hL hdl
          go_enter Tryd.func99, Tryd.ntmps99
          go_wp2_with fail
          refine H1.out.mono ?_
          rintro e w1 ⟨rfl, hb1⟩
          go_wp2_with fail
          refine (HC.out w1).mono ?_
          rintro e w2 ⟨rfl, hb2⟩
          have hb12 := hb1.trans (hb2.mono hb1.size)
          go_wp2_with fail
          refine (HP.out w2 hb12).mono ?_
          rintro e w3 ⟨rfl, hb3⟩
          go_wp2_with fail
          go_ret3
          exact ⟨rfl, hb12.trans (hb3.mono hb12.size)⟩

/-- How many colons lie ahead of a place, and where the last of them lies. -/
def cntC (l : List UInt8) : Nat → Nat
  | 0 => 0
  | k + 1 => if l[k]? = some 58 then cntC l k + 1 else cntC l k
def lastC (l : List UInt8) : Nat → Nat
  | 0 => 0
  | k + 1 => if l[k]? = some 58 then k else lastC l k
theorem cntC_le (l : List UInt8) (k : Nat) : cntC l k ≤ k := by
  induction k with
  | zero => exact Nat.le_refl _
  | succ k ih => rw [cntC]; split <;> omega
theorem cntC_none {l : List UInt8} (h : ∀ k : Nat, l[k]? ≠ some 58) (k : Nat) : cntC l k = 0 := by
  induction k with
  | zero => rfl
  | succ k ih => rw [cntC, if_neg (h k)]; exact ih
/-- One colon and no more: it is the first. -/
theorem cntC_first {l : List UInt8} {i : Nat} (hi : l[i]? = some 58) (hno : ∀ k < i, l[k]? ≠ some 58) (k : Nat) (hk : i < k) :
    (cntC l k = 1 ∧ lastC l k = i) ∨ (2 ≤ cntC l k ∧ ∃ j, i < j ∧ j < k ∧ l[j]? = some 58) := by
  have h0 : ∀ k ≤ i, cntC l k = 0 := by
    intro k
    induction k with
    | zero => intro _; rfl
    | succ k ih => intro h; rw [cntC, if_neg (hno k (by omega))]; exact ih (by omega)
  induction k with
  | zero => omega
  | succ k ih =>
    by_cases hik : i = k
    · subst hik
      left
      rw [cntC, lastC, if_pos hi, if_pos hi, h0 i (Nat.le_refl _)]
      exact ⟨rfl, rfl⟩
    · rcases ih (by omega) with ⟨h1, h2⟩ | ⟨h1, j, h2, h3, h4⟩
      · by_cases hc : l[k]? = some 58
        · right
          rw [cntC, if_pos hc, h1]
          exact ⟨Nat.le_refl _, k, by omega, by omega, hc⟩
        · left
          rw [cntC, lastC, if_neg hc, if_neg hc]
          exact ⟨h1, h2⟩
      · right
        rw [cntC]
        exact ⟨by split <;> omega, j, h2, by omega, h4⟩
end Go.Proofs.YtdmfladcldkmeaaDoor
namespace Go.Proofs.YtdmfladcldkmeaaDoor
open Go.ChangeShapes Go.WideShapes Go.ChangeAt Go.RowKit
set_option linter.unusedVariables false

theorem str_size (l : List UInt8) : (⟨l.toArray⟩ : ByteArray).size = l.length := by simp [ByteArray.size]
theorem str_idx (l : List UInt8) (k : Nat) (hk : k < l.length) (w : World) :
    (Instr.index 9 (.string ⟨l.toArray⟩) (.int .i64 (k : Int))).run Tryd.prog w = .ok (.int .u8 (byteAt l k : Int)) w := by
  rw [run_index_string w 9 _ _ _ Tryd.underlying9, dif_pos ⟨by omega, by rw [str_size]; omega⟩]
  congr 3
  unfold byteAt
  simp only [Int.toNat_natCast]
  show (l.toArray[k]'(by simpa using hk)).toNat = _
  rw [List.getElem?_eq_getElem hk]
  simp
theorem str_app (l m : List UInt8) : (⟨l.toArray⟩ : ByteArray) ++ ⟨m.toArray⟩ = ⟨(l ++ m).toArray⟩ := by
  apply ByteArray.ext
  simp [ByteArray.data_append]
/-- What '[]byte(s)' makes, with the block, the room and the world under names. -/
theorem bytes_made (l : List UInt8) (w : World) (hl : l.length ≤ 1000000) : ∃ (B cap : Nat) (W1 : World), (convert 9 36 (strV l)).run Tryd.prog w = .ok (.slice (some ⟨B, 0, none⟩) l.length cap) W1 ∧
    l.length ≤ cap ∧ cap ≤ 9223372036854775807 ∧ Below w.heap.size w W1 ∧ B < W1.heap.size ∧ w.heap.size ≤ B ∧ Sees W1 (some ⟨B, 0, none⟩) (vB l) := by
  have h := run_bytes_of_string (P := Tryd.prog) w 9 36 5 ⟨l.toArray⟩ Tryd.underlying9 Tryd.underlying36 Tryd.underlying5
  rw [str_size] at h
  have h1 := grownCap_ge w l.length 0 5
  have h2 := grownCap_le_maxLen w l.length 0 5 (by unfold maxLen; omega)
  refine ⟨w.heap.size, _, _, h, h1, by unfold maxLen at h2; exact h2, below_bytes (Below.refl _ w) (Nat.le_refl _) _, ?_, Nat.le_refl _, made_sees w l _ _ _ _ rfl⟩
  show w.heap.size < (w.heap.push _).size
  rw [Array.size_push]
  omega
/-- The rest of a row that begins at its block's first cell. -/
theorem sees_off {W : World} {B : Nat} {l : List UInt8} (h : Sees W (some ⟨B, 0, none⟩) (vB l)) (k : Nat) : Sees W (some ⟨B, k, none⟩) (vB (l.drop k)) := by
  intro hne
  obtain ⟨ad, e, hc⟩ := h (by intro h0; rw [vB_drop, h0] at hne; simp at hne)
  injection e with e
  subst e
  refine ⟨_, rfl, fun j u hu => ?_⟩
  rw [vB_drop, List.getElem?_drop] at hu
  have h2 := hc _ u hu
  rw [← h2]
  congr 1
  unfold Addr.add
  by_cases hj : j = 0
  · by_cases hk : k = 0
    · subst hj hk; rfl
    · subst hj; rw [if_pos rfl, if_neg (by omega)]; simp
  · rw [if_neg hj, if_neg (by omega)]; simp
theorem cell_off {W : World} {B : Nat} {l : List UInt8} (h : Sees W (some ⟨B, 0, none⟩) (vB l)) {k : Nat} (hk : k < l.length) : W.cell? ⟨B, k, none⟩ = some (.int .u8 (byteAt l k : Int)) := by
  obtain ⟨ad, e, hc⟩ := h.byte (k := k) hk
  injection e with e
  subst e
  rw [← hc]
  congr 1
  unfold Addr.add
  by_cases h0 : k = 0
  · subst h0; rfl
  · rw [if_neg h0]; simp
end Go.Proofs.YtdmfladcldkmeaaDoor
namespace Go.Proofs.YtdmfladcldkmeaaDoor
open Go.ChangeShapes Go.WideShapes Go.ChangeAt Go.RowKit
set_option linter.unusedVariables false
set_option maxRecDepth 100000

/-- The builder at block b holds the bytes l; what it owns lies from block B on. -/
def Bld (B b : Nat) (l : List UInt8) (w : World) : Prop := Lib.IsBuilder 93 5 B b (vB l) w
theorem bSize : (Tryd.prog.info? 93).map (·.size) = some 2 := by kernel_rfl
theorem bLies : liesAt Tryd.prog Tryd.prog.depth 93 (2 / Tryd.prog.cellsOf 93) 0 93 1 = true := by kernel_rfl
theorem bByte : (Tryd.prog.info? 5).map (fun i => (i.zero, i.size, i.bytes)) = some (some (.int .u8 0), 1, 1) := by kernel_rfl
theorem bCells : Tryd.prog.cellsOf 5 = 1 := by kernel_rfl
theorem bNe : (93 : Nat) ≠ 5 := by decide
theorem cells_vB (l : List UInt8) : Lib.byteCells l = vB l := rfl
theorem str_vB (l : List UInt8) : Lib.strCells ⟨l.toArray⟩ = vB l := rfl

set_option maxHeartbeats 1000000 in
theorem check_used (b : Nat) (w : World) (h0 : w.cell? ⟨b, 0, none⟩ = some (.pointer (some ⟨b, 0, none⟩))) :
    Calls Tryd.prog 103 #[.pointer (some ⟨b, 0, none⟩)] w fun e w' => e = .returned (.tuple #[]) ∧ w = w' := by
  obtain ⟨j, hj, _⟩ := Option.map_eq_some_iff.1 bSize
  go_enter Tryd.func103, Tryd.ntmps103
  go_wp2
  rw [Lib.run_neq_ptr_same w _ Tryd.underlying91 hj]
  go_wp2
  go_end0
  exact ⟨rfl, rfl⟩

set_option maxHeartbeats 1000000 in
theorem check_fresh (b : Nat) (w : World) (h0 : w.cell? ⟨b, 0, none⟩ = some (.pointer none)) (hsh : w.shape? b = some (93, 2)) (hfz : w.frozen? ⟨b, 0, none⟩ = false) :
    Calls Tryd.prog 103 #[.pointer (some ⟨b, 0, none⟩)] w fun e w' => e = .returned (.tuple #[]) ∧ w' = w.setCell ⟨b, 0, none⟩ (.pointer (some ⟨b, 0, none⟩)) := by
  obtain ⟨j, hj, hjs⟩ := Option.map_eq_some_iff.1 bSize
  go_enter Tryd.func103, Tryd.ntmps103
  go_wp2
  rw [Lib.run_to_unsafe w ⟨b, 0, none⟩ Tryd.underlying91 Tryd.underlying182 hj (by rw [hjs]; decide) hsh (Nat.zero_lt_succ 1)]
  simp only [Result.andThen]
  rw [Oper.upon_value]
  go_wp2
  rw [run_callFunc_extern Tryd.func141 (by kernel_rfl) (by kernel_rfl) (by kernel_rfl) (e := Extern.AbiNoEscape.same) (by kernel_rfl)]
  rw [Lib.run_noEscape]
  simp only [Result.andThen]
  rw [Oper.upon_value]
  go_wp2
  rw [Lib.run_from_unsafe w ⟨b, 0, none⟩ Tryd.underlying182 Tryd.underlying91 hj hsh bLies]
  simp only [Result.andThen]
  rw [Oper.upon_value]
  go_wp2
  go_end0
  exact ⟨rfl, rfl⟩

theorem check_any (B b : Nat) (l : List UInt8) (w : World) (h : Bld B b l w) :
    Calls Tryd.prog 103 #[.pointer (some ⟨b, 0, none⟩)] w fun e w' => e = .returned (.tuple #[]) ∧ Lib.BuilderAt 93 5 B b (.pointer (some ⟨b, 0, none⟩)) (vB l) w' ∧ Below B w w' := by
  rcases h with h | h
  · refine (check_fresh b w h.cell0 h.shape h.frozen0).mono ?_
    rintro e w' ⟨rfl, rfl⟩
    exact ⟨rfl, h.used _, (Below.refl B w).setCell (p := ⟨b, 0, none⟩) h.1 _⟩
  · refine (check_used b w h.cell0).mono ?_
    rintro e w' ⟨rfl, rfl⟩
    exact ⟨rfl, h, Below.refl B _⟩
theorem heap_lt {w : World} {b : Nat} {o : Obj} (h : w.heap[b]? = some o) : b < w.heap.size := (Array.getElem?_eq_some_iff.1 h).1

set_option maxHeartbeats 2000000 in
theorem bldByte_any (B b : Nat) (l : List UInt8) (c : UInt8) (w : World) (h : Bld B b l w) (hlen : l.length + 1 ≤ 140737488355328) (hBw : B ≤ w.heap.size) :
    Calls Tryd.prog 58 #[.pointer (some ⟨b, 0, none⟩), .int .u8 (c.toNat : Int)] w fun e w' => e = .returned .nilIface ∧ Bld B b (l ++ [c]) w' ∧ Below B w w' := by
  obtain ⟨i0, hi, hz0, hz1, hz2⟩ := info_parts bByte
  go_enter Tryd.func58, Tryd.ntmps58
  go_wp2_with (go_at_call 103; refine (check_any B b l _ h).mono ?_)
  rintro e w1 ⟨rfl, h1, hb1⟩
  obtain ⟨hB, v, hbk, hown, hne⟩ := h1
  rw [vB_len] at hown
  have c0 : w1.cell? ⟨b, 0, none⟩ = some (.pointer (some ⟨b, 0, none⟩)) := by rw [Lib.cell_of_heap hbk]; rfl
  have c1 : w1.cell? ⟨b, 1, none⟩ = some v := by rw [Lib.cell_of_heap hbk]; rfl
  go_wp2_with (at_builtin; refine wpList_append_own _ rfl _ _ 36 rfl B 5 i0 (.int .u8 0) 1 1 Tryd.underlying36 hi hz0 hz1 hz2 rfl (by decide) _ _ _ rfl (hown.alloc _) ⟨w1.heap.size, 0, none⟩ 1 1 [.int .u8 (c.toNat : Int)] rfl rfl ?c1 ?c2 ?c3 ?c4 ?c5 ?_)
  case c1 =>
    intro j u hj
    match j, hj with
    | 0, hj => simp at hj; subst hj; simp [Addr.add]
  case c2 => intro u hu; simp at hu; subst hu; rfl
  case c3 => unfold maxLen; omega
  case c4 => omega
  case c5 => have := hb1.size; simp; omega
  intro v' w2 hown' hgrow _
  have hlt := heap_lt hbk
  have hb2 : w2.heap[b]? = some (.cells #[.pointer (some ⟨b, 0, none⟩), v] 93 (0, 0)) := by
    rw [hgrow.block b (by simp; omega) (fun e => hne e.symm), Lib.alloc_old w1 _ b hlt]
    exact hbk
  have d0 : w2.cell? ⟨b, 0, none⟩ = some (.pointer (some ⟨b, 0, none⟩)) := by rw [Lib.cell_of_heap hb2]; rfl
  have d1 : w2.cell? ⟨b, 1, none⟩ = some v := by rw [Lib.cell_of_heap hb2]; rfl
  have f1 : w2.frozen? ⟨b, 1, none⟩ = false := Lib.frozen_of_heap hb2 1
  obtain ⟨g, cap, rfl⟩ : ∃ g cap, v' = .slice (some ⟨g, 0, none⟩) (l.length + 1) cap := by
    rcases hown'.2 with ⟨_, h0⟩ | ⟨g, cap, cur, hv, _⟩
    · omega
    · exact ⟨g, cap, hv⟩
  go_wp2
  go_ret
  refine ⟨rfl, .inr ?_, ?_⟩
  · rw [vB_append]
    exact Lib.BuilderAt.put (T := 93) (e := 5) hB hb2 (bs' := vB l ++ vB [c]) (by simpa [vB_len, vB] using hown') bNe
  · exact ((hb1.alloc (by have := hb1.size; omega) _).grown hgrow (by have := hb1.size; simp; omega) (fun k hk => (hown.lt k hk).1)).setCell (p := ⟨b, 1, none⟩) hB _

set_option maxHeartbeats 2000000 in
theorem bldStr_any (B b : Nat) (l m : List UInt8) (w : World) (h : Bld B b l w) (hlen : l.length + m.length ≤ 140737488355328) (hBw : B ≤ w.heap.size) :
    Calls Tryd.prog 57 #[.pointer (some ⟨b, 0, none⟩), .string ⟨m.toArray⟩] w fun e w' => e = .returned (.tuple #[.int .i64 (m.length : Nat), .nilIface]) ∧ Bld B b (l ++ m) w' ∧ Below B w w' := by
  obtain ⟨i0, hi, hz0, hz1, hz2⟩ := info_parts bByte
  go_enter Tryd.func57, Tryd.ntmps57
  go_wp2_with (go_at_call 103; refine (check_any B b l _ h).mono ?_)
  rintro e w1 ⟨rfl, h1, hb1⟩
  obtain ⟨hB, v, hbk, hown, hne⟩ := h1
  rw [vB_len] at hown
  have c0 : w1.cell? ⟨b, 0, none⟩ = some (.pointer (some ⟨b, 0, none⟩)) := by rw [Lib.cell_of_heap hbk]; rfl
  have c1 : w1.cell? ⟨b, 1, none⟩ = some v := by rw [Lib.cell_of_heap hbk]; rfl
  have hms : (⟨m.toArray⟩ : ByteArray).size = m.length := by simp [ByteArray.size]
  go_wp2_with (at_builtin; refine Lib.wpList_append_own_string _ rfl _ _ 36 9 rfl B 5 i0 Tryd.underlying36 Tryd.underlying9 hi hz0 hz1 hz2 _ _ _ rfl hown ⟨m.toArray⟩ rfl ?c3 ?c4 ?c5 ?_)
  case c3 => unfold maxLen; omega
  case c4 => omega
  case c5 => have := hb1.size; omega
  intro v' w2 hown' hgrow _
  have hlt := heap_lt hbk
  have hb2 : w2.heap[b]? = some (.cells #[.pointer (some ⟨b, 0, none⟩), v] 93 (0, 0)) := by
    rw [hgrow.block b hlt (fun e => hne e.symm)]
    exact hbk
  have d0 : w2.cell? ⟨b, 0, none⟩ = some (.pointer (some ⟨b, 0, none⟩)) := by rw [Lib.cell_of_heap hb2]; rfl
  have d1 : w2.cell? ⟨b, 1, none⟩ = some v := by rw [Lib.cell_of_heap hb2]; rfl
  have f1 : w2.frozen? ⟨b, 1, none⟩ = false := Lib.frozen_of_heap hb2 1
  obtain ⟨ao, n', cap, rfl⟩ : ∃ ao n' cap, v' = .slice ao n' cap := by
    rcases hown'.2 with ⟨hv, _⟩ | ⟨g, cap, cur, hv, _⟩
    · exact ⟨_, _, _, hv⟩
    · exact ⟨_, _, _, hv⟩
  go_wp2
  go_ret2
  refine ⟨by first | rfl | (rw [hms]), .inr ?_, ?_⟩
  · rw [vB_append]
    exact Lib.BuilderAt.put (T := 93) (e := 5) hB hb2 (bs' := vB l ++ vB m) (by rw [List.length_append, vB_len, vB_len, ← hms]; exact hown') bNe
  · exact (hb1.grown hgrow (by have := hb1.size; omega) (fun k hk => (hown.lt k hk).1)).setCell (p := ⟨b, 1, none⟩) hB _

set_option maxHeartbeats 1000000 in
theorem bldGive (B b : Nat) (l : List UInt8) (w : World) (h : Bld B b l w) (h0 : l ≠ []) :
    Calls Tryd.prog 59 #[.pointer (some ⟨b, 0, none⟩)] w fun e w' => e = .returned (.string ⟨l.toArray⟩) ∧ Below B w w' := by
  obtain ⟨p, hB, v, hbk, hown, hne⟩ : ∃ p, Lib.BuilderAt 93 5 B b p (vB l) w := by
    rcases h with h | h
    · exact ⟨_, h⟩
    · exact ⟨_, h⟩
  have hl0 : l.length ≠ 0 := by simpa using h0
  rw [vB_len] at hown
  obtain ⟨g, cap, cur, rfl, hbg, hg, hnc, hcm, hcs, htake⟩ : ∃ g cap cur, v = .slice (some ⟨g, 0, none⟩) l.length cap ∧ B ≤ g ∧ w.heap[g]? = some (.cells cur 5 (0, 0)) ∧ l.length ≤ cap ∧ cap ≤ maxLen ∧ cur.size = cap * 1 ∧ cur.toList.take (l.length * 1) = vB l := by
    rcases hown.2 with ⟨_, hz⟩ | ⟨g, cap, cur, hv, r⟩
    · exact absurd hz hl0
    · exact ⟨g, cap, cur, hv, r⟩
  have c1 : w.drew.cell? ⟨b, 1, none⟩ = some (.slice (some ⟨g, 0, none⟩) l.length cap) := by
    have : w.drew.heap[b]? = some (.cells #[p, .slice (some ⟨g, 0, none⟩) l.length cap] 93 (0, 0)) := hbk
    rw [Lib.cell_of_heap this]; rfl
  have hSD : (Builtin.unsafeSliceData_ #[36] 151 #[.slice (some ⟨g, 0, none⟩) l.length cap]).run Tryd.prog w.drew = .ok (.pointer (some ⟨g, 0, none⟩)) w.drew :=
    Lib.run_unsafeSliceData_row _ _ _ _ _ _ (by omega)
  have hUS : (Builtin.unsafeString_ #[151, 3] 9 #[.pointer (some ⟨g, 0, none⟩), .int .i64 l.length]).run Tryd.prog w.drew = .ok (.string ⟨l.toArray⟩) (w.drew.freeze ⟨g, 0, none⟩ l.length) := by
    refine Lib.run_unsafeString_row w.drew 151 3 9 5 Tryd.underlying151 bCells g cur.size (by have hg' : w.drew.heap[g]? = some (.cells cur 5 (0, 0)) := hg; simp [World.shape?, hg']) l h0 (by omega) (by unfold maxLen at hcm; omega) ?_
    intro j x hx
    have := hown.cells (g := g) rfl j (.int .u8 x.toNat) (by simp [vB, hx])
    exact this
  go_enter Tryd.func59, Tryd.ntmps59
  go_wp2
  go_region
  all_goals (go_wp2; go_ret; exact ⟨rfl, Lib.below_freeze (Below.drew (Below.refl B w)) (p := ⟨g, 0, none⟩) hbg _⟩)

set_option maxHeartbeats 2000000 in
theorem bldGive_nil (B b : Nat) (p : Value) (w : World) (hbk : w.heap[b]? = some (.cells #[p, .slice none 0 0] 93 (0, 0))) :
    Calls Tryd.prog 59 #[.pointer (some ⟨b, 0, none⟩)] w fun e w' => e = .returned (.string ⟨#[]⟩) ∧ Below B w w' := by
  have hUS : ∀ (W : World) (q : Option Addr), (Builtin.unsafeString_ #[151, 3] 9 #[.pointer q, .int .i64 0]).run Tryd.prog W = .ok (.string .empty) W := fun W q => Lib.run_unsafeString_none W _ _ _ q
  have c1 : w.drew.cell? ⟨b, 1, none⟩ = some (.slice none 0 0) := by
    have : w.drew.heap[b]? = some (.cells #[p, .slice none 0 0] 93 (0, 0)) := hbk
    rw [Lib.cell_of_heap this]; rfl
  have hSD : (Builtin.unsafeSliceData_ #[36] 151 #[.slice none 0 0]).run Tryd.prog w.drew = .ok (.pointer none) w.drew := rfl
  go_enter Tryd.func59, Tryd.ntmps59
  go_wp2
  go_region
  all_goals (go_wp2; go_ret; exact ⟨rfl, Below.drew (Below.refl B w)⟩)

set_option maxHeartbeats 2000000 in
theorem bldGive_noroom (B b g : Nat) (p : Value) (cur : Array Value) (w : World) (hBw : B ≤ w.heap.size) (hbk : w.heap[b]? = some (.cells #[p, .slice (some ⟨g, 0, none⟩) 0 0] 93 (0, 0))) (hg : w.heap[g]? = some (.cells cur 5 (0, 0))) :
    Calls Tryd.prog 59 #[.pointer (some ⟨b, 0, none⟩)] w fun e w' => e = .returned (.string ⟨#[]⟩) ∧ Below B w w' := by
  have hUS : ∀ (W : World) (q : Option Addr), (Builtin.unsafeString_ #[151, 3] 9 #[.pointer q, .int .i64 0]).run Tryd.prog W = .ok (.string .empty) W := fun W q => Lib.run_unsafeString_none W _ _ _ q
  have hlt := heap_lt hbk
  have c1 : w.drew.cell? ⟨b, 1, none⟩ = some (.slice (some ⟨g, 0, none⟩) 0 0) := by
    have : w.drew.heap[b]? = some (.cells #[p, .slice (some ⟨g, 0, none⟩) 0 0] 93 (0, 0)) := hbk
    rw [Lib.cell_of_heap this]; rfl
  have hSD : (Builtin.unsafeSliceData_ #[36] 151 #[.slice (some ⟨g, 0, none⟩) 0 0]).run Tryd.prog w.drew = .ok (.pointer (some ⟨w.drew.heap.size, 0, none⟩)) (w.drew.alloc (.view ⟨g, 0, none⟩ 5)) :=
    Lib.run_unsafeSliceData_zero w.drew _ _ 5 Tryd.underlying151 ⟨g, 0, none⟩ 0 (5, cur.size) (by have hg' : w.drew.heap[g]? = some (.cells cur 5 (0, 0)) := hg; simp [World.shape?, hg'])
  have c2 : (w.drew.alloc (.view ⟨g, 0, none⟩ 5)).cell? ⟨b, 1, none⟩ = some (.slice (some ⟨g, 0, none⟩) 0 0) := by
    have : (w.drew.alloc (.view ⟨g, 0, none⟩ 5)).heap[b]? = _ := (Lib.alloc_old w.drew _ b hlt).trans hbk
    rw [Lib.cell_of_heap this]; rfl
  have c3 : (w.alloc (.view ⟨g, 0, none⟩ 5)).drew.cell? ⟨b, 1, none⟩ = some (.slice (some ⟨g, 0, none⟩) 0 0) := c2
  have c0 : w.cell? ⟨b, 1, none⟩ = some (.slice (some ⟨g, 0, none⟩) 0 0) := c1
  go_enter Tryd.func59, Tryd.ntmps59
  go_wp2
  go_region
  all_goals (go_wp2; go_ret; exact ⟨rfl, (Below.drew (Below.refl B w)).alloc hBw _⟩)

set_option maxHeartbeats 2000000 in
theorem bldGive_room (B b g cap : Nat) (p : Value) (w : World) (hc0 : cap ≠ 0) (hbk : w.heap[b]? = some (.cells #[p, .slice (some ⟨g, 0, none⟩) 0 cap] 93 (0, 0))) :
    Calls Tryd.prog 59 #[.pointer (some ⟨b, 0, none⟩)] w fun e w' => e = .returned (.string ⟨#[]⟩) ∧ Below B w w' := by
  have hUS : ∀ (W : World) (q : Option Addr), (Builtin.unsafeString_ #[151, 3] 9 #[.pointer q, .int .i64 0]).run Tryd.prog W = .ok (.string .empty) W := fun W q => Lib.run_unsafeString_none W _ _ _ q
  have c1 : w.drew.cell? ⟨b, 1, none⟩ = some (.slice (some ⟨g, 0, none⟩) 0 cap) := by
    have : w.drew.heap[b]? = some (.cells #[p, .slice (some ⟨g, 0, none⟩) 0 cap] 93 (0, 0)) := hbk
    rw [Lib.cell_of_heap this]; rfl
  have hSD : (Builtin.unsafeSliceData_ #[36] 151 #[.slice (some ⟨g, 0, none⟩) 0 cap]).run Tryd.prog w.drew = .ok (.pointer (some ⟨g, 0, none⟩)) w.drew :=
    Lib.run_unsafeSliceData_row _ _ _ _ _ _ hc0
  clear hc0
  go_enter Tryd.func59, Tryd.ntmps59
  go_wp2
  go_region
  all_goals (go_wp2; go_ret; exact ⟨rfl, Below.drew (Below.refl B w)⟩)

/-- String of a builder, whatever it holds. -/
theorem bldGive_any (B b : Nat) (l : List UInt8) (w : World) (h : Bld B b l w) (hBw : B ≤ w.heap.size) :
    Calls Tryd.prog 59 #[.pointer (some ⟨b, 0, none⟩)] w fun e w' => e = .returned (.string ⟨l.toArray⟩) ∧ Below B w w' := by
  by_cases hl : l = []
  · subst hl
    obtain ⟨p, hB, v, hbk, hown, hne⟩ : ∃ p, Lib.BuilderAt 93 5 B b p (vB []) w := by
      rcases h with h | h
      · exact ⟨_, h⟩
      · exact ⟨_, h⟩
    rcases hown.2 with ⟨rfl, _⟩ | ⟨g, cap, cur, rfl, hbg, hg, _, _, _, _⟩
    · exact bldGive_nil B b p w hbk
    · by_cases hc0 : cap = 0
      · subst hc0
        exact bldGive_noroom B b g p cur w hBw hbk hg
      · exact bldGive_room B b g cap p w hc0 hbk
  · exact bldGive B b l w h hl
/-- A builder that has just been made. -/
theorem bld_made (w : World) : Bld w.heap.size w.heap.size [] (w.alloc (.cells #[.pointer none, .slice none 0 0] 93)) :=
  Lib.fresh_isBuilder _ _ w
theorem Bld.drewN {B b : Nat} {l : List UInt8} {w : World} (h : Bld B b l w) (n : Nat) : Bld B b l (w.drewN n) := h
end Go.Proofs.YtdmfladcldkmeaaDoor
