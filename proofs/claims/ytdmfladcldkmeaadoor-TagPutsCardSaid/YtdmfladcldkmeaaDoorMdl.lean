/- A row of characters within a text: what is behind it is no more of it. -/
import Derived.Test.YtdmfladcldkmeaaDoorNamh
namespace Go.Proofs.YtdmfladcldkmeaaDoor
open Go.ChangeShapes Go.WideShapes Go.ChangeAt Go.RowKit
set_option linter.unusedVariables false
set_option maxRecDepth 100000

theorem xbt_mid (A T B : List UInt8) {j : Nat} (h : j < T.length) : byteAt (A ++ T ++ B) (A.length + j) = byteAt T j := by
  unfold byteAt
  rw [List.append_assoc, List.getElem?_append_right (by omega), Nat.add_sub_cancel_left, List.getElem?_append_left h]
theorem xbt_end (A T B : List UInt8) (j : Nat) : byteAt (A ++ T ++ B) (A.length + T.length + j) = byteAt B j := by
  unfold byteAt
  rw [List.getElem?_append_right (by simp), List.length_append, Nat.add_sub_cancel_left]
theorem xrs_mid (A T B : List UInt8) {j : Nat} (h : 0 ≤ restS T j) : restS (A ++ T ++ B) (A.length + j) = restS T j := by
  have hj := (rest_inv h).1
  have h2 : A.length + j < (A ++ T ++ B).length := by simp; omega
  unfold restS
  rw [xbt_mid A T B hj]
  simp only [hj, h2, true_and]
theorem xrw_mid (A T B : List UInt8) {k m : Nat} {r : Int} (h : rawS T k = (r, m)) (h0 : m ≠ 0) (hk : k < T.length) : rawS (A ++ T ++ B) (A.length + k) = (r, m) := by
  have hb := xbt_mid A T B hk
  have e (j : Nat) : A.length + k + j = A.length + (k + j) := by omega
  rcases rawS_inv h h0 with ⟨rfl, h1, _⟩ | ⟨rfl, h1, h2, x⟩ | ⟨rfl, h1, h2, x, y⟩ | ⟨rfl, h1, h2, x, y, z⟩
  · rw [← h, rawS_1 h1, rawS_1 (by rw [hb]; exact h1), hb]
  · rw [← h, rawS_2 h1 h2 rfl x, rawS_2 (x := restS T (k + 1)) (by rw [hb]; exact h1) (by rw [hb]; exact h2) (by rw [e]; exact xrs_mid A T B x) x, hb]
  · rw [← h, rawS_3 h1 h2 rfl x rfl y, rawS_3 (x := restS T (k + 1)) (y := restS T (k + 2)) (by rw [hb]; exact h1) (by rw [hb]; exact h2) (by rw [e]; exact xrs_mid A T B x) x (by rw [e]; exact xrs_mid A T B y) y, hb]
  · rw [← h, rawS_4 h1 h2 rfl x rfl y rfl z, rawS_4 (x := restS T (k + 1)) (y := restS T (k + 2)) (z := restS T (k + 3)) (by rw [hb]; exact h1) (by rw [hb]; exact h2) (by rw [e]; exact xrs_mid A T B x) x (by rw [e]; exact xrs_mid A T B y) y (by rw [e]; exact xrs_mid A T B z) z, hb]
theorem xch_mid (A T B : List UInt8) {k m : Nat} {r : Int} (h : chrAt T k = (r, m)) (h0 : m ≠ 0) (hk : k < T.length) : chrAt (A ++ T ++ B) (A.length + k) = (r, m) := by
  obtain ⟨h1, h2⟩ := chr_raw h h0
  have h3 := xrw_mid A T B h1 h0 hk
  unfold chrAt
  simp only []
  rw [h3]
  rw [h1] at h2
  rw [if_neg h2]
/-- Where a row ends within, it ends: what is behind it is no more of it. -/
theorem xen_mid (A T B : List UInt8) {q : Int → Bool} (hq : q (chrAt (A ++ T ++ B) (A.length + T.length)).1 = false) (f : Nat) : ∀ (g : Nat) (p : Int → Bool) (k : Nat), p (chrAt (A ++ T ++ B) (A.length + T.length)).1 = false →
    k ≤ T.length → endN T q f p k = T.length → (A ++ T ++ B).length ≤ A.length + k + g → endN (A ++ T ++ B) q g p (A.length + k) = A.length + T.length := by
  induction f with
  | zero =>
    intro g p k hp hk he _
    rw [endN] at he
    subst he
    exact endN_out _ _ (.inr (.inr hp))
  | succ f ih =>
    intro g p k hp hk he hg
    rcases Nat.lt_or_ge k T.length with hlt | hge
    · rw [endN] at he
      split at he
      · next h =>
        obtain ⟨_, h0, h1⟩ := h
        obtain ⟨r, m, hrm⟩ : ∃ r m, chrAt T k = (r, m) := ⟨_, _, rfl⟩
        rw [hrm] at he h0 h1
        have hkm : k + m ≤ T.length := by
          rcases Nat.lt_or_ge T.length (k + m) with h2 | h2
          · rw [endN_out _ _ (.inl (by simp only; omega))] at he; simp only at he; omega
          · exact h2
        have hL : (A ++ T ++ B).length = A.length + T.length + B.length := by simp; omega
        obtain ⟨g, rfl⟩ : ∃ g', g = g' + 1 := ⟨g - 1, by omega⟩
        rw [endN_on g (A.length + k) (by omega) (xch_mid A T B hrm h0 hlt) h0 h1, show A.length + k + m = A.length + (k + m) by omega]
        simp only at h0
        exact ih g q (k + m) hq hkm he (by omega)
      · omega
    · obtain rfl : k = T.length := by omega
      exact endN_out _ _ (.inr (.inr hp))
theorem xch_asc {l : List UInt8} {k b : Nat} (h : byteAt l k = b) (hb : b < 128) : chrAt l k = ((b : Int), 1) := by
  unfold chrAt
  simp only []
  rw [rawS_1 (by omega), h]
  have e1 : isR (b : Int) = true := by unfold isR; simp; omega
  have e2 : encLen ((b : Int)).toNat = 1 := by unfold encLen; rw [Int.toNat_natCast, if_pos hb]
  simp only [e1, e2]
  simp
/-- What stands behind a place, told of the rest. -/
theorem xbt_drop (l : List UInt8) (a j : Nat) : byteAt (l.drop a) j = byteAt l (a + j) := by unfold byteAt; rw [List.getElem?_drop]
theorem xrs_drop (l : List UInt8) (a j : Nat) : restS (l.drop a) j = restS l (a + j) := by
  unfold restS
  rw [xbt_drop, List.length_drop]
  have e : j < l.length - a ↔ a + j < l.length := by omega
  simp only [e]
theorem xch_drop (l : List UInt8) (a j : Nat) : chrAt (l.drop a) j = chrAt l (a + j) := by
  unfold chrAt rawS
  simp only [xbt_drop, xrs_drop, Nat.add_assoc]
/-- A row that was found is a whole one by itself. -/
theorem xen_cut {l : List UInt8} {q : Int → Bool} {z : Nat} (f : Nat) : ∀ (g : Nat) (p : Int → Bool) (a k : Nat), endN l q f p (a + k) = z → a + k ≤ z → z ≤ l.length → z - a ≤ k + g → endN ((l.drop a).take (z - a)) q g p k = z - a := by
  induction f with
  | zero =>
    intro g p a k he h1 h2 h3
    rw [endN] at he
    exact (endN_out _ _ (.inl (by simp only [List.length_take, List.length_drop]; omega))).trans (by omega)
  | succ f ih =>
    intro g p a k he h1 h2 h3
    have hT : ((l.drop a).take (z - a)).length = z - a := by simp only [List.length_take, List.length_drop]; omega
    rcases Nat.lt_or_ge (a + k) z with hlt | hge
    · rw [endN] at he
      split at he
      · next h =>
        obtain ⟨h4, h0, h5⟩ := h
        obtain ⟨r, m, hrm⟩ : ∃ r m, chrAt l (a + k) = (r, m) := ⟨_, _, rfl⟩
        rw [hrm] at he h0 h5
        simp only at he h0 h5
        have hle := (endN_le l q f q (a + k + m) (by have := (chrAt_room l (a + k) h4).1; rw [hrm] at this; exact this)).1
        obtain ⟨g, rfl⟩ : ∃ g', g = g' + 1 := ⟨g - 1, by omega⟩
        rw [endN_on g k (by omega) (chr_take (l := l.drop a) (by rw [xch_drop]; exact hrm) h0 (by omega)) h0 h5]
        exact ih g q a (k + m) (by rw [← Nat.add_assoc]; exact he) (by omega) h2 (by omega)
      · omega
    · have : a + k = z := by omega
      exact (endN_out _ _ (.inl (by omega))).trans (by omega)
theorem whole_cut {l : List UInt8} {p q : Int → Bool} {f a z : Nat} (h : endN l q f p a = z) (h1 : a < z) (h2 : z ≤ l.length) : wholeB ((l.drop a).take (z - a)) p q = true := by
  have hT : ((l.drop a).take (z - a)).length = z - a := by simp only [List.length_take, List.length_drop]; omega
  refine whole_iff.2 ⟨fun e => ?_, ?_⟩
  · rw [e] at hT; simp at hT; omega
  · rw [hT]
    exact xen_cut f (z - a) p a 0 h (by omega) h2 (by omega)
/-- A whole row begins with what may begin one. -/
theorem whole_first {l : List UInt8} {p q : Int → Bool} (h : wholeB l p q = true) : 0 < l.length ∧ (chrAt l 0).2 ≠ 0 ∧ p (chrAt l 0).1 = true := by
  obtain ⟨h1, h2⟩ := whole_iff.1 h
  have h0 := List.length_pos_iff.2 h1
  refine ⟨h0, ?_⟩
  obtain ⟨f, hf⟩ : ∃ f, l.length = f + 1 := ⟨l.length - 1, by omega⟩
  rw [hf, endN] at h2
  split at h2
  · next h => exact ⟨h.2.1, h.2.2⟩
  · omega
theorem whole_byte {l : List UInt8} {p q : Int → Bool} (h : wholeB l p q = true) {b : Nat} (hb : byteAt l 0 = b) (h8 : b < 128) : p (b : Int) = true := by
  have := (whole_first h).2.2
  rw [xch_asc hb h8] at this
  exact this
end Go.Proofs.YtdmfladcldkmeaaDoor
