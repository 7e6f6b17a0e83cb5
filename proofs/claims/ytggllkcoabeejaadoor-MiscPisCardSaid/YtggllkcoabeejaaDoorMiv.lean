/- What is put as a processing instruction is read as itself: the bytes alone. -/
import Derived.Test.YtggllkcoabeejaaDoorNamh
import Derived.Test.YtggllkcoabeejaaDoorMil
import Derived.Test.YtggllkcoabeejaaDoorMih
namespace Go.Proofs.YtggllkcoabeejaaDoor
open Go.ChangeShapes Go.WideShapes Go.ChangeAt Go.RowKit
set_option linter.unusedVariables false
set_option maxRecDepth 100000

theorem byteAt_mid (A T B : List UInt8) {j : Nat} (h : j < T.length) : byteAt (A ++ T ++ B) (A.length + j) = byteAt T j := by
  unfold byteAt
  rw [List.append_assoc, List.getElem?_append_right (by omega), Nat.add_sub_cancel_left, List.getElem?_append_left h]
theorem byteAt_end (A T B : List UInt8) (j : Nat) : byteAt (A ++ T ++ B) (A.length + T.length + j) = byteAt B j := by
  unfold byteAt
  rw [List.getElem?_append_right (by simp), List.length_append, Nat.add_sub_cancel_left]
theorem rest_mid (A T B : List UInt8) {j : Nat} (h : 0 ≤ restS T j) : restS (A ++ T ++ B) (A.length + j) = restS T j := by
  have hj := (rest_inv h).1
  have h2 : A.length + j < (A ++ T ++ B).length := by simp; omega
  unfold restS
  rw [byteAt_mid A T B hj]
  simp only [hj, h2, true_and]
theorem rawS_mid (A T B : List UInt8) {k m : Nat} {r : Int} (h : rawS T k = (r, m)) (h0 : m ≠ 0) (hk : k < T.length) : rawS (A ++ T ++ B) (A.length + k) = (r, m) := by
  have hb := byteAt_mid A T B hk
  have e (j : Nat) : A.length + k + j = A.length + (k + j) := by omega
  rcases rawS_inv h h0 with ⟨rfl, h1, _⟩ | ⟨rfl, h1, h2, x⟩ | ⟨rfl, h1, h2, x, y⟩ | ⟨rfl, h1, h2, x, y, z⟩
  · rw [← h, rawS_1 h1, rawS_1 (by rw [hb]; exact h1), hb]
  · rw [← h, rawS_2 h1 h2 rfl x, rawS_2 (x := restS T (k + 1)) (by rw [hb]; exact h1) (by rw [hb]; exact h2) (by rw [e]; exact rest_mid A T B x) x, hb]
  · rw [← h, rawS_3 h1 h2 rfl x rfl y, rawS_3 (x := restS T (k + 1)) (y := restS T (k + 2)) (by rw [hb]; exact h1) (by rw [hb]; exact h2) (by rw [e]; exact rest_mid A T B x) x (by rw [e]; exact rest_mid A T B y) y, hb]
  · rw [← h, rawS_4 h1 h2 rfl x rfl y rfl z, rawS_4 (x := restS T (k + 1)) (y := restS T (k + 2)) (z := restS T (k + 3)) (by rw [hb]; exact h1) (by rw [hb]; exact h2) (by rw [e]; exact rest_mid A T B x) x (by rw [e]; exact rest_mid A T B y) y (by rw [e]; exact rest_mid A T B z) z, hb]
theorem chr_mid (A T B : List UInt8) {k m : Nat} {r : Int} (h : chrAt T k = (r, m)) (h0 : m ≠ 0) (hk : k < T.length) : chrAt (A ++ T ++ B) (A.length + k) = (r, m) := by
  obtain ⟨h1, h2⟩ := chr_raw h h0
  have h3 := rawS_mid A T B h1 h0 hk
  unfold chrAt
  simp only []
  rw [h3]
  rw [h1] at h2
  rw [if_neg h2]
/-- Where a row ends within, it ends: what is behind it is no more of it. -/
theorem end_mid (A T B : List UInt8) {q : Int → Bool} (hq : q (chrAt (A ++ T ++ B) (A.length + T.length)).1 = false) (f : Nat) : ∀ (g : Nat) (p : Int → Bool) (k : Nat), p (chrAt (A ++ T ++ B) (A.length + T.length)).1 = false →
    k ≤ T.length → endN T q f p k = T.length → (A ++ T ++ B).length ≤ A.length + k + g → endN (A ++ T ++ B) q g p (A.length + k) = A.length + T.length := by
  induction f with
  | zero =>
    intro g p k hp hk he _
    rw [endN] at he
    subst he
    exact endN_out _ _ (.inr (.inr hp))
  | succ f ih =>
    intro g p k hp hk he hg
    rcases Nat.lt_or_ge k T.length with hlt | hge
    · rw [endN] at he
      split at he
      · next h =>
        obtain ⟨_, h0, h1⟩ := h
        obtain ⟨r, m, hrm⟩ : ∃ r m, chrAt T k = (r, m) := ⟨_, _, rfl⟩
        rw [hrm] at he h0 h1
        have hkm : k + m ≤ T.length := by
          rcases Nat.lt_or_ge T.length (k + m) with h2 | h2
          · rw [endN_out _ _ (.inl (by simp only; omega))] at he; simp only at he; omega
          · exact h2
        have hL : (A ++ T ++ B).length = A.length + T.length + B.length := by simp; omega
        obtain ⟨g, rfl⟩ : ∃ g', g = g' + 1 := ⟨g - 1, by omega⟩
        rw [endN_on g (A.length + k) (by omega) (chr_mid A T B hrm h0 hlt) h0 h1, show A.length + k + m = A.length + (k + m) by omega]
        simp only at h0
        exact ih g q (k + m) hq hkm he (by omega)
      · omega
    · obtain rfl : k = T.length := by omega
      exact endN_out _ _ (.inr (.inr hp))
theorem chr_asc {l : List UInt8} {k b : Nat} (h : byteAt l k = b) (hb : b < 128) : chrAt l k = ((b : Int), 1) := by
  unfold chrAt
  simp only []
  rw [rawS_1 (by omega), h]
  have e1 : isR (b : Int) = true := by unfold isR; simp; omega
  have e2 : encLen ((b : Int)).toNat = 1 := by unfold encLen; rw [Int.toNat_natCast, if_pos hb]
  simp only [e1, e2]
  simp
/-- What is found first behind a text that hasn't got it. -/
theorem pi_index {l : List UInt8} (h : Lib.index l pB < 0) : Lib.index (l ++ pB) pB = l.length := by
  unfold pB at h ⊢
  refine Lib.index_first (by simp) ?_ (fun j hj => ?_)
  · rw [occ2]
    constructor
    · rw [List.getElem?_append_right (Nat.le_refl _)]; simp
    · rw [List.getElem?_append_right (by omega)]; simp
  · cases ho : Lib.occAt (l ++ [63, 62]) [63, 62] j with
    | false => rfl
    | true =>
      obtain ⟨h1, h2⟩ := (occ2 _ _ _ _).1 ho
      by_cases hj2 : j + 1 < l.length
      · have h4 : Lib.occAt l [63, 62] j = true := by
          rw [occ2]
          rw [List.getElem?_append_left (by omega)] at h1 h2
          exact ⟨h1, h2⟩
        rw [idx_none h j (by omega)] at h4
        cases h4
      · rw [List.getElem?_append_right (by omega), show j + 1 - l.length = 0 by omega] at h2
        simp at h2
def piX (D : List UInt8) : List UInt8 := if D = [] then [] else 32 :: D
def piT (T D : List UInt8) : List UInt8 := pA ++ T ++ (piX D ++ pB)
def badPi (T D : List UInt8) : Prop := wholeB T (plainP startN) (plainP charN) = false ∨ resB T = true ∨ 0 ≤ Lib.index D pB ∨ (D ≠ [] ∧ blankB (byteAt D 0) = true)
theorem stops : ∀ b : Nat, b = 32 ∨ b = 63 → plainP startN (b : Int) = false ∧ plainP charN (b : Int) = false := by
  rintro b (rfl | rfl) <;> exact ⟨by decide, by decide⟩
theorem pi_read {T D : List UInt8} (h : ¬ badPi T D) (h9 : T.length ≤ 1024) : piV (piT T D) 0 = .tuple #[strV T, strV D, .int .i64 ((piT T D).length : Int), .int .i64 0] := by
  unfold badPi at h
  obtain ⟨h1, h2, h3, h4⟩ : wholeB T (plainP startN) (plainP charN) = true ∧ resB T = false ∧ Lib.index D pB < 0 ∧ (D ≠ [] → blankB (byteAt D 0) = false) := by
    refine ⟨?_, ?_, ?_, fun hd => ?_⟩
    · cases hw : wholeB T (plainP startN) (plainP charN) with
      | true => rfl
      | false => exact absurd (.inl hw) h
    · cases hw : resB T with
      | false => rfl
      | true => exact absurd (.inr (.inl hw)) h
    · by_cases hw : Lib.index D pB < 0
      · exact hw
      · exact absurd (.inr (.inr (.inl (by omega)))) h
    · cases hw : blankB (byteAt D 0) with
      | false => rfl
      | true => exact absurd (.inr (.inr (.inr ⟨hd, hw⟩))) h
  clear h
  obtain ⟨hne, hend⟩ := whole_iff.1 h1
  have hT0 : 0 < T.length := List.length_pos_iff.2 hne
  have hA : pA.length = 2 := rfl
  have hB : pB.length = 2 := rfl
  obtain ⟨b0, hb0, hb3⟩ : ∃ b, byteAt (piX D ++ pB) 0 = b ∧ (b = 32 ∨ b = 63) := by
    unfold piX
    by_cases hd : D = []
    · rw [if_pos hd]; exact ⟨63, rfl, .inr rfl⟩
    · rw [if_neg hd]; exact ⟨32, rfl, .inl rfl⟩
  have hst := stops b0 hb3
  have hch : chrAt (piT T D) (pA.length + T.length) = ((b0 : Int), 1) := chr_asc (by rw [← hb0]; exact byteAt_end pA T (piX D ++ pB) 0) (by omega)
  have hz : piZ (piT T D) 2 = 2 + T.length :=
    end_mid pA T (piX D ++ pB) (by rw [show pA ++ T ++ (piX D ++ pB) = piT T D from rfl, hch]; exact hst.2) T.length (piT T D).length _ 0 (by rw [show pA ++ T ++ (piX D ++ pB) = piT T D from rfl, hch]; exact hst.1) (Nat.zero_le _) hend (by unfold piT; omega)
  have hlen : (piT T D).length = 2 + T.length + (piX D).length + 2 := by unfold piT; simp [hA, hB]; omega
  have hq : piQ (piT T D) 2 = 2 + T.length + (piX D).length - D.length ∧ D.length ≤ (piX D).length := by
    unfold piQ
    rw [hz]
    unfold piX at hlen ⊢
    by_cases hd : D = []
    · subst hd
      rw [if_pos rfl] at hlen ⊢
      refine ⟨?_, by simp⟩
      rw [blkN_out]
      · simp
      · right
        rw [show (2 + T.length : Nat) = pA.length + T.length + 0 from rfl]
        unfold piT
        rw [byteAt_end]
        decide
    · rw [if_neg hd] at hlen ⊢
      refine ⟨?_, by simp⟩
      have e0 : byteAt (piT T D) (2 + T.length) = 32 := by
        rw [show (2 + T.length : Nat) = pA.length + T.length + 0 from rfl]
        unfold piT piX
        rw [byteAt_end, if_neg hd]
        rfl
      have e1 : byteAt (piT T D) (2 + T.length + 1) = byteAt D 0 := by
        rw [show (2 + T.length + 1 : Nat) = pA.length + T.length + 1 from rfl]
        unfold piT piX
        rw [byteAt_end, if_neg hd]
        cases D with
        | nil => exact absurd rfl hd
        | cons x D => rfl
      obtain ⟨f, hf⟩ : ∃ f, (piT T D).length = f + 1 := ⟨(piT T D).length - 1, by omega⟩
      rw [hf, blkN_on f _ (by omega) (by rw [e0]; decide), blkN_out _ _ (.inr (by rw [e1]; exact h4 hd))]
      simp
      omega
  have hdq : (piT T D).drop (piQ (piT T D) 2) = D ++ pB := by
    rw [hq.1]
    unfold piT piX
    by_cases hd : D = []
    · subst hd
      rw [if_pos rfl]
      simp only [List.length_nil, List.nil_append, Nat.sub_zero, Nat.add_zero]
      rw [List.drop_append_of_le_length (by simp [hA]), List.drop_of_length_le (by simp [hA])]
      rfl
    · rw [if_neg hd]
      rw [show 2 + T.length + (32 :: D).length - D.length = (pA ++ T ++ [32]).length by simp [hA]; omega]
      rw [show pA ++ T ++ (32 :: D ++ pB) = (pA ++ T ++ [32]) ++ (D ++ pB) by simp]
      exact List.drop_left
  have hix : Lib.index ((piT T D).drop (piQ (piT T D) 2)) pB = D.length := by rw [hdq]; exact pi_index h3
  have htk : ((piT T D).drop 2).take (piZ (piT T D) 2 - 2) = T := by
    rw [hz, Nat.add_sub_cancel_left]
    unfold piT
    rw [List.append_assoc, show (2 : Nat) = pA.length from rfl, List.drop_left, List.take_left]
  unfold piV
  rw [if_neg (by omega), if_neg (by unfold piT; rw [List.append_assoc, Int.toNat_zero, occ_head]; decide)]
  rw [show (0 : Int).toNat + 2 = 2 from rfl]
  unfold piW
  rw [if_neg (by omega), if_neg (by omega), htk, hix, if_neg, hdq, Int.toNat_natCast, List.take_left, hq.1, hlen]
  · rw [show 2 + T.length + (piX D).length - D.length + D.length + 2 = 2 + T.length + (piX D).length + 2 by have := hq.2; omega]
  · rintro (h | h | ⟨h, h'⟩)
    · rw [h2] at h; cases h
    · omega
    · rw [hq.1, hz] at h
      unfold piX at h hq
      by_cases hd : D = []
      · subst hd; simp at h'
      · rw [if_neg hd] at h; simp at h; omega
end Go.Proofs.YtggllkcoabeejaaDoor
