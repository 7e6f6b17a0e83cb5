/- The contract of Norm of package eol: line ends are made one in place, in a copy. -/
import Derived.Test.YtpgpniemkmiljaaEolB
import Derived.Deep.RegionLaw
namespace Go.Proofs.Ytpgpniemkmiljaa
open Go.ChangeShapes Go.WideShapes Go.ChangeAt Go.RowKit
set_option linter.unusedVariables false

/-- Block g holds the bytes R, and something behind them. -/
def Holds8 (w : World) (g : Nat) (R : List UInt8) (tail : List Value) : Prop := w.heap[g]? = some (.cells (vB R ++ tail).toArray 5 (0, 0))
theorem own_holds {w : World} {base g n c : Nat} {l : List UInt8} (h : w.ownsRow base 5 1 (.slice (some ⟨g, 0, none⟩) n c) n (vB l)) :
    ∃ tail, Holds8 w g l tail ∧ n ≤ c ∧ c ≤ 9223372036854775807 ∧ (vB l ++ tail).length = c ∧ base ≤ g := by
  rcases h.2 with ⟨h1, h2⟩ | ⟨g', cap, cur, h1, hb, h3, h4, h5, h6, h7⟩
  · cases h1
  · injection h1 with e1 e2 e3
    injection e1 with e1
    injection e1 with e1
    subst e1 e3
    rw [Nat.mul_one] at h6 h7
    refine ⟨cur.toList.drop n, ?_, h4, h5, ?_, hb⟩
    · unfold Holds8
      rw [← h7, List.take_append_drop]
      exact h3
    · rw [← h7, List.take_append_drop]
      simpa using h6
theorem holds_cell {w : World} {g : Nat} {R : List UInt8} {tail : List Value} (h : Holds8 w g R tail) (k : Nat) (m : Nat) :
    ∀ j u, (vB ((R.drop k).take m))[j]? = some u → w.cell? ((⟨g, k, none⟩ : Addr).add j) = some u := by
  intro j u hu
  have e : (⟨g, k, none⟩ : Addr).add j = ⟨g, k + j, none⟩ := by
    unfold Addr.add; split
    · next h0 => rw [h0]; rfl
    · rfl
  rw [e, cell_of_row w g (k + j) _ _ (0, 0) h]
  unfold vB at hu ⊢
  rw [List.getElem?_map, List.getElem?_take] at hu
  split at hu
  · rw [List.getElem?_drop] at hu
    rw [List.getElem?_toArray, List.getElem?_append_left]
    · rw [List.getElem?_map]; exact hu
    · cases hx : R[k + j]? with
      | none => rw [hx] at hu; cases hu
      | some c => have := (List.getElem?_eq_some_iff.1 hx).1; simpa using this
  · cases hu
theorem holds_sees {w : World} {g : Nat} {R : List UInt8} {tail : List Value} (h : Holds8 w g R tail) (k : Nat) : Sees w (some ⟨g, k, none⟩) (vB (R.drop k)) := by
  intro _
  refine ⟨_, rfl, fun j u hu => holds_cell h k (R.drop k).length j u ?_⟩
  rwa [List.take_of_length_le (Nat.le_refl _)]
theorem holds_take {w : World} {g : Nat} {R : List UInt8} {tail : List Value} (h : Holds8 w g R tail) (m : Nat) : Sees w (some ⟨g, 0, none⟩) (vB (R.take m)) := by
  intro _
  exact ⟨_, rfl, fun j u hu => holds_cell h 0 m j u (by simpa using hu)⟩
/-- A piece laid over bytes. -/
theorem splice_vB (R X : List UInt8) (tail : List Value) (to : Nat) (h : to + X.length ≤ R.length) :
    splice (vB R ++ tail) to (vB X) = vB (splice R to X) ++ tail := by
  have hl : (vB R).length = R.length := vB_len R
  unfold splice
  rw [vB_len, List.take_append_of_le_length (by rw [hl]; omega), List.drop_append_of_le_length (by rw [hl]; omega), ← vB_take, ← vB_drop, vB_append, vB_append]
  simp
theorem splice_len (R X : List UInt8) (to : Nat) (h : to + X.length ≤ R.length) : (splice R to X).length = R.length := length_splice R to X h
theorem splice_take (R X : List UInt8) (to : Nat) (h : to + X.length ≤ R.length) : (splice R to X).take (to + X.length) = R.take to ++ X := by
  unfold splice
  rw [← List.append_assoc, List.take_append_of_le_length (by simp; omega)]
  exact List.take_of_length_le (by simp; omega)
theorem splice_drop (R X : List UInt8) (to k : Nat) (h : to + X.length ≤ R.length) (hk : to + X.length ≤ k) : (splice R to X).drop k = R.drop k := by
  unfold splice
  rw [← List.append_assoc, List.drop_append, List.drop_eq_nil_of_le (by simp; omega), List.nil_append, List.drop_drop]
  congr 1
  simp; omega
theorem set_vB (R : List UInt8) (tail : List Value) (k : Nat) (c : UInt8) (h : k < R.length) : (vB R ++ tail).set k (.int .u8 (c.toNat : Int)) = vB (R.set k c) ++ tail := by
  rw [List.set_append_left _ _ (by rw [vB_len]; exact h)]
  unfold vB
  rw [List.map_set]
theorem holds_set {w : World} {g : Nat} {R : List UInt8} {tail : List Value} (h : Holds8 w g R tail) (k : Nat) (c : UInt8) (hk : k < R.length) :
    Holds8 (w.setCell ⟨g, k, none⟩ (.int .u8 (c.toNat : Int))) g (R.set k c) tail := by
  unfold Holds8
  rw [heap_setCell_same w g k _ _ _ h, ← set_vB R tail k c hk]
  simp

/-- What has been made so far. -/
structure NormAt (l : List UInt8) (len to frm : Nat) (R : List UInt8) : Prop where
  size : R.length = len
  rest : R.drop frm = l.drop frm
  said : normS l = R.take to ++ normS (l.drop frm)
  low : to ≤ frm
  high : frm ≤ len
theorem normAt_zero (l : List UInt8) : NormAt l l.length 0 0 l := ⟨rfl, rfl, by simp, Nat.le_refl _, Nat.zero_le _⟩
theorem normAt_last {l R : List UInt8} {len to frm : Nat} (hl : l.length = len) (h : NormAt l len to frm R) (hp : plainS (l.drop frm) = true) :
    to + (l.drop frm).length ≤ R.length ∧ (splice R to (l.drop frm)).take (to + (l.drop frm).length) = normS l := by
  have hb : to + (l.drop frm).length ≤ R.length := by rw [List.length_drop, h.size, hl]; have := h.low; have := h.high; omega
  exact ⟨hb, by rw [splice_take R _ to hb, h.said, normS_plain hp]⟩
/-- Up to the next carriage return. -/
theorem normAt_next {l R : List UInt8} {len to frm n : Nat} (hl : l.length = len) (h : NormAt l len to frm R) (hn : n < (l.drop frm).length) (hp : plainS ((l.drop frm).take n) = true)
    (hx : l.drop frm = (l.drop frm).take n ++ 13 :: (l.drop frm).drop (n + 1)) :
    to + n ≤ R.length ∧ (splice R to ((l.drop frm).take n)).length = len ∧ (splice R to ((l.drop frm).take n)).drop (frm + (n + 1)) = l.drop (frm + (n + 1)) ∧
    (splice R to ((l.drop frm).take n)).take (to + n) = R.take to ++ (l.drop frm).take n ∧ normS l = (R.take to ++ (l.drop frm).take n) ++ normS (13 :: l.drop (frm + (n + 1))) := by
  have hlow := h.low
  rw [List.length_drop, hl] at hn
  have hX : ((l.drop frm).take n).length = n := by rw [List.length_take, List.length_drop, hl]; omega
  have hb : to + ((l.drop frm).take n).length ≤ R.length := by rw [hX, h.size]; omega
  have hb' : to + n ≤ R.length := by rw [h.size]; omega
  refine ⟨hb', by rw [splice_len R _ to hb, h.size], ?_, ?_, ?_⟩
  · rw [splice_drop R _ to _ hb (by rw [hX]; omega), ← List.drop_drop, h.rest, List.drop_drop]
  · have := splice_take R _ to hb
    rwa [hX] at this
  · have e1 := normS_ahead hp (13 :: (l.drop frm).drop (n + 1))
    rw [← hx, List.drop_drop] at e1
    rw [h.said, e1, List.append_assoc]
theorem holds_at {w : World} {g : Nat} {R : List UInt8} {tail : List Value} {k : Nat} (h : Holds8 w g R tail) (hk : k < R.length) :
    w.cell? ⟨g, k, none⟩ = some (.int .u8 (byteAt R k : Int)) ∧ w.frozen? ⟨g, k, none⟩ = false := by
  refine ⟨?_, frozen_of_row w g k _ _ h⟩
  rw [cell_of_row w g k _ _ (0, 0) h, List.getElem?_toArray, List.getElem?_append_left (by rw [vB_len]; exact hk)]
  exact vB_at R k hk
theorem head_drop (l : List UInt8) (k : Nat) : (l.drop k).head? = l[k]? := by rw [List.head?_drop]
/-- A feed stands behind: it is the line's end. -/
theorem normAt_feed {l R X : List UInt8} {len to f : Nat} (hlen : R.length = len) (hd : R.drop f = l.drop f) (ht : R.take to = X) (hs : normS l = X ++ normS (13 :: l.drop f)) (h1 : to ≤ f) (h2 : f ≤ len) (h10 : l[f]? = some 10) :
    NormAt l len to f R := ⟨hlen, hd, by rw [hs, ht, normS_feed _ (by rw [head_drop]; exact h10)], h1, h2⟩
/-- None does: one is written. -/
theorem normAt_store {l R X : List UInt8} {len to f : Nat} (hlen : R.length = len) (hd : R.drop f = l.drop f) (ht : R.take to = X) (hs : normS l = X ++ normS (13 :: l.drop f)) (h1 : to < f) (h2 : f ≤ len) (h10 : l[f]? ≠ some 10) :
    NormAt l len (to + 1) f (R.set to 10) := by
  refine ⟨by rw [List.length_set]; exact hlen, by rw [List.drop_set_of_lt h1]; exact hd, ?_, by omega, h2⟩
  have e : (R.set to 10).take (to + 1) = R.take to ++ [10] := by
    rw [List.take_succ_eq_append_getElem (by rw [List.length_set]; omega), List.take_set_of_le (Nat.le_refl _), List.getElem_set_self]
  rw [e, hs, normS_carriage _ (by rw [head_drop]; exact h10), ht]
  simp
theorem holds_byte {w : World} {g : Nat} {R l : List UInt8} {tail : List Value} {k : Nat} (h : Holds8 w g R tail) (hd : R.drop k = l.drop k) (hk : k < R.length) :
    w.cell? ⟨g, k, none⟩ = some (.int .u8 (byteAt l k : Int)) := by
  have hb := (holds_sees h k)
  rw [hd] at hb
  have hl : k < l.length := by
    have := congrArg List.length hd
    simp only [List.length_drop] at this
    omega
  obtain ⟨a, e, hc⟩ := hb.byte (k := 0) (by rw [List.length_drop]; omega)
  injection e with e
  subst e
  rw [show ((⟨g, k, none⟩ : Addr).add 0) = ⟨g, k, none⟩ from rfl] at hc
  rw [hc]
  unfold byteAt
  rw [List.getElem?_drop]; rfl
end Go.Proofs.Ytpgpniemkmiljaa
