/- Strings of known bytes: an index, a piece, two of them one behind the other. -/
import Derived.Test.YtdmfladcldkmeaaDoorNamf
import Derived.Laws.Strings
namespace Go.Proofs.YtdmfladcldkmeaaDoor
open Go.ChangeShapes Go.WideShapes Go.ChangeAt Go.RowKit
set_option linter.unusedVariables false

theorem str_size (l : List UInt8) : (⟨l.toArray⟩ : ByteArray).size = l.length := by simp [ByteArray.size]
theorem str_idx (l : List UInt8) (k : Nat) (hk : k < l.length) (w : World) :
    (Instr.index 9 (.string ⟨l.toArray⟩) (.int .i64 (k : Int))).run Tryd.prog w = .ok (.int .u8 (byteAt l k : Int)) w := by
  rw [run_index_string w 9 _ _ _ Tryd.underlying9, dif_pos ⟨by omega, by rw [str_size]; omega⟩]
  congr 3
  unfold byteAt
  simp only [Int.toNat_natCast]
  show (l.toArray[k]'(by simpa using hk)).toNat = _
  rw [List.getElem?_eq_getElem hk]
  simp
theorem str_app (l m : List UInt8) : (⟨l.toArray⟩ : ByteArray) ++ ⟨m.toArray⟩ = ⟨(l ++ m).toArray⟩ := by
  apply ByteArray.ext
  simp [ByteArray.data_append]
/-- What '[]byte(s)' makes, with the block, the room and the world under names. -/
theorem bytes_made (l : List UInt8) (w : World) (hl : l.length ≤ 1000000) : ∃ (B cap : Nat) (W1 : World), (convert 9 36 (strV l)).run Tryd.prog w = .ok (.slice (some ⟨B, 0, none⟩) l.length cap) W1 ∧
    l.length ≤ cap ∧ cap ≤ 9223372036854775807 ∧ Below w.heap.size w W1 ∧ B < W1.heap.size ∧ w.heap.size ≤ B ∧ Sees W1 (some ⟨B, 0, none⟩) (vB l) := by
  have h := run_bytes_of_string (P := Tryd.prog) w 9 36 5 ⟨l.toArray⟩ Tryd.underlying9 Tryd.underlying36 Tryd.underlying5
  rw [str_size] at h
  have h1 := grownCap_ge w l.length 0 5
  have h2 := grownCap_le_maxLen w l.length 0 5 (by unfold maxLen; omega)
  refine ⟨w.heap.size, _, _, h, h1, by unfold maxLen at h2; exact h2, below_bytes (Below.refl _ w) (Nat.le_refl _) _, ?_, Nat.le_refl _, made_sees w l _ _ _ _ rfl⟩
  show w.heap.size < (w.heap.push _).size
  rw [Array.size_push]
  omega
/-- The rest of a row that begins at its block's first cell. -/
theorem sees_off {W : World} {B : Nat} {l : List UInt8} (h : Sees W (some ⟨B, 0, none⟩) (vB l)) (k : Nat) : Sees W (some ⟨B, k, none⟩) (vB (l.drop k)) := by
  intro hne
  obtain ⟨ad, e, hc⟩ := h (by intro h0; rw [vB_drop, h0] at hne; simp at hne)
  injection e with e
  subst e
  refine ⟨_, rfl, fun j u hu => ?_⟩
  rw [vB_drop, List.getElem?_drop] at hu
  have h2 := hc _ u hu
  rw [← h2]
  congr 1
  unfold Addr.add
  by_cases hj : j = 0
  · by_cases hk : k = 0
    · subst hj hk; rfl
    · subst hj; rw [if_pos rfl, if_neg (by omega)]; simp
  · rw [if_neg hj, if_neg (by omega)]; simp
theorem cell_off {W : World} {B : Nat} {l : List UInt8} (h : Sees W (some ⟨B, 0, none⟩) (vB l)) {k : Nat} (hk : k < l.length) : W.cell? ⟨B, k, none⟩ = some (.int .u8 (byteAt l k : Int)) := by
  obtain ⟨ad, e, hc⟩ := h.byte (k := k) hk
  injection e with e
  subst e
  rw [← hc]
  congr 1
  unfold Addr.add
  by_cases h0 : k = 0
  · subst h0; rfl
  · rw [if_neg h0]; simp
end Go.Proofs.YtdmfladcldkmeaaDoor
