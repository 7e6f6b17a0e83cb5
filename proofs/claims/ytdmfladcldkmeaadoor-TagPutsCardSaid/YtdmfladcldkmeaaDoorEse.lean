/- Escaped texts: what stands at the place to which a byte comes. -/
import Derived.Test.YtdmfladcldkmeaaDoorEsd
import Derived.Test.YtdmfladcldkmeaaDoorCrb
namespace Go.Proofs.YtdmfladcldkmeaaDoor
open Go.ChangeShapes Go.WideShapes Go.ChangeAt Go.RowKit
set_option linter.unusedVariables false
set_option maxRecDepth 100000

/-- The place to which byte k comes. -/
def posE (s : List UInt8) (k : Nat) : Nat := (escL (s.take k)).length
theorem esc_parts (s : List UInt8) (k : Nat) (hk : k < s.length) : escL s = escL (s.take k) ++ escB (byteAt s k) ++ escL (s.drop (k + 1)) := by
  rw [← escL_snoc s k hk, ← escL_app, List.take_append_drop]
theorem pos_zero (s : List UInt8) : posE s 0 = 0 := rfl
theorem pos_end (s : List UInt8) : posE s s.length = (escL s).length := by unfold posE; rw [List.take_length]
theorem pos_succ (s : List UInt8) (k : Nat) (hk : k < s.length) : posE s (k + 1) = posE s k + (escB (byteAt s k)).length := by
  unfold posE
  rw [escL_snoc s k hk, List.length_append]
theorem pos_le (s : List UInt8) (k : Nat) (hk : k < s.length) : posE s (k + 1) ≤ (escL s).length := by
  rw [pos_succ s k hk, esc_parts s k hk]
  simp only [List.length_append]
  unfold posE
  omega

theorem at_named (s : List UInt8) (k n : Nat) (nm : List UInt8) (hk : k < s.length) (hb : byteAt s k = n) (hn : escB n = 38 :: nm ++ [59]) (h0 : nm ≠ []) (h1 : nm.length ≤ 1024)
    (hl : ∀ j, j < nm.length → 97 ≤ byteAt nm j ∧ byteAt nm j ≤ 122) :
    byteAt (escL s) (posE s k) = 38 ∧ byteAt (escL s) (posE s k + 1) ≠ 35 ∧ entV (escL s) (posE s k : Nat) 38 = .tuple #[strV nm, .int .i64 (posE s (k + 1) : Nat), .int .i64 0] ∧ chV (escL s) (posE s k : Nat) = noC 7 := by
  have hX : (38 :: nm ++ [59] : List UInt8).length = nm.length + 2 := by simp
  have hp := esc_parts s k hk
  rw [hb, hn] at hp
  have hs := pos_succ s k hk
  rw [hb, hn, hX] at hs
  have h38 : byteAt (escL s) (posE s k) = 38 := by
    have := byte_mid (escL (s.take k)) (38 :: nm ++ [59]) (escL (s.drop (k + 1))) 0 (by rw [hX]; omega)
    rw [← hp, Nat.add_zero] at this
    rw [show posE s k = (escL (s.take k)).length from rfl, this]
    rfl
  have hn0 : 0 < nm.length := List.length_pos_iff.2 h0
  have h35 : byteAt (escL s) (posE s k + 1) ≠ 35 := by
    have h2 := byte_mid (escL (s.take k)) (38 :: nm ++ [59]) (escL (s.drop (k + 1))) 1 (by rw [hX]; omega)
    rw [← hp] at h2
    rw [show posE s k = (escL (s.take k)).length from rfl, h2, byte_head _ _ _ (by simp; omega)]
    have h3 := hl 0 hn0
    have h4 : byteAt (38 :: nm) 1 = byteAt nm 0 := rfl
    rw [h4]
    omega
  have hle : posE s k ≤ (escL s).length := by have := pos_le s k hk; omega
  refine ⟨h38, h35, ?_, ch_none hle (.inr h35)⟩
  have := ent_mid (escL (s.take k)) (escL (s.drop (k + 1))) nm h0 h1 hl
  rw [← hp] at this
  rw [hs]
  exact this

theorem at_num (s : List UInt8) (k n : Nat) (ds : List UInt8) (hk : k < s.length) (hb : byteAt s k = n) (hn : escB n = 38 :: 35 :: ds ++ [59]) (h0 : ds ≠ [])
    (hl : ∀ j, j < ds.length → 48 ≤ byteAt ds j ∧ byteAt ds j ≤ 57) (hd : dec10 ds 0 = n) (hc : hasT charT (n : Int) = true) :
    byteAt (escL s) (posE s k) = 38 ∧ byteAt (escL s) (posE s k + 1) = 35 ∧ chV (escL s) (posE s k : Nat) = .tuple #[.int .i64 (n : Nat), .int .i64 (posE s (k + 1) : Nat), .int .i64 0] ∧ entV (escL s) (posE s k : Nat) 38 = noV 7 := by
  have hX : (38 :: 35 :: ds ++ [59] : List UInt8).length = ds.length + 3 := by simp
  have hp := esc_parts s k hk
  rw [hb, hn] at hp
  have hs := pos_succ s k hk
  rw [hb, hn, hX] at hs
  have hlen := pos_le s k hk
  have h38 : byteAt (escL s) (posE s k) = 38 := by
    have := byte_mid (escL (s.take k)) (38 :: 35 :: ds ++ [59]) (escL (s.drop (k + 1))) 0 (by rw [hX]; omega)
    rw [← hp, Nat.add_zero] at this
    rw [show posE s k = (escL (s.take k)).length from rfl, this]
    rfl
  have h35 : byteAt (escL s) (posE s k + 1) = 35 := by
    have := byte_mid (escL (s.take k)) (38 :: 35 :: ds ++ [59]) (escL (s.drop (k + 1))) 1 (by rw [hX]; omega)
    rw [← hp] at this
    rw [show posE s k = (escL (s.take k)).length from rfl, this]
    rfl
  refine ⟨h38, h35, ?_, ent_num (by omega) h38 h35⟩
  have := ch_mid (escL (s.take k)) (escL (s.drop (k + 1))) ds h0 hl (by rw [hd]; exact hc)
  rw [← hp, hd] at this
  rw [hs]
  exact this

theorem at_plain (s : List UInt8) (k n : Nat) (hk : k < s.length) (hb : byteAt s k = n) (hn : escB n = [UInt8.ofNat n]) (h38 : n ≠ 38) :
    byteAt (escL s) (posE s k) = n ∧ posE s (k + 1) = posE s k + 1 ∧ chV (escL s) (posE s k : Nat) = noC 7 ∧ entV (escL s) (posE s k : Nat) 38 = noV 7 := by
  have hp := esc_parts s k hk
  rw [hb, hn] at hp
  have hs := pos_succ s k hk
  rw [hb, hn] at hs
  have hn9 : n < 256 := hb ▸ byteAt_lt s k
  have hle := pos_le s k hk
  have h1 : byteAt (escL s) (posE s k) = n := by
    have := byte_mid (escL (s.take k)) [UInt8.ofNat n] (escL (s.drop (k + 1))) 0 (by simp)
    rw [← hp, Nat.add_zero] at this
    rw [show posE s k = (escL (s.take k)).length from rfl, this]
    show (UInt8.ofNat n).toNat = n
    simp
    omega
  exact ⟨h1, hs, ch_none (by omega) (.inl (by rw [h1]; exact h38)), ent_none (by omega) (by rw [h1]; exact h38)⟩

/-- What stands where a byte has come to: an entity that is always known, a number, or the byte. -/
theorem esc_at (s : List UInt8) (k : Nat) (hk : k < s.length) :
    (byteAt (escL s) (posE s k) = 38 ∧ byteAt (escL s) (posE s k + 1) ≠ 35 ∧ chV (escL s) (posE s k : Nat) = noC 7 ∧
      ∃ nm, entV (escL s) (posE s k : Nat) 38 = .tuple #[strV nm, .int .i64 (posE s (k + 1) : Nat), .int .i64 0] ∧ knownN nm = (byteAt s k : Int)) ∨
    (byteAt (escL s) (posE s k) = 38 ∧ byteAt (escL s) (posE s k + 1) = 35 ∧ entV (escL s) (posE s k : Nat) 38 = noV 7 ∧
      chV (escL s) (posE s k : Nat) = .tuple #[.int .i64 (byteAt s k : Nat), .int .i64 (posE s (k + 1) : Nat), .int .i64 0]) ∨
    (byteAt (escL s) (posE s k) = byteAt s k ∧ (byteAt s k ≠ 38 ∧ byteAt s k ≠ 60 ∧ byteAt s k ≠ 62 ∧ byteAt s k ≠ 34 ∧ byteAt s k ≠ 13 ∧ byteAt s k ≠ 10 ∧ byteAt s k ≠ 9) ∧ posE s (k + 1) = posE s k + 1 ∧
      chV (escL s) (posE s k : Nat) = noC 7 ∧ entV (escL s) (posE s k : Nat) 38 = noV 7) := by
  by_cases h38 : byteAt s k = 38
  · obtain ⟨h1, h2, h3, h4⟩ := at_named s k 38 [97, 109, 112] hk h38 rfl (by simp) (by simp) (by decide)
    exact .inl ⟨h1, h2, h4, _, h3, by rw [h38]; kernel_rfl⟩
  by_cases h60 : byteAt s k = 60
  · obtain ⟨h1, h2, h3, h4⟩ := at_named s k 60 [108, 116] hk h60 rfl (by simp) (by simp) (by decide)
    exact .inl ⟨h1, h2, h4, _, h3, by rw [h60]; kernel_rfl⟩
  by_cases h62 : byteAt s k = 62
  · obtain ⟨h1, h2, h3, h4⟩ := at_named s k 62 [103, 116] hk h62 rfl (by simp) (by simp) (by decide)
    exact .inl ⟨h1, h2, h4, _, h3, by rw [h62]; kernel_rfl⟩
  by_cases h34 : byteAt s k = 34
  · obtain ⟨h1, h2, h3, h4⟩ := at_named s k 34 [113, 117, 111, 116] hk h34 rfl (by simp) (by simp) (by decide)
    exact .inl ⟨h1, h2, h4, _, h3, by rw [h34]; kernel_rfl⟩
  by_cases h13 : byteAt s k = 13
  · obtain ⟨h1, h2, h3, h4⟩ := at_num s k 13 [49, 51] hk h13 rfl (by simp) (by decide) rfl (by kernel_rfl)
    exact .inr (.inl ⟨h1, h2, h4, by rw [h13]; exact h3⟩)
  by_cases h10 : byteAt s k = 10
  · obtain ⟨h1, h2, h3, h4⟩ := at_num s k 10 [49, 48] hk h10 rfl (by simp) (by decide) rfl (by kernel_rfl)
    exact .inr (.inl ⟨h1, h2, h4, by rw [h10]; exact h3⟩)
  by_cases h9 : byteAt s k = 9
  · obtain ⟨h1, h2, h3, h4⟩ := at_num s k 9 [57] hk h9 rfl (by simp) (by decide) rfl (by kernel_rfl)
    exact .inr (.inl ⟨h1, h2, h4, by rw [h9]; exact h3⟩)
  obtain ⟨h1, h2, h3, h4⟩ := at_plain s k _ hk rfl (by unfold escB; rw [if_neg h38, if_neg h60, if_neg h62, if_neg h34, if_neg h13, if_neg h10, if_neg h9]) h38
  exact .inr (.inr ⟨h1, ⟨h38, h60, h62, h34, h13, h10, h9⟩, h2, h3, h4⟩)
end Go.Proofs.YtdmfladcldkmeaaDoor
