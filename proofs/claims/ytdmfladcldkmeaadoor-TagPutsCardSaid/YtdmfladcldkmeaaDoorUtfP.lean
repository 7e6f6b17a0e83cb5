/- Characters as bytes, in plain words: what stands at a place of a text. Nothing of the program is named here. -/
import Derived.Test.YtdmfladcldkmeaaDoorSees
namespace Go.Proofs.YtdmfladcldkmeaaDoor
open Go.ChangeShapes Go.WideShapes Go.ChangeAt Go.RowKit
set_option linter.unusedVariables false

/-- Bytes as values. -/
def vB (l : List UInt8) : List Value := l.map fun c => .int .u8 (c.toNat : Int)
theorem vB_len (l : List UInt8) : (vB l).length = l.length := by unfold vB; simp
theorem vB_take (l : List UInt8) (k : Nat) : vB (l.take k) = (vB l).take k := by unfold vB; rw [List.map_take]
theorem vB_drop (l : List UInt8) (k : Nat) : vB (l.drop k) = (vB l).drop k := by unfold vB; rw [List.map_drop]
theorem vB_append (l m : List UInt8) : vB (l ++ m) = vB l ++ vB m := by unfold vB; simp
/-- The byte at a place, as a number; 0 beyond. -/
def byteAt (l : List UInt8) (k : Nat) : Nat := (l[k]?.getD 0).toNat
theorem byteAt_lt (l : List UInt8) (k : Nat) : byteAt l k < 256 := UInt8.toNat_lt _
theorem vB_at (l : List UInt8) (k : Nat) (h : k < l.length) : (vB l)[k]? = some (.int .u8 (byteAt l k : Int)) := by
  unfold vB byteAt; rw [List.getElem?_map, List.getElem?_eq_getElem h]; rfl
theorem Sees.byte {w : World} {A : Option Addr} {l : List UInt8} (h : Sees w A (vB l)) {k : Nat} (hk : k < l.length) :
    ∃ ad, A = some ad ∧ w.cell? (ad.add k) = some (.int .u8 (byteAt l k : Int)) := by
  obtain ⟨ad, u, e, hu, hc⟩ := h.at (k := k) (by rw [vB_len]; exact hk)
  rw [vB_at l k hk] at hu
  injection hu with hu
  exact ⟨ad, e, by rw [hc, hu]⟩

/-- Is it the number of a character? -/
def isR (r : Int) : Bool := decide (0 ≤ r) && decide (r ≤ 1114111) && !(decide (55296 ≤ r) && decide (r ≤ 57343))
/-- How many bytes a character has. -/
def encLen (r : Nat) : Nat := if r < 128 then 1 else if r < 2048 then 2 else if r < 65536 then 3 else 4
/-- The numbers of a character's bytes. -/
def encN (r : Nat) : List Nat :=
  if r < 128 then [r] else if r < 2048 then [192 + r / 64, 128 + r % 64] else if r < 65536 then [224 + r / 4096, 128 + r / 64 % 64, 128 + r % 64]
  else [240 + r / 262144, 128 + r / 4096 % 64, 128 + r / 64 % 64, 128 + r % 64]
def encB (r : Nat) : List UInt8 := (encN r).map UInt8.ofNat
theorem encB_len (r : Nat) : (encB r).length = encLen r := by unfold encB encN encLen; repeat (split <;> try simp)

/-- What a byte of 128 to 191 says; below 0: it is none. -/
def restS (l : List UInt8) (k : Nat) : Int := if k < l.length ∧ 128 ≤ byteAt l k ∧ byteAt l k ≤ 191 then (byteAt l k : Int) - 128 else -1
theorem restS_bd (l : List UInt8) (k : Nat) : -1 ≤ restS l k ∧ restS l k ≤ 63 := by unfold restS; split <;> omega
/-- The number that the bytes at a place make, and how many they are; none: 0 bytes. -/
def rawS (l : List UInt8) (k : Nat) : Int × Nat :=
  let c : Int := byteAt l k
  let x := restS l (k + 1)
  let y := restS l (k + 2)
  let z := restS l (k + 3)
  if c < 128 then (c, 1)
  else if 192 ≤ c ∧ c < 224 ∧ 0 ≤ x then ((c - 192) * 64 + x, 2)
  else if 224 ≤ c ∧ c < 240 ∧ 0 ≤ x ∧ 0 ≤ y then (((c - 224) * 64 + x) * 64 + y, 3)
  else if 240 ≤ c ∧ c < 248 ∧ 0 ≤ x ∧ 0 ≤ y ∧ 0 ≤ z then ((((c - 240) * 64 + x) * 64 + y) * 64 + z, 4)
  else (-1, 0)
/-- The character at a place, and how many bytes it has; 0 and 0: there is none. -/
def chrAt (l : List UInt8) (k : Nat) : Int × Nat :=
  let p := rawS l k
  if p.2 = 0 ∨ isR p.1 = false ∨ encLen p.1.toNat ≠ p.2 then (0, 0) else p
end Go.Proofs.YtdmfladcldkmeaaDoor
