/- References: the number that digits say, and what a reference to a character is. -/
import Derived.Test.YtdmfladcldkmeaaDoorCrd
import Derived.Test.YtdmfladcldkmeaaDoorChd
namespace Go.Proofs.YtdmfladcldkmeaaDoor
open Go.ChangeShapes Go.WideShapes Go.ChangeAt Go.RowKit
set_option linter.unusedVariables false

/-- The place behind the digits of base b. -/
def digZ (l : List UInt8) (b : Int) : Nat → Nat → Nat
  | 0, k => k
  | f + 1, k => if k < l.length ∧ 0 ≤ digN (byteAt l k) b then digZ l b f (k + 1) else k
/-- The number that they say, behind what was said before. -/
def digT (l : List UInt8) (b : Int) : Nat → Nat → Nat → Nat
  | 0, _, T => T
  | f + 1, k, T => if k < l.length ∧ 0 ≤ digN (byteAt l k) b then digT l b f (k + 1) (T * b.toNat + (digN (byteAt l k) b).toNat) else T
theorem digZ_out {l : List UInt8} {b : Int} (f k : Nat) (h : l.length ≤ k ∨ digN (byteAt l k) b < 0) : digZ l b f k = k := by
  cases f with
  | zero => rfl
  | succ f => rw [digZ, if_neg (by omega)]
theorem digZ_on {l : List UInt8} {b : Int} (f k : Nat) (h : k < l.length) (hd : 0 ≤ digN (byteAt l k) b) : digZ l b (f + 1) k = digZ l b f (k + 1) := by
  rw [digZ, if_pos ⟨h, hd⟩]
theorem digT_out {l : List UInt8} {b : Int} (f k T : Nat) (h : l.length ≤ k ∨ digN (byteAt l k) b < 0) : digT l b f k T = T := by
  cases f with
  | zero => rfl
  | succ f => rw [digT, if_neg (by omega)]
theorem digT_on {l : List UInt8} {b : Int} (f k T : Nat) (h : k < l.length) (hd : 0 ≤ digN (byteAt l k) b) :
    digT l b (f + 1) k T = digT l b f (k + 1) (T * b.toNat + (digN (byteAt l k) b).toNat) := by
  rw [digT, if_pos ⟨h, hd⟩]
theorem digZ_ge (l : List UInt8) (b : Int) : ∀ f k, k ≤ digZ l b f k
  | 0, k => Nat.le_refl _
  | f + 1, k => by
    rw [digZ]
    split
    · exact Nat.le_trans (Nat.le_succ k) (digZ_ge l b f (k + 1))
    · exact Nat.le_refl _
theorem digN_le (r b : Int) (hb : b = 10 ∨ b = 16) : digN r b < b := by
  unfold digN
  rw [if_pos hb]
  split <;> omega
/-- One more digit, where the number is held. -/
theorem cap10 {T x d : Nat} (M : Nat) (h : x = min T M) : min (x * 10 + d) M = min (T * 10 + d) M := by subst h; omega
theorem cap16 {T x d : Nat} (M : Nat) (h : x = min T M) : min (x * 16 + d) M = min (T * 16 + d) M := by subst h; omega
/-- Numbers that are held are no characters, as those that are not. -/
theorem char_cap {T x : Nat} (M : Nat) (hM : 1114112 ≤ M) (h : x = min T M) : hasT charT (x : Int) = hasT charT (T : Int) := by
  rw [Bool.eq_iff_iff, charT_iff, charT_iff]
  subst h
  omega
theorem char_low {T x : Nat} (M : Nat) (hM : 1114112 ≤ M) (h : x = min T M) (hc : hasT charT (x : Int) = true) : x = T := by
  rw [charT_iff] at hc
  subst h
  omega

def noC (e : Int) : Value := .tuple #[.int .i64 0, .int .i64 0, .int .i64 e]
/-- Digits of base b, from place k on, and what is behind them. -/
def crefD (l : List UInt8) (b : Int) (k : Nat) : Value :=
  if digZ l b l.length k = k ∨ digZ l b l.length k = l.length ∨ byteAt l (digZ l b l.length k) ≠ 59 then noC 7
  else if hasT charT ((digT l b l.length k 0 : Nat) : Int) = false then noC 6
  else .tuple #[.int .i64 ((digT l b l.length k 0 : Nat) : Int), .int .i64 ((digZ l b l.length k : Nat) + 1), .int .i64 0]
/-- What Char tells. -/
def chV (l : List UInt8) (k : Int) : Value :=
  if k < 0 ∨ (l.length : Int) < k then noC 3
  else if l.length < k.toNat + 3 ∨ byteAt l k.toNat ≠ 38 ∨ byteAt l (k.toNat + 1) ≠ 35 then noC 7
  else if byteAt l (k.toNat + 2) = 120 then crefD l 16 (k.toNat + 3) else crefD l 10 (k.toNat + 2)
theorem crefD_tup (l : List UInt8) (b : Int) (k : Nat) : ∃ x y z, crefD l b k = .tuple #[.int .i64 x, .int .i64 y, .int .i64 z] := by
  unfold crefD noC
  split
  · exact ⟨_, _, _, rfl⟩
  · split <;> exact ⟨_, _, _, rfl⟩
theorem chV_tup (l : List UInt8) (k : Int) : ∃ x y z, chV l k = .tuple #[.int .i64 x, .int .i64 y, .int .i64 z] := by
  unfold chV
  split
  · exact ⟨_, _, _, rfl⟩
  · split
    · exact ⟨_, _, _, rfl⟩
    · split <;> exact crefD_tup _ _ _
theorem ret_c3 {a b c x y z : Int} (h1 : a = x) (h2 : b = y) (h3 : c = z) : Ending.returned (.tuple #[.int .i64 a, .int .i64 b, .int .i64 c]) = .returned (.tuple #[.int .i64 x, .int .i64 y, .int .i64 z]) := by rw [h1, h2, h3]
end Go.Proofs.YtdmfladcldkmeaaDoor
