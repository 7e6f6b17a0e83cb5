/- Contracts of package utf and of the document's own answers: bytes of one character. -/
import Derived.Test.YtdmfladcldkmeaaDoorUtfP
import Derived.Laws.BitsAllLaws
import Derived.Laws.BitsLemmas
namespace Go.Proofs.YtdmfladcldkmeaaDoor
open Go.ChangeShapes Go.WideShapes Go.ChangeAt Go.RowKit
set_option linter.unusedVariables false

theorem wraps_i64 (n : Int) (h₀ : 0 ≤ n) (h₁ : n < 2 ^ 63) : IntKind.i64.wrap n = n := by rw [IntKind.wrap_i64]; omega
theorem i64_and63 (x : Int) (h₀ : 0 ≤ x) (h₁ : x < 2 ^ 63) : bits .and .i64 x 63 = x % 64 := bits_mask .i64 63 (by decide) wraps_i64 6 (by decide) x h₀ h₁
theorem low_val (x : Int) (h0 : 0 ≤ x) (h : x < 2097152) : bits .or .u8 128 (bits .and .i64 x 63 % 256) = 128 + x % 64 := by
  rw [i64_and63 _ h0 (by omega), show x % 64 % 256 = x % 64 by omega, u8_or128 _ (by omega) (by omega)]

theorem low_any (x : Int) (w : World) (h0 : 0 ≤ x) (h : x < 2097152) :
    Calls Tryd.prog 181 #[.int .i64 x] w fun e w' => e = .returned (.int .u8 (128 + x % 64)) ∧ w = w' := by
  go_enter Tryd.func181, Tryd.ntmps181
  go_wp2
  go_ret
  exact ⟨by rw [← low_val x h0 h]; rfl, rfl⟩
def headS (c : Nat) : Nat × Nat :=
  if c < 128 then (1, c) else if c < 192 then (0, 0) else if c < 224 then (2, c % 32) else if c < 240 then (3, c % 16) else if c < 248 then (4, c % 8) else (0, 0)

theorem ret_ints {a b c d : Int} (h1 : a = c) (h2 : b = d) : Ending.returned (.tuple #[.int .i64 a, .int .i64 b]) = .returned (.tuple #[.int .i64 c, .int .i64 d]) := by rw [h1, h2]
set_option maxRecDepth 100000 in
set_option maxHeartbeats 400000 in
theorem head_any (c : Nat) (w : World) (hc : c < 256) :
    Calls Tryd.prog 182 #[.int .u8 c] w fun e w' => e = .returned (.tuple #[.int .i64 (headS c).1, .int .i64 (headS c).2]) ∧ w = w' := by
  have b1 := u8_and31 (c : Int) (by omega) (by omega)
  have b2 := u8_and15 (c : Int) (by omega) (by omega)
  have b3 := u8_and7 (c : Int) (by omega) (by omega)
  by_cases h1 : c < 128
  · go_enter Tryd.func182, Tryd.ntmps182
    go_wp2
    go_ret2
    exact ⟨ret_ints (by simp [headS, h1]) (by simp [headS, h1]), rfl⟩
  by_cases h2 : c < 192
  · go_enter Tryd.func182, Tryd.ntmps182
    go_wp2
    go_ret2
    exact ⟨ret_ints (by simp [headS, h2, h1]) (by simp [headS, h2, h1]), rfl⟩
  by_cases h3 : c < 224
  · go_enter Tryd.func182, Tryd.ntmps182
    go_wp2
    go_ret2
    exact ⟨ret_ints (by simp [headS, h3, h1, h2]) (by simp [headS, h3, h1, h2]), rfl⟩
  by_cases h4 : c < 240
  · go_enter Tryd.func182, Tryd.ntmps182
    go_wp2
    go_ret2
    exact ⟨ret_ints (by simp [headS, h4, h1, h2, h3]) (by simp [headS, h4, h1, h2, h3]), rfl⟩
  by_cases h5 : c < 248
  · go_enter Tryd.func182, Tryd.ntmps182
    go_wp2
    go_ret2
    exact ⟨ret_ints (by simp [headS, h5, h1, h2, h3, h4]) (by simp [headS, h5, h1, h2, h3, h4]), rfl⟩
  · go_enter Tryd.func182, Tryd.ntmps182
    go_wp2
    go_ret2
    exact ⟨ret_ints (by simp [headS, h1, h2, h3, h4, h5]) (by simp [headS, h1, h2, h3, h4, h5]), rfl⟩

theorem isR_true {r : Int} (h : isR r = true) : 0 ≤ r ∧ r ≤ 1114111 ∧ (r < 55296 ∨ 57343 < r) := by
  unfold isR at h; simp at h; omega
theorem isR_false {r : Int} (h : isR r = false) : r < 0 ∨ 1114111 < r ∨ (55296 ≤ r ∧ r ≤ 57343) := by
  unfold isR at h; simp at h; omega
theorem isR_mk {r : Int} {b : Bool} (h : b = true ↔ (0 ≤ r ∧ r ≤ 1114111 ∧ (r < 55296 ∨ 57343 < r))) : isR r = b := by
  rw [Bool.eq_iff_iff, h]; unfold isR; simp; omega

set_option maxHeartbeats 400000 in
theorem is_any (r : Int) (w : World) :
    Calls Tryd.prog 153 #[.int .i64 r] w fun e w' => e = .returned (.bool (isR r)) ∧ w = w' := by
  by_cases h1 : r < 0
  · go_enter Tryd.func153, Tryd.ntmps153
    go_wp2
    go_ret
    exact ⟨ret_bool (isR_mk (by simp; omega)).symm, rfl⟩
  by_cases h2 : 1114111 < r
  · go_enter Tryd.func153, Tryd.ntmps153
    go_wp2
    go_ret
    exact ⟨ret_bool (isR_mk (by simp; omega)).symm, rfl⟩
  by_cases h3 : r < 55296
  · go_enter Tryd.func153, Tryd.ntmps153
    go_wp2
    go_ret
    exact ⟨ret_bool (isR_mk (by simp; omega)).symm, rfl⟩
  by_cases h4 : 57343 < r
  all_goals
    go_enter Tryd.func153, Tryd.ntmps153
    go_wp2
    go_ret
    exact ⟨ret_bool (isR_mk (by simp; omega)).symm, rfl⟩

set_option maxHeartbeats 400000 in
theorem ris_any (r : Int) (w : World) :
    Calls Tryd.prog 160 #[.int .i64 r] w fun e w' => e = .returned (.bool (isR r)) ∧ w = w' := by
  by_cases h1 : r < 0
  · go_enter Tryd.func160, Tryd.ntmps160
    go_wp2
    go_ret
    exact ⟨ret_bool (isR_mk (by simp; omega)).symm, rfl⟩
  by_cases h2 : 1114111 < r
  · go_enter Tryd.func160, Tryd.ntmps160
    go_wp2
    go_ret
    exact ⟨ret_bool (isR_mk (by simp; omega)).symm, rfl⟩
  by_cases h3 : r < 55296
  · go_enter Tryd.func160, Tryd.ntmps160
    go_wp2
    go_ret
    exact ⟨ret_bool (isR_mk (by simp; omega)).symm, rfl⟩
  by_cases h4 : 57343 < r
  all_goals
    go_enter Tryd.func160, Tryd.ntmps160
    go_wp2
    go_ret
    exact ⟨ret_bool (isR_mk (by simp; omega)).symm, rfl⟩
end Go.Proofs.YtdmfladcldkmeaaDoor
