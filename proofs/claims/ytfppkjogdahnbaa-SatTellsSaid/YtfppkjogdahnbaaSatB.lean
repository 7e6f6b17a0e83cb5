/- Differences and products that are held: the contracts of sat.Sub, sat.Mul and of the document's own answers. -/
import Derived.Test.YtfppkjogdahnbaaSatA
namespace Go.Proofs.Ytfppkjogdahnbaa
open Go.ChangeShapes Go.WideShapes Go.ChangeAt Go.RowKit

/-- A number that is not below 0, at most the greatest int. -/
def capS (z : Int) : Int := if CAP < z then CAP else z
def mulS (a b : Int) : Int := capS (holdS a * holdS b)

theorem subS_eq (a b : Int) : subS a b = holdS (holdS a - holdS b) := by
  unfold subS holdS; repeat (split <;> try omega)
theorem mul_le_cap (x y : Int) (hy : 0 < y) : x ≤ 9223372036854775807 / y ↔ x * y ≤ 9223372036854775807 := Int.le_ediv_iff_mul_le hy

set_option maxHeartbeats 400000 in
theorem sub_any (a b : Int) (w : World) (ha : I64 a) (hb : I64 b) :
    Calls Try.prog 16 #[.int .i64 a, .int .i64 b] w fun e w' => e = .returned (.int .i64 (subS a b)) ∧ w = w' := by
  have hx := holdS_bd a ha.2
  have hy := holdS_bd b hb.2
  obtain ⟨hx1, hx2⟩ := hx
  obtain ⟨hy1, hy2⟩ := hy
  unfold CAP at hx2 hy2
  go_enter Try.func16, Try.ntmps16
  go_wp2_with (go_at_call 12; refine (hold_any _ _).mono ?_; rintro e w' ⟨rfl, rfl⟩)
  go_ret
  exact ⟨ret_int (subS_eq a b).symm, rfl⟩

set_option maxHeartbeats 400000 in
theorem rsub_any (a b : Int) (w : World) (ha : I64 a) (hb : I64 b) :
    Calls Try.prog 17 #[.int .i64 a, .int .i64 b] w fun e w' => e = .returned (.int .i64 (subS a b)) ∧ w = w' := by
  have hx := holdS_bd a ha.2
  have hy := holdS_bd b hb.2
  obtain ⟨hx1, hx2⟩ := hx
  obtain ⟨hy1, hy2⟩ := hy
  unfold CAP at hx2 hy2
  go_enter Try.func17, Try.ntmps17
  go_wp2_with (go_at_call 13; refine (rhold_any _ _).mono ?_; rintro e w' ⟨rfl, rfl⟩)
  all_goals
    go_ret
    exact ⟨ret_int (by unfold subS; split <;> omega), rfl⟩

theorem cap_any (w : World) :
    Calls Try.prog 49 #[] w fun e w' => e = .returned (.int .i64 9223372036854775807) ∧ w = w' := by
  go_enter Try.func49, Try.ntmps49
  go_wp2
  go_ret
  exact ⟨rfl, rfl⟩

theorem mulS_le {a b : Int} (h : holdS a * holdS b ≤ 9223372036854775807) : mulS a b = holdS a * holdS b := by
  unfold mulS capS CAP; rw [if_neg (by omega)]
theorem mulS_gt {a b : Int} (h : 9223372036854775807 < holdS a * holdS b) : mulS a b = 9223372036854775807 := by
  unfold mulS capS CAP; rw [if_pos h]

set_option maxHeartbeats 400000 in
theorem mul_any (a b : Int) (w : World) (ha : I64 a) (hb : I64 b) :
    Calls Try.prog 18 #[.int .i64 a, .int .i64 b] w fun e w' => e = .returned (.int .i64 (mulS a b)) ∧ w = w' := by
  have hx := holdS_bd a ha.2
  have hy := holdS_bd b hb.2
  obtain ⟨hx1, hx2⟩ := hx
  obtain ⟨hy1, hy2⟩ := hy
  unfold CAP at hx2 hy2
  have hm0 : 0 ≤ holdS a * holdS b := Int.mul_nonneg hx1 hy1
  by_cases h0 : holdS b = 0
  · have e0 : mulS a b = 0 := by rw [mulS_le (by rw [h0]; omega), h0]; omega
    have H := Lib.hid e0
    clear e0
    go_enter Try.func18, Try.ntmps18
    go_wp2_with (go_at_call 12; refine (hold_any _ _).mono ?_; rintro e w' ⟨rfl, rfl⟩)
    go_ret
    exact ⟨ret_int (by rw [H.out]), rfl⟩
  · have h0' : 1 ≤ holdS b := by omega
    have h00 : ((holdS b) == 0) = false := by simpa using h0
    have hml := mul_le_cap (holdS a) (holdS b) (by omega)
    by_cases h1 : 9223372036854775807 / holdS b < holdS a
    · have h2 : 9223372036854775807 < holdS a * holdS b := by omega
      have H := Lib.hid (mulS_gt h2)
      clear hml h0
      go_enter Try.func18, Try.ntmps18
      go_wp2_with (first | (go_at_call 12; refine (hold_any _ _).mono ?_; rintro e w' ⟨rfl, rfl⟩) | (go_at_call 49; refine (cap_any _).mono ?_; rintro e w' ⟨rfl, rfl⟩))
      go_ret
      exact ⟨ret_int (by rw [H.out]), rfl⟩
    · have h2 : holdS a * holdS b ≤ 9223372036854775807 := by omega
      have H := Lib.hid (mulS_le h2)
      clear hml h0
      go_enter Try.func18, Try.ntmps18
      go_wp2_with (first | (go_at_call 12; refine (hold_any _ _).mono ?_; rintro e w' ⟨rfl, rfl⟩) | (go_at_call 49; refine (cap_any _).mono ?_; rintro e w' ⟨rfl, rfl⟩))
      go_ret
      exact ⟨ret_int (by rw [H.out]), rfl⟩

theorem capS_bd {z : Int} (h : 0 ≤ z) : 0 ≤ capS z ∧ capS z ≤ 9223372036854775807 := by
  unfold capS CAP; split <;> omega
theorem addS_cap {p q : Int} (hp : 0 ≤ p) (hq : 0 ≤ q) : addS (capS p) (capS q) = capS (p + q) := by
  unfold addS holdS capS CAP; repeat (split <;> try omega)
theorem addS_cap' {p q : Int} (hp : 0 ≤ p) (hq : 0 ≤ q) (hq' : q ≤ 9223372036854775807) : addS (capS p) q = capS (p + q) := by
  unfold addS holdS capS CAP; repeat (split <;> try omega)
theorem half_even {x : Int} {k : Nat} (h : (x / 2 ^ k) % 2 = 0) : x / 2 ^ k = 2 * (x / 2 ^ (k + 1)) := by
  have : x / 2 ^ (k + 1) = x / 2 ^ k / 2 := by rw [Int.pow_succ, Int.ediv_ediv_of_nonneg (Int.pow_nonneg (by omega))]
  omega
theorem half_odd {x : Int} {k : Nat} (h : (x / 2 ^ k) % 2 = 1) : x / 2 ^ k = 2 * (x / 2 ^ (k + 1)) + 1 := by
  have : x / 2 ^ (k + 1) = x / 2 ^ k / 2 := by rw [Int.pow_succ, Int.ediv_ediv_of_nonneg (Int.pow_nonneg (by omega))]
  omega
theorem mulAt_zero {x y : Int} (h0 : 0 ≤ x) (h : x ≤ 9223372036854775807) : capS (x / 2 ^ 63 * y) = 0 := by
  have : x / 2 ^ 63 = 0 := Int.ediv_eq_zero_of_lt h0 (by omega)
  rw [this, Int.zero_mul]; rfl
theorem mulAt_even {x y : Int} {k : Nat} (hx : 0 ≤ x) (hy : 0 ≤ y) (h : (x / 2 ^ k) % 2 = 0) :
    addS (capS (x / 2 ^ (k + 1) * y)) (capS (x / 2 ^ (k + 1) * y)) = capS (x / 2 ^ k * y) := by
  have hp : 0 ≤ x / 2 ^ (k + 1) * y := Int.mul_nonneg (Int.ediv_nonneg hx (Int.pow_nonneg (by omega))) hy
  rw [addS_cap hp hp, half_even h, Int.mul_assoc, Int.two_mul]
theorem mulAt_odd {x y : Int} {k : Nat} (hx : 0 ≤ x) (hy : 0 ≤ y) (hy' : y ≤ 9223372036854775807) (h : (x / 2 ^ k) % 2 = 1) :
    addS (addS (capS (x / 2 ^ (k + 1) * y)) (capS (x / 2 ^ (k + 1) * y))) y = capS (x / 2 ^ k * y) := by
  have hp : 0 ≤ x / 2 ^ (k + 1) * y := Int.mul_nonneg (Int.ediv_nonneg hx (Int.pow_nonneg (by omega))) hy
  rw [addS_cap hp hp, addS_cap' (by omega) hy hy', half_odd h, Int.add_mul, Int.one_mul, Int.mul_assoc, Int.two_mul]

set_option maxHeartbeats 400000 in
theorem rmul_any (a b : Int) (w : World) (ha : I64 a) (hb : I64 b) :
    Calls Try.prog 19 #[.int .i64 a, .int .i64 b] w fun e w' => e = .returned (.int .i64 (mulS a b)) ∧ w = w' := by
  have hx := holdS_bd a ha.2
  have hy := holdS_bd b hb.2
  obtain ⟨hx1, hx2⟩ := hx
  obtain ⟨hy1, hy2⟩ := hy
  unfold CAP at hx2 hy2
  go_enter Try.func19, Try.ntmps19
  go_wp2_with (go_at_call 13; refine (rhold_any _ _).mono ?_; rintro e w' ⟨rfl, rfl⟩)
  go_loop [7, 8] (fun s i => ∃ k : Nat, k ≤ 63 ∧ i = .int .i64 ((k : Int) - 1) ∧ s = .int .i64 (capS (holdS a / 2 ^ k * holdS b))) (fun _ i => (intOf i + 1).toNat)
  case atStart => exact ⟨63, by omega, rfl, by rw [mulAt_zero hx1 hx2]⟩
  case round =>
    obtain ⟨k, hk, rfl, rfl⟩ := hrel
    have hd : 0 ≤ holdS a / 2 ^ k * holdS b := Int.mul_nonneg (Int.ediv_nonneg hx1 (Int.pow_nonneg (by omega))) hy1
    obtain ⟨hc1, hc2⟩ := capS_bd hd
    clear hd
    cases k with
    | succ k =>
      have hc3 := addS_bd (capS (holdS a / 2 ^ (k + 1) * holdS b)) (capS (holdS a / 2 ^ (k + 1) * holdS b)) hc2 hc2
      obtain ⟨hc4, hc5⟩ := hc3
      unfold CAP at hc5
      have hq : 0 ≤ holdS a / 2 ^ k := Int.ediv_nonneg hx1 (Int.pow_nonneg (by omega))
      have hdec : holdS a / 2 ^ k % 2 = 0 ∨ holdS a / 2 ^ k % 2 = 1 := by omega
      rcases hdec with h | h
      · have H := Lib.hid (mulAt_even hx1 hy1 h)
        have H0 := Lib.hid h
        have hb2 : (holdS a / 2 ^ k % 2 == 1) = false := by rw [h]; rfl
        clear h
        go_wp2_with (go_at_call 15; refine (radd_any _ _ _ ⟨by omega, by omega⟩ ⟨by omega, by omega⟩).mono ?_; rintro e w' ⟨rfl, rfl⟩)
        go_round
        case rel => exact ⟨k, by omega, by go_num, by rw [H.out]⟩
        case measure => simp [intOf]
      · have H := Lib.hid (mulAt_odd hx1 hy1 hy2 h)
        have H0 := Lib.hid h
        have hb2 : (holdS a / 2 ^ k % 2 == 1) = true := by rw [h]; rfl
        clear h
        go_wp2_with (go_at_call 15; refine (radd_any _ _ _ ⟨by omega, by omega⟩ ⟨by omega, by omega⟩).mono ?_; rintro e w' ⟨rfl, rfl⟩)
        go_round
        case rel => exact ⟨k, by omega, by go_num, by rw [H.out]⟩
        case measure => simp [intOf]
    | zero =>
      go_wp2
      go_ret
      exact ⟨ret_int (by unfold mulS; simp), rfl⟩
end Go.Proofs.Ytfppkjogdahnbaa
