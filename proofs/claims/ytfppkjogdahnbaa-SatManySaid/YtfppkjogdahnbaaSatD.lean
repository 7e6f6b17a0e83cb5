/- The walks of the three statements of package sat. -/
import Derived.Test.YtfppkjogdahnbaaSatC
namespace Go.Proofs.Ytfppkjogdahnbaa
open Go.ChangeShapes Go.WideShapes Go.ChangeAt Go.RowKit

theorem holdS_nn (a : Int) : 0 ≤ holdS a := by unfold holdS; split <;> omega
theorem capS_nn {z : Int} (h : 0 ≤ z) : 0 ≤ capS z := (capS_bd h).1
theorem addS_capS (a b : Int) : addS a b = capS (holdS a + holdS b) := by unfold addS capS CAP; repeat (split <;> try omega)
theorem hold_cap {z : Int} (h : 0 ≤ z) : holdS (capS z) = capS z := by have := capS_nn h; unfold holdS; rw [if_neg (by omega)]
theorem cap_add {p q : Int} (_hp : 0 ≤ p) (hq : 0 ≤ q) : capS (capS p + q) = capS (p + q) := by unfold capS CAP; repeat (split <;> try omega)
theorem cap_add' {p q : Int} (hp : 0 ≤ p) (_hq : 0 ≤ q) : capS (p + capS q) = capS (p + q) := by unfold capS CAP; repeat (split <;> try omega)
theorem cap_mul {p z : Int} (hz : 0 ≤ z) : capS (capS p * z) = capS (p * z) := by
  by_cases h : CAP < p
  · rw [show capS p = CAP from if_pos h]
    rcases Int.lt_or_eq_of_le hz with h1 | h1
    · have e1 : CAP ≤ CAP * z := by have h2 : CAP * 1 ≤ CAP * z := Int.mul_le_mul_of_nonneg_left (show (1 : Int) ≤ z by omega) (by unfold CAP; omega); omega
      have e2 : CAP < p * z := by
        have h2 : p * 1 ≤ p * z := Int.mul_le_mul_of_nonneg_left (show (1 : Int) ≤ z by omega) (by unfold CAP at h; omega); omega
      rw [show capS (p * z) = CAP from if_pos e2]
      unfold capS
      split <;> omega
    · rw [← h1]; simp
  · rw [show capS p = p from if_neg h]
theorem add_comm_ (a b : Int) : addS b a = addS a b := by rw [addS_capS, addS_capS, Int.add_comm]
theorem mul_comm_ (a b : Int) : mulS b a = mulS a b := by unfold mulS; rw [Int.mul_comm]
theorem add_assoc_ (a b c : Int) : addS a (addS b c) = addS (addS a b) c := by
  rw [addS_capS a, addS_capS (addS a b) c, addS_capS a b, addS_capS b c]
  have ha := holdS_nn a; have hb := holdS_nn b; have hc := holdS_nn c
  rw [hold_cap (by omega), hold_cap (by omega), cap_add (by omega) hc, cap_add' ha (by omega), Int.add_assoc]
theorem mul_assoc_ (a b c : Int) : mulS a (mulS b c) = mulS (mulS a b) c := by
  have ha := holdS_nn a; have hb := holdS_nn b; have hc := holdS_nn c
  unfold mulS
  rw [hold_cap (Int.mul_nonneg hb hc), hold_cap (Int.mul_nonneg ha hb), cap_mul hc, Int.mul_comm (holdS a) (capS _), cap_mul ha, Int.mul_comm _ (holdS a), Int.mul_assoc]
theorem mul_dist_ (a b c : Int) : mulS a (addS b c) = addS (mulS a b) (mulS a c) := by
  have ha := holdS_nn a; have hb := holdS_nn b; have hc := holdS_nn c
  rw [addS_capS (mulS a b), addS_capS b]
  unfold mulS
  rw [hold_cap (by omega), hold_cap (Int.mul_nonneg ha hb), hold_cap (Int.mul_nonneg ha hc), cap_add (Int.mul_nonneg ha hb) (capS_nn (Int.mul_nonneg ha hc)),
    cap_add' (Int.mul_nonneg ha hb) (Int.mul_nonneg ha hc), Int.mul_comm (holdS a) (capS _), cap_mul ha, Int.mul_comm _ (holdS a), Int.mul_add]
theorem i64_addS (a b : Int) : I64 (addS a b) := by
  rw [addS_capS]; have := capS_bd (z := holdS a + holdS b) (by have := holdS_nn a; have := holdS_nn b; omega); unfold I64; omega
theorem i64_mulS (a b : Int) : I64 (mulS a b) := by
  unfold mulS; have := capS_bd (Int.mul_nonneg (holdS_nn a) (holdS_nn b)); unfold I64; omega

set_option maxHeartbeats 400000 in
theorem satTells_any (a b : Int) (w : World) (ha : I64 a) (hb : I64 b) :
    Calls Try.prog 3 #[.int .i64 a, .int .i64 b] w fun e w' => e = .returned (.bool true) ∧ w = w' := by
  go_enter Try.func3, Try.ntmps3
  go_wp2_with (first
    | (go_at_call 12; refine (hold_any _ _).mono ?_; rintro e w' ⟨rfl, rfl⟩)
    | (go_at_call 13; refine (rhold_any _ _).mono ?_; rintro e w' ⟨rfl, rfl⟩)
    | (go_at_call 14; refine (add_any _ _ _ ha hb).mono ?_; rintro e w' ⟨rfl, rfl⟩)
    | (go_at_call 15; refine (radd_any _ _ _ ha hb).mono ?_; rintro e w' ⟨rfl, rfl⟩)
    | (go_at_call 16; refine (sub_any _ _ _ ha hb).mono ?_; rintro e w' ⟨rfl, rfl⟩)
    | (go_at_call 17; refine (rsub_any _ _ _ ha hb).mono ?_; rintro e w' ⟨rfl, rfl⟩)
    | (go_at_call 18; refine (mul_any _ _ _ ha hb).mono ?_; rintro e w' ⟨rfl, rfl⟩)
    | (go_at_call 19; refine (rmul_any _ _ _ ha hb).mono ?_; rintro e w' ⟨rfl, rfl⟩)
    | (go_at_call 20; refine (live01_any _).mono ?_; rintro e w' ⟨rfl, rfl⟩))
  go_ret
  exact ⟨rfl, rfl⟩

set_option maxHeartbeats 1000000 in
theorem satOrder_any (a b c : Int) (w : World) (ha : I64 a) (hb : I64 b) (hc : I64 c) :
    Calls Try.prog 5 #[.int .i64 a, .int .i64 b, .int .i64 c] w fun e w' => e = .returned (.bool true) ∧ w = w' := by
  have e1 := add_comm_ a b
  have e2 := mul_comm_ a b
  have e3 := add_assoc_ a b c
  have e4 := mul_assoc_ a b c
  have e5 := mul_dist_ a b c
  have l1 : holdS a ≤ addS a b := by have := ha.2; unfold addS holdS CAP; repeat (split <;> try omega)
  have l2 : holdS b ≤ addS a b := by have := hb.2; unfold addS holdS CAP; repeat (split <;> try omega)
  have l3 : subS a b ≤ holdS a := by unfold subS holdS; repeat (split <;> try omega)
  go_enter Try.func5, Try.ntmps5
  go_wp2_with (first
    | (go_at_call 12; refine (hold_any _ _).mono ?_; rintro e w' ⟨rfl, rfl⟩)
    | (go_at_call 14; refine (add_any _ _ _ (by first | assumption | exact i64_addS _ _ | exact i64_mulS _ _) (by first | assumption | exact i64_addS _ _ | exact i64_mulS _ _)).mono ?_; rintro e w' ⟨rfl, rfl⟩)
    | (go_at_call 16; refine (sub_any _ _ _ ha hb).mono ?_; rintro e w' ⟨rfl, rfl⟩)
    | (go_at_call 18; refine (mul_any _ _ _ (by first | assumption | exact i64_addS _ _ | exact i64_mulS _ _) (by first | assumption | exact i64_addS _ _ | exact i64_mulS _ _)).mono ?_; rintro e w' ⟨rfl, rfl⟩)
    | (go_at_call 20; refine (live01_any _).mono ?_; rintro e w' ⟨rfl, rfl⟩))
  go_ret
  exact ⟨rfl, rfl⟩

def totS (l : List Int) : Int := (l.map holdS).sum
theorem totS_nn (l : List Int) : 0 ≤ totS l := by
  unfold totS
  induction l with
  | nil => simp
  | cons x l ih => simp only [List.map_cons, List.sum_cons]; have := holdS_nn x; omega
theorem fold_tot (l : List Int) (p : Int) (hp : 0 ≤ p) : l.foldl addS (capS p) = capS (p + totS l) := by
  induction l generalizing p with
  | nil => simp [totS]
  | cons x l ih =>
    have hx := holdS_nn x
    rw [List.foldl_cons, addS_capS, hold_cap hp, cap_add hp hx, ih _ (by omega)]
    simp only [totS, List.map_cons, List.sum_cons, Int.add_assoc]
theorem sumS_tot (l : List Int) : sumS l = capS (totS l) := by
  have := fold_tot l 0 (by omega)
  rw [Int.zero_add] at this
  exact this
theorem sum_parts (l : List Int) (k : Nat) : addS (sumS (l.take k)) (sumS (l.drop k)) = sumS l := by
  rw [sumS_tot, sumS_tot, sumS_tot, addS_cap (totS_nn _) (totS_nn _)]
  congr 1
  unfold totS
  rw [← List.sum_append, ← List.map_append, List.take_append_drop]

theorem i64_sumS (l : List Int) : I64 (sumS l) := by have := sumS_bd l; unfold I64; omega

set_option maxHeartbeats 1000000 in
theorem satMany_any (l : List Int) (a n : Int) (A : Option Addr) (m c : Nat) (w : World) (ha : I64 a) (hn : I64 n) (hm : l.length = m) (hmc : m ≤ c) (hc : c ≤ 9223372036854775807) (hl : ∀ x ∈ l, I64 x) (hs : Sees w A (vI l)) :
    Calls Try.prog 4 #[.slice A m c, .int .i64 a, .int .i64 n] w fun e w' => e = .returned (.bool true) ∧ ∃ k, w' = w.drewN k := by
  have HM := Lib.hid hm
  clear hm
  by_cases h100 : 100 < m
  · go_enter Try.func4, Try.ntmps4
    go_wp2_with (go_at_call 20; refine (live01_any _).mono ?_; rintro e w' ⟨rfl, rfl⟩)
    go_ret
    exact ⟨rfl, 0, rfl⟩
  · go_enter Try.func4, Try.ntmps4
    go_wp2_with fail
    go_loopw [7] (fun i wr => ∃ k nq : Nat, k ≤ m + 1 ∧ i = .int .i64 k ∧ wr = w.drewN nq) (fun i _ => m + 1 - (intOf i).toNat)
    case atStart => exact ⟨0, 0, by omega, rfl, rfl⟩
    case round =>
      obtain ⟨k, nq0, hk, rfl, rfl⟩ := hrel
      by_cases hlt : k ≤ m
      · have HP := Lib.hid (sum_parts l k)
        have hdec : (addS (sumS (l.take k)) (sumS (l.drop k)) != sumS l) = false := by rw [HP.out]; simp
        have q1 := Lib.hid (hs.take k)
        have q2 := Lib.hid (hs.drop (k := k) (cap := c) (by rw [vI_len, HM.out]; exact hmc))
        have e1 := Lib.hid (show (l.take k).length = k by rw [List.length_take, HM.out]; omega)
        have e2 := Lib.hid (show (l.drop k).length = m - k by rw [List.length_drop, HM.out])
        have b0 : (0 : Int) ≤ (k : Int) := by omega
        have b1 : (k : Int) ≤ (c : Int) := by omega
        have b2 : (k : Int) ≤ (m : Int) := by omega
        go_wp2_with fail
        go_quiet ((first
          | (go_at_call 21; with_reducible exact quiet_ll (sum_any (l.take k) _ _ _ _ e1.out (by omega) (fun x hx => hl x (List.mem_of_mem_take hx)) (by rw [vI_take]; exact q1.out.drewN _)))
          | (go_at_call 21; with_reducible exact quiet_ll (sum_any (l.drop k) _ _ _ _ e2.out (by omega) (fun x hx => hl x (List.mem_of_mem_drop hx)) (by rw [vI_drop]; exact q2.out.drewN _)))
          | (go_at_call 22; with_reducible exact quiet_ll (rsum_any l _ _ _ _ HM.out (by omega) hl (hs.drewN _)))
          | (go_at_call 14; with_reducible exact quiet_ll (add_any _ _ _ (i64_sumS _) (i64_sumS _)))))
        go_wp2_with fail
        go_roundw
        case rel => exact ⟨k + 1, _, by omega, by go_num, rfl⟩
        case measure => simp [intOf]; omega
      · go_wp2_with (first
          | (go_at_call 21; refine (sum_any l _ _ _ _ HM.out (by omega) hl (hs.drewN _)).mono ?_; rintro e w' ⟨rfl, rfl⟩)
          | (go_at_call 22; refine (rsum_any l _ _ _ _ HM.out (by omega) hl (hs.drewN _)).mono ?_; rintro e w' ⟨rfl, rfl⟩)
          | (go_at_call 23; refine (pow_any _ _ _ ha hn).mono ?_; rintro e w' ⟨rfl, rfl⟩)
          | (go_at_call 24; refine (rpow_any _ _ _ ha hn).mono ?_; rintro e w' ⟨rfl, rfl⟩)
          | (go_at_call 20; refine (live01_any _).mono ?_; rintro e w' ⟨rfl, rfl⟩))
        go_ret
        exact ⟨rfl, _, rfl⟩
end Go.Proofs.Ytfppkjogdahnbaa
