/- Contracts: the classes together; whether a number is of a class; the function of a class. -/
import Derived.Test.YtgbbccfoceifnaaDoorChb
import Derived.Test.YtgbbccfoceifnaaDoorChc
import Derived.Test.YtgbbccfoceifnaaDoorChd
namespace Go.Proofs.YtgbbccfoceifnaaDoor
open Go.ChangeShapes Go.WideShapes Go.ChangeAt Go.RowKit
set_option linter.unusedVariables false
set_option maxRecDepth 100000

/-- Whether a number is of the k-th class. -/
def cls (r : Int) : Nat → Bool
  | 0 => hasT charT r
  | 1 => blankB r
  | 2 => hasT startT r
  | 3 => hasT followT r || hasT startT r
  | _ => hasT pubidT r
def bitN (b : Bool) (v : Nat) : Nat := match b with | true => v | false => 0
def sumN (r : Int) : Nat → Nat
  | 0 => 0
  | k + 1 => sumN r k + bitN (cls r k) (2 ^ k)
theorem bitN_le (b : Bool) (v : Nat) : bitN b v ≤ v := by cases b <;> simp [bitN]
theorem sumN_lt (r : Int) : ∀ k, sumN r k < 2 ^ k
  | 0 => by simp [sumN]
  | k + 1 => by have := sumN_lt r k; have := bitN_le (cls r k) (2 ^ k); rw [sumN, Nat.pow_succ]; omega
theorem bor_all : ∀ k < 5, ∀ m < 2 ^ k, bits .or .i64 ((m : Nat) : Int) ((2 ^ k : Nat) : Int) = ((m + 2 ^ k : Nat) : Int) := by decide

theorem blankB_any (r : Int) (w : World) :
    Calls Tryd.prog 90 #[.int .i64 r] w fun e w' => e = .returned (.bool (blankB r)) ∧ Below w.heap.size w w' :=
  (blank_any r w).mono (by rintro e w' ⟨h, rfl⟩; exact ⟨h, Below.refl _ _⟩)


set_option maxRecDepth 100000 in
set_option maxHeartbeats 2000000 in
theorem rclasses_any (r : Int) (w : World) :
    Calls Tryd.prog 145 #[.int .i64 r] w fun e w' => e = .returned (.int .i64 (sumN r 5)) ∧ w = w' := by
  have H := show sumN r 5 = bitN (cls r 0) 1 + bitN (cls r 1) 2 + bitN (cls r 2) 4 + bitN (cls r 3) 8 + bitN (cls r 4) 16 by simp [sumN]
  have C0 := show ∀ w : World, Calls Tryd.prog 120 #[.int .i64 r] w fun e w' => e = .returned (.bool (cls r 0)) ∧ w = w' from rchar3_any r
  have C1 := show ∀ w : World, Calls Tryd.prog 93 #[.int .i64 r] w fun e w' => e = .returned (.bool (cls r 1)) ∧ w = w' from rblank_any r
  have C2 := show ∀ w : World, Calls Tryd.prog 158 #[.int .i64 r] w fun e w' => e = .returned (.bool (cls r 2)) ∧ w = w' from rstart_any r
  have C3 := show ∀ w : World, Calls Tryd.prog 157 #[.int .i64 r] w fun e w' => e = .returned (.bool (cls r 3)) ∧ w = w' from rname_any r
  have C4 := show ∀ w : World, Calls Tryd.prog 173 #[.int .i64 r] w fun e w' => e = .returned (.bool (cls r 4)) ∧ w = w' from rpubid_any r
  obtain ⟨q0, h0⟩ : ∃ q, cls r 0 = q := ⟨_, rfl⟩
  obtain ⟨q1, h1⟩ : ∃ q, cls r 1 = q := ⟨_, rfl⟩
  obtain ⟨q2, h2⟩ : ∃ q, cls r 2 = q := ⟨_, rfl⟩
  obtain ⟨q3, h3⟩ : ∃ q, cls r 3 = q := ⟨_, rfl⟩
  obtain ⟨q4, h4⟩ : ∃ q, cls r 4 = q := ⟨_, rfl⟩
  rw [h0] at H C0; rw [h1] at H C1; rw [h2] at H C2; rw [h3] at H C3; rw [h4] at H C4
  have G := Lib.hid H
  have K0 := Lib.hid C0; have K1 := Lib.hid C1; have K2 := Lib.hid C2; have K3 := Lib.hid C3; have K4 := Lib.hid C4
  clear H C0 C1 C2 C3 C4 h0 h1 h2 h3 h4
  have one_call : ∀ (b : Bool) (w : World), Calls Tryd.prog 172 #[.bool b] w fun e w' => e = .returned (.int .i64 (bitN b 1)) ∧ w = w' := fun b w => (one_any b w).mono (by rintro e w' ⟨rfl, rfl⟩; cases b <;> exact ⟨rfl, rfl⟩)
  have ONE := Lib.hid one_call
  clear one_call
  have E : ∀ b : Bool, ∀ v : Nat, bitN b v = v * bitN b 1 := by intro b v; cases b <;> simp [bitN]
  have b0 := bitN_le q0 1; have b1 := bitN_le q1 1; have b2 := bitN_le q2 1; have b3 := bitN_le q3 1; have b4 := bitN_le q4 1
  rw [G.out, E q1 2, E q2 4, E q3 8, E q4 16]
  clear E
  have G := True.intro
  go_enter Tryd.func145, Tryd.ntmps145
  go_wp2_with (first
    | (go_at_call 172; refine (ONE.out _ _).mono ?_; rintro e w1 ⟨rfl, rfl⟩)
    | (go_at_call 120; refine (K0.out _).mono ?_; rintro e w1 ⟨rfl, rfl⟩)
    | (go_at_call 93; refine (K1.out _).mono ?_; rintro e w1 ⟨rfl, rfl⟩)
    | (go_at_call 158; refine (K2.out _).mono ?_; rintro e w1 ⟨rfl, rfl⟩)
    | (go_at_call 157; refine (K3.out _).mono ?_; rintro e w1 ⟨rfl, rfl⟩)
    | (go_at_call 173; refine (K4.out _).mono ?_; rintro e w1 ⟨rfl, rfl⟩))
  go_ret
  exact ⟨ret_int (by omega), rfl⟩

theorem cls_of (r : Int) (k : Nat) (hk : k < 5) : (sumN r 5 / 2 ^ k) % 2 = bitN (cls r k) 1 := by
  have H := show sumN r 5 = bitN (cls r 0) 1 + bitN (cls r 1) 2 + bitN (cls r 2) 4 + bitN (cls r 3) 8 + bitN (cls r 4) 16 by simp [sumN]
  rw [H]
  have D : k = 0 ∨ k = 1 ∨ k = 2 ∨ k = 3 ∨ k = 4 := by omega
  clear H hk
  rcases D with rfl | rfl | rfl | rfl | rfl
  all_goals
    generalize cls r 0 = q0; generalize cls r 1 = q1; generalize cls r 2 = q2; generalize cls r 3 = q3; generalize cls r 4 = q4
    cases q0 <;> cases q1 <;> cases q2 <;> cases q3 <;> cases q4 <;> rfl

set_option maxRecDepth 100000 in
set_option maxHeartbeats 2000000 in
theorem rcls_any (n : Nat) (hn : n < 5) (r : Int) (w : World) :
    Calls Tryd.prog 116 #[.int .i64 n, .int .i64 r] w fun e w' => e = .returned (.bool (cls r n)) ∧ w = w' := by
  have HC := Lib.hid (rclasses_any r)
  have HE := Lib.hid (cls_of r n hn)
  obtain ⟨q, hq⟩ : ∃ q, cls r n = q := ⟨_, rfl⟩
  rw [hq] at HE
  rw [hq]
  have hlt := sumN_lt r 5
  obtain ⟨m, hm⟩ : ∃ m, sumN r 5 = m := ⟨_, rfl⟩
  rw [hm] at HC HE hlt
  clear hq hm
  go_enter Tryd.func116, Tryd.ntmps116
  go_wp2_with (go_at_call 145; refine (HC.out _).mono ?_; rintro e w1 ⟨rfl, rfl⟩)
  go_loop [5, 6] (fun v i => ∃ k : Nat, k ≤ n ∧ i = .int .i64 k ∧ v = .int .i64 ((m / 2 ^ k : Nat) : Int)) (fun _ i => n - (intOf i).toNat)
  case atStart => exact ⟨0, by omega, rfl, by simp⟩
  case round =>
    obtain ⟨k, hk, rfl, rfl⟩ := hrel
    have h2 : m / 2 ^ (k + 1) = m / 2 ^ k / 2 := by rw [Nat.pow_succ, Nat.div_div_eq_div_mul]
    have H2 := Lib.hid h2
    have hv : m / 2 ^ k ≤ m := Nat.div_le_self _ _
    clear h2
    by_cases hkn : k < n
    · obtain ⟨v, hv'⟩ : ∃ v, m / 2 ^ k = v := ⟨_, rfl⟩
      rw [hv'] at H2 hv ⊢
      clear hv'
      go_wp2_with fail
      go_round
      case rel => exact ⟨k + 1, by omega, by go_num, by rw [H2.out]; first | rfl | simp⟩
      case measure => simp [intOf]; omega
    · obtain rfl : k = n := by omega
      have hE := HE.out
      obtain ⟨v, hv'⟩ : ∃ v, m / 2 ^ k = v := ⟨_, rfl⟩
      rw [hv'] at hE hv ⊢
      have HE2 := Lib.hid hE
      clear hv' hE HE H2
      go_wp2_with fail
      go_ret
      have hE := HE2.out
      refine ⟨ret_bool ?_, rfl⟩
      cases q
      · simp [bitN] at hE; simp; omega
      · simp [bitN] at hE; simp; omega
end Go.Proofs.YtgbbccfoceifnaaDoor
