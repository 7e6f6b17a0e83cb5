/- Contracts: the classes together; whether a number is of a class; the function of a class. -/
import Derived.Test.YtfppkjogdahnbaaDoorChb
import Derived.Test.YtfppkjogdahnbaaDoorChc
import Derived.Test.YtfppkjogdahnbaaDoorChd
namespace Go.Proofs.YtfppkjogdahnbaaDoor
open Go.ChangeShapes Go.WideShapes Go.ChangeAt Go.RowKit
set_option linter.unusedVariables false

/-- Whether a number is of the k-th class. -/
def cls (r : Int) : Nat → Bool
  | 0 => hasT charT r
  | 1 => blankB r
  | 2 => hasT startT r
  | 3 => hasT followT r || hasT startT r
  | _ => hasT pubidT r
def bitN (b : Bool) (v : Nat) : Nat := match b with | true => v | false => 0
def sumN (r : Int) : Nat → Nat
  | 0 => 0
  | k + 1 => sumN r k + bitN (cls r k) (2 ^ k)
theorem bitN_le (b : Bool) (v : Nat) : bitN b v ≤ v := by cases b <;> simp [bitN]
theorem sumN_lt (r : Int) : ∀ k, sumN r k < 2 ^ k
  | 0 => by simp [sumN]
  | k + 1 => by have := sumN_lt r k; have := bitN_le (cls r k) (2 ^ k); rw [sumN, Nat.pow_succ]; omega
theorem bor_all : ∀ k < 5, ∀ m < 2 ^ k, bits .or .i64 ((m : Nat) : Int) ((2 ^ k : Nat) : Int) = ((m + 2 ^ k : Nat) : Int) := by decide

theorem blankB_any (r : Int) (w : World) :
    Calls Tryd.prog 10 #[.int .i64 r] w fun e w' => e = .returned (.bool (blankB r)) ∧ Below w.heap.size w w' :=
  (blank_any r w).mono (by rintro e w' ⟨h, rfl⟩; exact ⟨h, Below.refl _ _⟩)

set_option maxRecDepth 100000 in
set_option maxHeartbeats 2000000 in
theorem classes_any (r : Int) (w : World) (ht : Tables w) :
    Calls Tryd.prog 13 #[.int .i64 r] w fun e w' => e = .returned (.int .i64 (sumN r 5)) ∧ Below w.heap.size w w' := by
  have HT := Lib.hid ht
  clear ht
  go_enter Tryd.func13, Tryd.ntmps13
  go_wp2_with fail
  go_loopw [3, 7] (fun s i wr => ∃ k : Nat, k ≤ 5 ∧ i = .int .i64 k ∧ s = .int .i64 (sumN r k) ∧ Below w.heap.size w wr) (fun _ i _ => 5 - (intOf i).toNat)
  case atStart => exact ⟨0, by omega, rfl, rfl, Below.refl _ _⟩
  case round =>
    obtain ⟨k, hk, rfl, rfl, hB⟩ := hrel
    have hsW := hB.size
    have D : k = 0 ∨ k = 1 ∨ k = 2 ∨ k = 3 ∨ k = 4 ∨ k = 5 := by omega
    rcases D with rfl | rfl | rfl | rfl | rfl | rfl
    · have HM := Lib.hid (sumN_lt r 0)
      have hs : sumN r 1 = sumN r 0 + bitN (cls r 0) (2 ^ 0) := rfl
      have hor := bor_all 0 (by omega) (sumN r 0) (sumN_lt r 0)
      have H1 := show Calls Tryd.prog 12 #[.int .i64 r] wr fun e w' => e = .returned (.bool (cls r 0)) ∧ Below wr.heap.size wr w' from char_any r wr (HT.out.below hB)
      obtain ⟨m, hm⟩ : ∃ m, sumN r 0 = m := ⟨_, rfl⟩
      rw [hm] at hs hor HM
      obtain ⟨q, hq⟩ : ∃ q, cls r 0 = q := ⟨_, rfl⟩
      rw [hq] at hs H1
      have HS := Lib.hid hs
      have HH := Lib.hid H1
      have hix : ∀ w : World, (Instr.index 42 (.agg #[.func (.func 12) #[] #[], .func (.func 10) #[] #[], .func (.func 8) #[] #[], .func (.func 9) #[] #[], .func (.func 11) #[] #[]]) (.int .i64 ((0 : Nat) : Int))).run Tryd.prog w = .ok (.func (.func 12) #[] #[]) w := fun _ => by kernel_rfl
      have hiy : ∀ w : World, (Instr.index 42 (.agg #[.func (.func 12) #[] #[], .func (.func 10) #[] #[], .func (.func 8) #[] #[], .func (.func 9) #[] #[], .func (.func 11) #[] #[]]) (.int .i64 0)).run Tryd.prog w = .ok (.func (.func 12) #[] #[]) w := fun _ => by kernel_rfl
      have HO := Lib.hid hor
      rw [hm]
      clear hs hq H1 hm hor
      cases q with
      | true =>
        go_wp2_with (go_at_call 12; refine HH.out.mono ?_; rintro e w1 ⟨rfl, hb1⟩)
        go_roundw
        case rel => exact ⟨1, by omega, by go_num, by rw [HS.out]; exact congrArg (Value.int .i64) HO.out, hB.trans (hb1.mono hsW)⟩
        case measure => simp [intOf]
      | false =>
        go_wp2_with (go_at_call 12; refine HH.out.mono ?_; rintro e w1 ⟨rfl, hb1⟩)
        go_roundw
        case rel => exact ⟨1, by omega, by go_num, by rw [HS.out]; rfl, hB.trans (hb1.mono hsW)⟩
        case measure => simp [intOf]
    · have HM := Lib.hid (sumN_lt r 1)
      have hs : sumN r 2 = sumN r 1 + bitN (cls r 1) (2 ^ 1) := rfl
      have hor := bor_all 1 (by omega) (sumN r 1) (sumN_lt r 1)
      have H1 := show Calls Tryd.prog 10 #[.int .i64 r] wr fun e w' => e = .returned (.bool (cls r 1)) ∧ Below wr.heap.size wr w' from blankB_any r wr
      obtain ⟨m, hm⟩ : ∃ m, sumN r 1 = m := ⟨_, rfl⟩
      rw [hm] at hs hor HM
      obtain ⟨q, hq⟩ : ∃ q, cls r 1 = q := ⟨_, rfl⟩
      rw [hq] at hs H1
      have HS := Lib.hid hs
      have HH := Lib.hid H1
      have hix : ∀ w : World, (Instr.index 42 (.agg #[.func (.func 12) #[] #[], .func (.func 10) #[] #[], .func (.func 8) #[] #[], .func (.func 9) #[] #[], .func (.func 11) #[] #[]]) (.int .i64 ((1 : Nat) : Int))).run Tryd.prog w = .ok (.func (.func 10) #[] #[]) w := fun _ => by kernel_rfl
      have hiy : ∀ w : World, (Instr.index 42 (.agg #[.func (.func 12) #[] #[], .func (.func 10) #[] #[], .func (.func 8) #[] #[], .func (.func 9) #[] #[], .func (.func 11) #[] #[]]) (.int .i64 1)).run Tryd.prog w = .ok (.func (.func 10) #[] #[]) w := fun _ => by kernel_rfl
      have HO := Lib.hid hor
      rw [hm]
      clear hs hq H1 hm hor
      cases q with
      | true =>
        go_wp2_with (go_at_call 10; refine HH.out.mono ?_; rintro e w1 ⟨rfl, hb1⟩)
        go_roundw
        case rel => exact ⟨2, by omega, by go_num, by rw [HS.out]; exact congrArg (Value.int .i64) HO.out, hB.trans (hb1.mono hsW)⟩
        case measure => simp [intOf]
      | false =>
        go_wp2_with (go_at_call 10; refine HH.out.mono ?_; rintro e w1 ⟨rfl, hb1⟩)
        go_roundw
        case rel => exact ⟨2, by omega, by go_num, by rw [HS.out]; rfl, hB.trans (hb1.mono hsW)⟩
        case measure => simp [intOf]
    · have HM := Lib.hid (sumN_lt r 2)
      have hs : sumN r 3 = sumN r 2 + bitN (cls r 2) (2 ^ 2) := rfl
      have hor := bor_all 2 (by omega) (sumN r 2) (sumN_lt r 2)
      have H1 := show Calls Tryd.prog 8 #[.int .i64 r] wr fun e w' => e = .returned (.bool (cls r 2)) ∧ Below wr.heap.size wr w' from nameStart_any r wr (HT.out.below hB)
      obtain ⟨m, hm⟩ : ∃ m, sumN r 2 = m := ⟨_, rfl⟩
      rw [hm] at hs hor HM
      obtain ⟨q, hq⟩ : ∃ q, cls r 2 = q := ⟨_, rfl⟩
      rw [hq] at hs H1
      have HS := Lib.hid hs
      have HH := Lib.hid H1
      have hix : ∀ w : World, (Instr.index 42 (.agg #[.func (.func 12) #[] #[], .func (.func 10) #[] #[], .func (.func 8) #[] #[], .func (.func 9) #[] #[], .func (.func 11) #[] #[]]) (.int .i64 ((2 : Nat) : Int))).run Tryd.prog w = .ok (.func (.func 8) #[] #[]) w := fun _ => by kernel_rfl
      have hiy : ∀ w : World, (Instr.index 42 (.agg #[.func (.func 12) #[] #[], .func (.func 10) #[] #[], .func (.func 8) #[] #[], .func (.func 9) #[] #[], .func (.func 11) #[] #[]]) (.int .i64 2)).run Tryd.prog w = .ok (.func (.func 8) #[] #[]) w := fun _ => by kernel_rfl
      have HO := Lib.hid hor
      rw [hm]
      clear hs hq H1 hm hor
      cases q with
      | true =>
        go_wp2_with (go_at_call 8; refine HH.out.mono ?_; rintro e w1 ⟨rfl, hb1⟩)
        go_roundw
        case rel => exact ⟨3, by omega, by go_num, by rw [HS.out]; exact congrArg (Value.int .i64) HO.out, hB.trans (hb1.mono hsW)⟩
        case measure => simp [intOf]
      | false =>
        go_wp2_with (go_at_call 8; refine HH.out.mono ?_; rintro e w1 ⟨rfl, hb1⟩)
        go_roundw
        case rel => exact ⟨3, by omega, by go_num, by rw [HS.out]; rfl, hB.trans (hb1.mono hsW)⟩
        case measure => simp [intOf]
    · have HM := Lib.hid (sumN_lt r 3)
      have hs : sumN r 4 = sumN r 3 + bitN (cls r 3) (2 ^ 3) := rfl
      have hor := bor_all 3 (by omega) (sumN r 3) (sumN_lt r 3)
      have H1 := show Calls Tryd.prog 9 #[.int .i64 r] wr fun e w' => e = .returned (.bool (cls r 3)) ∧ Below wr.heap.size wr w' from nameChar_any r wr (HT.out.below hB)
      obtain ⟨m, hm⟩ : ∃ m, sumN r 3 = m := ⟨_, rfl⟩
      rw [hm] at hs hor HM
      obtain ⟨q, hq⟩ : ∃ q, cls r 3 = q := ⟨_, rfl⟩
      rw [hq] at hs H1
      have HS := Lib.hid hs
      have HH := Lib.hid H1
      have hix : ∀ w : World, (Instr.index 42 (.agg #[.func (.func 12) #[] #[], .func (.func 10) #[] #[], .func (.func 8) #[] #[], .func (.func 9) #[] #[], .func (.func 11) #[] #[]]) (.int .i64 ((3 : Nat) : Int))).run Tryd.prog w = .ok (.func (.func 9) #[] #[]) w := fun _ => by kernel_rfl
      have hiy : ∀ w : World, (Instr.index 42 (.agg #[.func (.func 12) #[] #[], .func (.func 10) #[] #[], .func (.func 8) #[] #[], .func (.func 9) #[] #[], .func (.func 11) #[] #[]]) (.int .i64 3)).run Tryd.prog w = .ok (.func (.func 9) #[] #[]) w := fun _ => by kernel_rfl
      have HO := Lib.hid hor
      rw [hm]
      clear hs hq H1 hm hor
      cases q with
      | true =>
        go_wp2_with (go_at_call 9; refine HH.out.mono ?_; rintro e w1 ⟨rfl, hb1⟩)
        go_roundw
        case rel => exact ⟨4, by omega, by go_num, by rw [HS.out]; exact congrArg (Value.int .i64) HO.out, hB.trans (hb1.mono hsW)⟩
        case measure => simp [intOf]
      | false =>
        go_wp2_with (go_at_call 9; refine HH.out.mono ?_; rintro e w1 ⟨rfl, hb1⟩)
        go_roundw
        case rel => exact ⟨4, by omega, by go_num, by rw [HS.out]; rfl, hB.trans (hb1.mono hsW)⟩
        case measure => simp [intOf]
    · have HM := Lib.hid (sumN_lt r 4)
      have hs : sumN r 5 = sumN r 4 + bitN (cls r 4) (2 ^ 4) := rfl
      have hor := bor_all 4 (by omega) (sumN r 4) (sumN_lt r 4)
      have H1 := show Calls Tryd.prog 11 #[.int .i64 r] wr fun e w' => e = .returned (.bool (cls r 4)) ∧ Below wr.heap.size wr w' from pubid_any r wr (HT.out.below hB)
      obtain ⟨m, hm⟩ : ∃ m, sumN r 4 = m := ⟨_, rfl⟩
      rw [hm] at hs hor HM
      obtain ⟨q, hq⟩ : ∃ q, cls r 4 = q := ⟨_, rfl⟩
      rw [hq] at hs H1
      have HS := Lib.hid hs
      have HH := Lib.hid H1
      have hix : ∀ w : World, (Instr.index 42 (.agg #[.func (.func 12) #[] #[], .func (.func 10) #[] #[], .func (.func 8) #[] #[], .func (.func 9) #[] #[], .func (.func 11) #[] #[]]) (.int .i64 ((4 : Nat) : Int))).run Tryd.prog w = .ok (.func (.func 11) #[] #[]) w := fun _ => by kernel_rfl
      have hiy : ∀ w : World, (Instr.index 42 (.agg #[.func (.func 12) #[] #[], .func (.func 10) #[] #[], .func (.func 8) #[] #[], .func (.func 9) #[] #[], .func (.func 11) #[] #[]]) (.int .i64 4)).run Tryd.prog w = .ok (.func (.func 11) #[] #[]) w := fun _ => by kernel_rfl
      have HO := Lib.hid hor
      rw [hm]
      clear hs hq H1 hm hor
      cases q with
      | true =>
        go_wp2_with (go_at_call 11; refine HH.out.mono ?_; rintro e w1 ⟨rfl, hb1⟩)
        go_roundw
        case rel => exact ⟨5, by omega, by go_num, by rw [HS.out]; exact congrArg (Value.int .i64) HO.out, hB.trans (hb1.mono hsW)⟩
        case measure => simp [intOf]
      | false =>
        go_wp2_with (go_at_call 11; refine HH.out.mono ?_; rintro e w1 ⟨rfl, hb1⟩)
        go_roundw
        case rel => exact ⟨5, by omega, by go_num, by rw [HS.out]; rfl, hB.trans (hb1.mono hsW)⟩
        case measure => simp [intOf]
    · go_wp2_with fail
      go_ret
      exact ⟨rfl, hB⟩

set_option maxRecDepth 100000 in
set_option maxHeartbeats 2000000 in
theorem rclasses_any (r : Int) (w : World) :
    Calls Tryd.prog 14 #[.int .i64 r] w fun e w' => e = .returned (.int .i64 (sumN r 5)) ∧ w = w' := by
  have H := show sumN r 5 = bitN (cls r 0) 1 + bitN (cls r 1) 2 + bitN (cls r 2) 4 + bitN (cls r 3) 8 + bitN (cls r 4) 16 by simp [sumN]
  have C0 := show ∀ w : World, Calls Tryd.prog 23 #[.int .i64 r] w fun e w' => e = .returned (.bool (cls r 0)) ∧ w = w' from rchar3_any r
  have C1 := show ∀ w : World, Calls Tryd.prog 24 #[.int .i64 r] w fun e w' => e = .returned (.bool (cls r 1)) ∧ w = w' from rblank_any r
  have C2 := show ∀ w : World, Calls Tryd.prog 25 #[.int .i64 r] w fun e w' => e = .returned (.bool (cls r 2)) ∧ w = w' from rstart_any r
  have C3 := show ∀ w : World, Calls Tryd.prog 26 #[.int .i64 r] w fun e w' => e = .returned (.bool (cls r 3)) ∧ w = w' from rname_any r
  have C4 := show ∀ w : World, Calls Tryd.prog 27 #[.int .i64 r] w fun e w' => e = .returned (.bool (cls r 4)) ∧ w = w' from rpubid_any r
  obtain ⟨q0, h0⟩ : ∃ q, cls r 0 = q := ⟨_, rfl⟩
  obtain ⟨q1, h1⟩ : ∃ q, cls r 1 = q := ⟨_, rfl⟩
  obtain ⟨q2, h2⟩ : ∃ q, cls r 2 = q := ⟨_, rfl⟩
  obtain ⟨q3, h3⟩ : ∃ q, cls r 3 = q := ⟨_, rfl⟩
  obtain ⟨q4, h4⟩ : ∃ q, cls r 4 = q := ⟨_, rfl⟩
  rw [h0] at H C0; rw [h1] at H C1; rw [h2] at H C2; rw [h3] at H C3; rw [h4] at H C4
  have G := Lib.hid H
  have K0 := Lib.hid C0; have K1 := Lib.hid C1; have K2 := Lib.hid C2; have K3 := Lib.hid C3; have K4 := Lib.hid C4
  clear H C0 C1 C2 C3 C4 h0 h1 h2 h3 h4
  have one_call : ∀ (b : Bool) (w : World), Calls Tryd.prog 22 #[.bool b] w fun e w' => e = .returned (.int .i64 (bitN b 1)) ∧ w = w' := fun b w => (one_any b w).mono (by rintro e w' ⟨rfl, rfl⟩; cases b <;> exact ⟨rfl, rfl⟩)
  have ONE := Lib.hid one_call
  clear one_call
  have E : ∀ b : Bool, ∀ v : Nat, bitN b v = v * bitN b 1 := by intro b v; cases b <;> simp [bitN]
  have b0 := bitN_le q0 1; have b1 := bitN_le q1 1; have b2 := bitN_le q2 1; have b3 := bitN_le q3 1; have b4 := bitN_le q4 1
  rw [G.out, E q1 2, E q2 4, E q3 8, E q4 16]
  clear E
  have G := True.intro
  go_enter Tryd.func14, Tryd.ntmps14
  go_wp2_with (first
    | (go_at_call 22; refine (ONE.out _ _).mono ?_; rintro e w1 ⟨rfl, rfl⟩)
    | (go_at_call 23; refine (K0.out _).mono ?_; rintro e w1 ⟨rfl, rfl⟩)
    | (go_at_call 24; refine (K1.out _).mono ?_; rintro e w1 ⟨rfl, rfl⟩)
    | (go_at_call 25; refine (K2.out _).mono ?_; rintro e w1 ⟨rfl, rfl⟩)
    | (go_at_call 26; refine (K3.out _).mono ?_; rintro e w1 ⟨rfl, rfl⟩)
    | (go_at_call 27; refine (K4.out _).mono ?_; rintro e w1 ⟨rfl, rfl⟩))
  go_ret
  exact ⟨ret_int (by omega), rfl⟩

theorem cls_of (r : Int) (k : Nat) (hk : k < 5) : (sumN r 5 / 2 ^ k) % 2 = bitN (cls r k) 1 := by
  have H := show sumN r 5 = bitN (cls r 0) 1 + bitN (cls r 1) 2 + bitN (cls r 2) 4 + bitN (cls r 3) 8 + bitN (cls r 4) 16 by simp [sumN]
  rw [H]
  have D : k = 0 ∨ k = 1 ∨ k = 2 ∨ k = 3 ∨ k = 4 := by omega
  clear H hk
  rcases D with rfl | rfl | rfl | rfl | rfl
  all_goals
    generalize cls r 0 = q0; generalize cls r 1 = q1; generalize cls r 2 = q2; generalize cls r 3 = q3; generalize cls r 4 = q4
    cases q0 <;> cases q1 <;> cases q2 <;> cases q3 <;> cases q4 <;> rfl

set_option maxRecDepth 100000 in
set_option maxHeartbeats 2000000 in
theorem ris_any (n : Nat) (hn : n < 5) (r : Int) (w : World) :
    Calls Tryd.prog 7 #[.int .i64 n, .int .i64 r] w fun e w' => e = .returned (.bool (cls r n)) ∧ w = w' := by
  have HC := Lib.hid (rclasses_any r)
  have HE := Lib.hid (cls_of r n hn)
  obtain ⟨q, hq⟩ : ∃ q, cls r n = q := ⟨_, rfl⟩
  rw [hq] at HE
  rw [hq]
  have hlt := sumN_lt r 5
  obtain ⟨m, hm⟩ : ∃ m, sumN r 5 = m := ⟨_, rfl⟩
  rw [hm] at HC HE hlt
  clear hq hm
  go_enter Tryd.func7, Tryd.ntmps7
  go_wp2_with (go_at_call 14; refine (HC.out _).mono ?_; rintro e w1 ⟨rfl, rfl⟩)
  go_loop [5, 6] (fun v i => ∃ k : Nat, k ≤ n ∧ i = .int .i64 k ∧ v = .int .i64 ((m / 2 ^ k : Nat) : Int)) (fun _ i => n - (intOf i).toNat)
  case atStart => exact ⟨0, by omega, rfl, by simp⟩
  case round =>
    obtain ⟨k, hk, rfl, rfl⟩ := hrel
    have h2 : m / 2 ^ (k + 1) = m / 2 ^ k / 2 := by rw [Nat.pow_succ, Nat.div_div_eq_div_mul]
    have H2 := Lib.hid h2
    have hv : m / 2 ^ k ≤ m := Nat.div_le_self _ _
    clear h2
    by_cases hkn : k < n
    · obtain ⟨v, hv'⟩ : ∃ v, m / 2 ^ k = v := ⟨_, rfl⟩
      rw [hv'] at H2 hv ⊢
      clear hv'
      go_wp2_with fail
      go_round
      case rel => exact ⟨k + 1, by omega, by go_num, by rw [H2.out]; first | rfl | simp⟩
      case measure => simp [intOf]; omega
    · obtain rfl : k = n := by omega
      have hE := HE.out
      obtain ⟨v, hv'⟩ : ∃ v, m / 2 ^ k = v := ⟨_, rfl⟩
      rw [hv'] at hE hv ⊢
      have HE2 := Lib.hid hE
      clear hv' hE HE H2
      go_wp2_with fail
      go_ret
      have hE := HE2.out
      refine ⟨ret_bool ?_, rfl⟩
      cases q
      · simp [bitN] at hE; simp; omega
      · simp [bitN] at hE; simp; omega
end Go.Proofs.YtfppkjogdahnbaaDoor
