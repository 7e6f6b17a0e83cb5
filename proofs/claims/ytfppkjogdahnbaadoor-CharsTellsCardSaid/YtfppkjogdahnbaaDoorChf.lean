/- The law's walk: the classes and the digits. -/
import Derived.Test.YtfppkjogdahnbaaDoorChe
namespace Go.Proofs.YtfppkjogdahnbaaDoor
open Go.ChangeShapes Go.WideShapes Go.ChangeAt Go.RowKit
set_option linter.unusedVariables false

theorem imp_f {a b : Bool} (h : a = true → b = true) (hb : b = false) : a = false := by
  cases a
  · rfl
  · rw [h rfl] at hb; cases hb

theorem cls_sn (r : Int) : cls r 2 = true → cls r 3 = true := by
  intro h
  show (hasT followT r || hasT startT r) = true
  rw [show hasT startT r = true from h]; simp
theorem cls_bc (r : Int) : cls r 1 = true → cls r 0 = true := by
  intro h
  have := (blankB_iff r).1 h
  exact (charT_iff r).2 (by omega)
theorem cls_nc (r : Int) : cls r 3 = true → cls r 0 = true := by
  intro h
  have h : (hasT followT r || hasT startT r) = true := h
  rw [Bool.or_eq_true] at h
  refine (charT_iff r).2 ?_
  rcases h with h | h
  · have := (followT_iff r).1 h; omega
  · have := (startT_iff r).1 h; omega
theorem cls_pc (r : Int) : cls r 4 = true → cls r 0 = true := by
  intro h
  have := (pubidT_iff r).1 h
  exact (charT_iff r).2 (by omega)

set_option maxRecDepth 100000 in
set_option maxHeartbeats 400000 in
theorem ask_0 (w : World) :
    Calls Tryd.prog 6 #[.int .i64 ((0 : Nat) : Int)] w fun e w' => e = .returned (.func (.func 12) #[] #[]) ∧ w = w' := by
  go_enter Tryd.func6, Tryd.ntmps6
  go_wp2_with fail
  go_ret
  exact ⟨rfl, rfl⟩
set_option maxRecDepth 100000 in
set_option maxHeartbeats 400000 in
theorem ask_1 (w : World) :
    Calls Tryd.prog 6 #[.int .i64 ((1 : Nat) : Int)] w fun e w' => e = .returned (.func (.func 10) #[] #[]) ∧ w = w' := by
  go_enter Tryd.func6, Tryd.ntmps6
  go_wp2_with fail
  go_ret
  exact ⟨rfl, rfl⟩
set_option maxRecDepth 100000 in
set_option maxHeartbeats 400000 in
theorem ask_2 (w : World) :
    Calls Tryd.prog 6 #[.int .i64 ((2 : Nat) : Int)] w fun e w' => e = .returned (.func (.func 8) #[] #[]) ∧ w = w' := by
  go_enter Tryd.func6, Tryd.ntmps6
  go_wp2_with fail
  go_ret
  exact ⟨rfl, rfl⟩
set_option maxRecDepth 100000 in
set_option maxHeartbeats 400000 in
theorem ask_3 (w : World) :
    Calls Tryd.prog 6 #[.int .i64 ((3 : Nat) : Int)] w fun e w' => e = .returned (.func (.func 9) #[] #[]) ∧ w = w' := by
  go_enter Tryd.func6, Tryd.ntmps6
  go_wp2_with fail
  go_ret
  exact ⟨rfl, rfl⟩
set_option maxRecDepth 100000 in
set_option maxHeartbeats 400000 in
theorem ask_4 (w : World) :
    Calls Tryd.prog 6 #[.int .i64 ((4 : Nat) : Int)] w fun e w' => e = .returned (.func (.func 11) #[] #[]) ∧ w = w' := by
  go_enter Tryd.func6, Tryd.ntmps6
  go_wp2_with fail
  go_ret
  exact ⟨rfl, rfl⟩

set_option maxRecDepth 100000 in
set_option maxHeartbeats 4000000 in
theorem tells_core (r b : Int) (w : World) (q0 q1 q2 q3 q4 : Bool) (S D : Int)
    (c0 : ∀ w1, Below w.heap.size w w1 → Calls Tryd.prog 12 #[.int .i64 r] w1 fun e w' => e = .returned (.bool q0) ∧ Below w.heap.size w w')
    (i0 : ∀ w1, Calls Tryd.prog 7 #[.int .i64 ((0 : Nat) : Int), .int .i64 r] w1 fun e w' => e = .returned (.bool q0) ∧ w1 = w')
    (c1 : ∀ w1, Below w.heap.size w w1 → Calls Tryd.prog 10 #[.int .i64 r] w1 fun e w' => e = .returned (.bool q1) ∧ Below w.heap.size w w')
    (i1 : ∀ w1, Calls Tryd.prog 7 #[.int .i64 ((1 : Nat) : Int), .int .i64 r] w1 fun e w' => e = .returned (.bool q1) ∧ w1 = w')
    (c2 : ∀ w1, Below w.heap.size w w1 → Calls Tryd.prog 8 #[.int .i64 r] w1 fun e w' => e = .returned (.bool q2) ∧ Below w.heap.size w w')
    (i2 : ∀ w1, Calls Tryd.prog 7 #[.int .i64 ((2 : Nat) : Int), .int .i64 r] w1 fun e w' => e = .returned (.bool q2) ∧ w1 = w')
    (c3 : ∀ w1, Below w.heap.size w w1 → Calls Tryd.prog 9 #[.int .i64 r] w1 fun e w' => e = .returned (.bool q3) ∧ Below w.heap.size w w')
    (i3 : ∀ w1, Calls Tryd.prog 7 #[.int .i64 ((3 : Nat) : Int), .int .i64 r] w1 fun e w' => e = .returned (.bool q3) ∧ w1 = w')
    (c4 : ∀ w1, Below w.heap.size w w1 → Calls Tryd.prog 11 #[.int .i64 r] w1 fun e w' => e = .returned (.bool q4) ∧ Below w.heap.size w w')
    (i4 : ∀ w1, Calls Tryd.prog 7 #[.int .i64 ((4 : Nat) : Int), .int .i64 r] w1 fun e w' => e = .returned (.bool q4) ∧ w1 = w')
    (f1 : q2 = true → q3 = true) (f2 : q1 = true → q0 = true) (f3 : q3 = true → q0 = true) (f4 : q4 = true → q0 = true)
    (cs : ∀ w1, Below w.heap.size w w1 → Calls Tryd.prog 13 #[.int .i64 r] w1 fun e w' => e = .returned (.int .i64 S) ∧ Below w.heap.size w w')
    (rs : ∀ w1, Calls Tryd.prog 14 #[.int .i64 r] w1 fun e w' => e = .returned (.int .i64 S) ∧ w1 = w')
    (cd : ∀ w1, Calls Tryd.prog 15 #[.int .i64 r, .int .i64 b] w1 fun e w' => e = .returned (.int .i64 D) ∧ w1 = w')
    (rd : ∀ w1, Calls Tryd.prog 16 #[.int .i64 r, .int .i64 b] w1 fun e w' => e = .returned (.int .i64 D) ∧ w1 = w')
    (lv : ∀ w1, Below w.heap.size w w1 → Calls Tryd.prog 17 #[] w1 fun e w' => e = .returned (.bool true) ∧ Below w.heap.size w w') :
    Calls Tryd.prog 3 #[.int .i64 r, .int .i64 b] w fun e w' => e = .returned (.bool true) ∧ Below w.heap.size w w' := by
  have C0 := Lib.hid c0; have I0 := Lib.hid i0; have A0 := Lib.hid ask_0
  have C1 := Lib.hid c1; have I1 := Lib.hid i1; have A1 := Lib.hid ask_1
  have C2 := Lib.hid c2; have I2 := Lib.hid i2; have A2 := Lib.hid ask_2
  have C3 := Lib.hid c3; have I3 := Lib.hid i3; have A3 := Lib.hid ask_3
  have C4 := Lib.hid c4; have I4 := Lib.hid i4; have A4 := Lib.hid ask_4
  have CS := Lib.hid cs; have RS := Lib.hid rs; have CD := Lib.hid cd; have RD := Lib.hid rd; have LV := Lib.hid lv
  have F1 := Lib.hid f1; have F2 := Lib.hid f2; have F3 := Lib.hid f3; have F4 := Lib.hid f4
  clear c0 c1 c2 c3 c4 i0 i1 i2 i3 i4 cs rs cd rd lv f1 f2 f3 f4
  go_enter Tryd.func3, Tryd.ntmps3
  go_wp2_with fail
  go_loopw [5] (fun i wr => ∃ k : Nat, k ≤ 5 ∧ i = .int .i64 k ∧ Below w.heap.size w wr) (fun i _ => 5 - (intOf i).toNat)
  case atStart => exact ⟨0, by omega, rfl, Below.refl _ _⟩
  case round =>
    obtain ⟨k, hk, rfl, hB⟩ := hrel
    have E : k = 0 ∨ k = 1 ∨ k = 2 ∨ k = 3 ∨ k = 4 ∨ k = 5 := by omega
    rcases E with rfl | rfl | rfl | rfl | rfl | rfl
    · go_wp2_with (first
        | (go_at_call 6; refine (A0.out _).mono ?_; rintro e w1 ⟨rfl, rfl⟩)
        | (go_at_call 12; refine (C0.out _ (by assumption)).mono ?_; rintro e w1 ⟨rfl, hb1⟩)
        | (go_at_call 7; refine (I0.out _).mono ?_; rintro e w1 ⟨rfl, rfl⟩))
      go_roundw
      case rel => exact ⟨1, by omega, by go_num, by assumption⟩
      case measure => simp [intOf]
    · go_wp2_with (first
        | (go_at_call 6; refine (A1.out _).mono ?_; rintro e w1 ⟨rfl, rfl⟩)
        | (go_at_call 10; refine (C1.out _ (by assumption)).mono ?_; rintro e w1 ⟨rfl, hb1⟩)
        | (go_at_call 7; refine (I1.out _).mono ?_; rintro e w1 ⟨rfl, rfl⟩))
      go_roundw
      case rel => exact ⟨2, by omega, by go_num, by assumption⟩
      case measure => simp [intOf]
    · go_wp2_with (first
        | (go_at_call 6; refine (A2.out _).mono ?_; rintro e w1 ⟨rfl, rfl⟩)
        | (go_at_call 8; refine (C2.out _ (by assumption)).mono ?_; rintro e w1 ⟨rfl, hb1⟩)
        | (go_at_call 7; refine (I2.out _).mono ?_; rintro e w1 ⟨rfl, rfl⟩))
      go_roundw
      case rel => exact ⟨3, by omega, by go_num, by assumption⟩
      case measure => simp [intOf]
    · go_wp2_with (first
        | (go_at_call 6; refine (A3.out _).mono ?_; rintro e w1 ⟨rfl, rfl⟩)
        | (go_at_call 9; refine (C3.out _ (by assumption)).mono ?_; rintro e w1 ⟨rfl, hb1⟩)
        | (go_at_call 7; refine (I3.out _).mono ?_; rintro e w1 ⟨rfl, rfl⟩))
      go_roundw
      case rel => exact ⟨4, by omega, by go_num, by assumption⟩
      case measure => simp [intOf]
    · go_wp2_with (first
        | (go_at_call 6; refine (A4.out _).mono ?_; rintro e w1 ⟨rfl, rfl⟩)
        | (go_at_call 11; refine (C4.out _ (by assumption)).mono ?_; rintro e w1 ⟨rfl, hb1⟩)
        | (go_at_call 7; refine (I4.out _).mono ?_; rintro e w1 ⟨rfl, rfl⟩))
      go_roundw
      case rel => exact ⟨5, by omega, by go_num, by assumption⟩
      case measure => simp [intOf]
    · have fin : q0 = false ∧ q1 = false ∧ q2 = false ∧ q3 = false ∧ q4 = false ∨ q0 = true ∧ (q3 = false ∧ q2 = false ∨ q3 = true) := by
        have f1 := F1.out; have f2 := F2.out; have f3 := F3.out; have f4 := F4.out
        revert f1 f2 f3 f4
        cases q0 <;> cases q1 <;> cases q2 <;> cases q3 <;> cases q4 <;> simp
      clear F1 F2 F3 F4
      rcases fin with ⟨rfl, rfl, rfl, rfl, rfl⟩ | ⟨rfl, ⟨rfl, rfl⟩ | rfl⟩
      rotate_left
      · cases q1 <;> cases q4
        all_goals
          go_wp2_with (first
            | (go_at_call 8; refine (C2.out _ (by assumption)).mono ?_; rintro e w1 ⟨rfl, hb1⟩)
            | (go_at_call 9; refine (C3.out _ (by assumption)).mono ?_; rintro e w1 ⟨rfl, hb1⟩)
            | (go_at_call 10; refine (C1.out _ (by assumption)).mono ?_; rintro e w1 ⟨rfl, hb1⟩)
            | (go_at_call 11; refine (C4.out _ (by assumption)).mono ?_; rintro e w1 ⟨rfl, hb1⟩)
            | (go_at_call 12; refine (C0.out _ (by assumption)).mono ?_; rintro e w1 ⟨rfl, hb1⟩)
            | (go_at_call 13; refine (CS.out _ (by assumption)).mono ?_; rintro e w1 ⟨rfl, hb1⟩)
            | (go_at_call 14; refine (RS.out _).mono ?_; rintro e w1 ⟨rfl, rfl⟩)
            | (go_at_call 15; refine (CD.out _).mono ?_; rintro e w1 ⟨rfl, rfl⟩)
            | (go_at_call 16; refine (RD.out _).mono ?_; rintro e w1 ⟨rfl, rfl⟩)
            | (go_at_call 17; refine (LV.out _ (by assumption)).mono ?_; rintro e w1 ⟨rfl, hb1⟩))
          go_ret
          exact ⟨rfl, by assumption⟩
      · cases q1 <;> cases q4 <;> cases q2
        all_goals
          go_wp2_with (first
            | (go_at_call 8; refine (C2.out _ (by assumption)).mono ?_; rintro e w1 ⟨rfl, hb1⟩)
            | (go_at_call 9; refine (C3.out _ (by assumption)).mono ?_; rintro e w1 ⟨rfl, hb1⟩)
            | (go_at_call 10; refine (C1.out _ (by assumption)).mono ?_; rintro e w1 ⟨rfl, hb1⟩)
            | (go_at_call 11; refine (C4.out _ (by assumption)).mono ?_; rintro e w1 ⟨rfl, hb1⟩)
            | (go_at_call 12; refine (C0.out _ (by assumption)).mono ?_; rintro e w1 ⟨rfl, hb1⟩)
            | (go_at_call 13; refine (CS.out _ (by assumption)).mono ?_; rintro e w1 ⟨rfl, hb1⟩)
            | (go_at_call 14; refine (RS.out _).mono ?_; rintro e w1 ⟨rfl, rfl⟩)
            | (go_at_call 15; refine (CD.out _).mono ?_; rintro e w1 ⟨rfl, rfl⟩)
            | (go_at_call 16; refine (RD.out _).mono ?_; rintro e w1 ⟨rfl, rfl⟩)
            | (go_at_call 17; refine (LV.out _ (by assumption)).mono ?_; rintro e w1 ⟨rfl, hb1⟩))
          go_ret
          exact ⟨rfl, by assumption⟩
      · go_wp2_with (first
          | (go_at_call 8; refine (C2.out _ (by assumption)).mono ?_; rintro e w1 ⟨rfl, hb1⟩)
          | (go_at_call 9; refine (C3.out _ (by assumption)).mono ?_; rintro e w1 ⟨rfl, hb1⟩)
          | (go_at_call 10; refine (C1.out _ (by assumption)).mono ?_; rintro e w1 ⟨rfl, hb1⟩)
          | (go_at_call 11; refine (C4.out _ (by assumption)).mono ?_; rintro e w1 ⟨rfl, hb1⟩)
          | (go_at_call 12; refine (C0.out _ (by assumption)).mono ?_; rintro e w1 ⟨rfl, hb1⟩)
          | (go_at_call 13; refine (CS.out _ (by assumption)).mono ?_; rintro e w1 ⟨rfl, hb1⟩)
          | (go_at_call 14; refine (RS.out _).mono ?_; rintro e w1 ⟨rfl, rfl⟩)
          | (go_at_call 15; refine (CD.out _).mono ?_; rintro e w1 ⟨rfl, rfl⟩)
          | (go_at_call 16; refine (RD.out _).mono ?_; rintro e w1 ⟨rfl, rfl⟩)
          | (go_at_call 17; refine (LV.out _ (by assumption)).mono ?_; rintro e w1 ⟨rfl, hb1⟩))
        go_ret
        exact ⟨rfl, by assumption⟩

end Go.Proofs.YtfppkjogdahnbaaDoor
