/- The law's walk: all characters of bytes. -/
import Derived.Test.YtpgpniemkmiljaaDoorAlla
import Derived.Test.YtpgpniemkmiljaaDoorChf
namespace Go.Proofs.YtpgpniemkmiljaaDoor
open Go.ChangeShapes Go.WideShapes Go.ChangeAt Go.RowKit
set_option linter.unusedVariables false

set_option maxRecDepth 100000 in
set_option maxHeartbeats 2000000 in
theorem allLaw_0 (A : Option Addr) (len cap c : Nat) (W : World) (q : Bool) (hl : len ≤ 300) (hc : c < 256) (hk : c % 5 = 0)
    (h1 : ∀ w1, Below W.heap.size W w1 → Calls Tryd.prog 6 #[.slice A len cap, .func (.func 11) #[] #[]] w1 fun e w' => e = .returned (.bool q) ∧ Below W.heap.size W w')
    (h2 : ∀ w1, Below W.heap.size W w1 → Calls Tryd.prog 8 #[.slice A len cap, .int .i64 ((0 : Nat) : Int)] w1 fun e w' => e = .returned (.bool q) ∧ Below W.heap.size W w')
    (h3 : ∀ w1, Below W.heap.size W w1 → Calls Tryd.prog 5 #[] w1 fun e w' => e = .returned (.bool true) ∧ Below W.heap.size W w') :
    Calls Tryd.prog 3 #[.slice A len cap, .int .u8 c] W fun e w' => e = .returned (.bool true) ∧ Below W.heap.size W w' := by
  have H1 := Lib.hid h1; have H2 := Lib.hid h2; have H3 := Lib.hid h3; have H0 := Lib.hid ask_0; have HN := Lib.hid (all_nil A len cap)
  have m1 : Int.tmod (c : Int) 5 = ((0 : Nat) : Int) := by rw [Int.tmod_eq_emod_of_nonneg (by omega)]; omega
  have hB : Below W.heap.size W W := Below.refl _ _
  clear h1 h2 h3 hk
  go_enter Tryd.func3, Tryd.ntmps3
  go_wp2_with (first
    | (go_at_call 7; refine (H0.out _).mono ?_; rintro e w1 ⟨rfl, rfl⟩)
    | (go_at_call 6; with_reducible refine (H1.out _ (by assumption)).mono ?_; rintro e w1 ⟨rfl, hb1⟩)
    | (go_at_call 6; with_reducible refine (HN.out _).mono ?_; rintro e w1 ⟨rfl, rfl⟩)
    | (go_at_call 8; refine (H2.out _ (by assumption)).mono ?_; rintro e w1 ⟨rfl, hb1⟩)
    | (go_at_call 5; refine (H3.out _ (by assumption)).mono ?_; rintro e w1 ⟨rfl, hb1⟩))
  go_ret
  exact ⟨rfl, by assumption⟩
set_option maxRecDepth 100000 in
set_option maxHeartbeats 2000000 in
theorem allLaw_1 (A : Option Addr) (len cap c : Nat) (W : World) (q : Bool) (hl : len ≤ 300) (hc : c < 256) (hk : c % 5 = 1)
    (h1 : ∀ w1, Below W.heap.size W w1 → Calls Tryd.prog 6 #[.slice A len cap, .func (.func 16) #[] #[]] w1 fun e w' => e = .returned (.bool q) ∧ Below W.heap.size W w')
    (h2 : ∀ w1, Below W.heap.size W w1 → Calls Tryd.prog 8 #[.slice A len cap, .int .i64 ((1 : Nat) : Int)] w1 fun e w' => e = .returned (.bool q) ∧ Below W.heap.size W w')
    (h3 : ∀ w1, Below W.heap.size W w1 → Calls Tryd.prog 5 #[] w1 fun e w' => e = .returned (.bool true) ∧ Below W.heap.size W w') :
    Calls Tryd.prog 3 #[.slice A len cap, .int .u8 c] W fun e w' => e = .returned (.bool true) ∧ Below W.heap.size W w' := by
  have H1 := Lib.hid h1; have H2 := Lib.hid h2; have H3 := Lib.hid h3; have H0 := Lib.hid ask_1; have HN := Lib.hid (all_nil A len cap)
  have m1 : Int.tmod (c : Int) 5 = ((1 : Nat) : Int) := by rw [Int.tmod_eq_emod_of_nonneg (by omega)]; omega
  have hB : Below W.heap.size W W := Below.refl _ _
  clear h1 h2 h3 hk
  go_enter Tryd.func3, Tryd.ntmps3
  go_wp2_with (first
    | (go_at_call 7; refine (H0.out _).mono ?_; rintro e w1 ⟨rfl, rfl⟩)
    | (go_at_call 6; with_reducible refine (H1.out _ (by assumption)).mono ?_; rintro e w1 ⟨rfl, hb1⟩)
    | (go_at_call 6; with_reducible refine (HN.out _).mono ?_; rintro e w1 ⟨rfl, rfl⟩)
    | (go_at_call 8; refine (H2.out _ (by assumption)).mono ?_; rintro e w1 ⟨rfl, hb1⟩)
    | (go_at_call 5; refine (H3.out _ (by assumption)).mono ?_; rintro e w1 ⟨rfl, hb1⟩))
  go_ret
  exact ⟨rfl, by assumption⟩
set_option maxRecDepth 100000 in
set_option maxHeartbeats 2000000 in
theorem allLaw_2 (A : Option Addr) (len cap c : Nat) (W : World) (q : Bool) (hl : len ≤ 300) (hc : c < 256) (hk : c % 5 = 2)
    (h1 : ∀ w1, Below W.heap.size W w1 → Calls Tryd.prog 6 #[.slice A len cap, .func (.func 12) #[] #[]] w1 fun e w' => e = .returned (.bool q) ∧ Below W.heap.size W w')
    (h2 : ∀ w1, Below W.heap.size W w1 → Calls Tryd.prog 8 #[.slice A len cap, .int .i64 ((2 : Nat) : Int)] w1 fun e w' => e = .returned (.bool q) ∧ Below W.heap.size W w')
    (h3 : ∀ w1, Below W.heap.size W w1 → Calls Tryd.prog 5 #[] w1 fun e w' => e = .returned (.bool true) ∧ Below W.heap.size W w') :
    Calls Tryd.prog 3 #[.slice A len cap, .int .u8 c] W fun e w' => e = .returned (.bool true) ∧ Below W.heap.size W w' := by
  have H1 := Lib.hid h1; have H2 := Lib.hid h2; have H3 := Lib.hid h3; have H0 := Lib.hid ask_2; have HN := Lib.hid (all_nil A len cap)
  have m1 : Int.tmod (c : Int) 5 = ((2 : Nat) : Int) := by rw [Int.tmod_eq_emod_of_nonneg (by omega)]; omega
  have hB : Below W.heap.size W W := Below.refl _ _
  clear h1 h2 h3 hk
  go_enter Tryd.func3, Tryd.ntmps3
  go_wp2_with (first
    | (go_at_call 7; refine (H0.out _).mono ?_; rintro e w1 ⟨rfl, rfl⟩)
    | (go_at_call 6; with_reducible refine (H1.out _ (by assumption)).mono ?_; rintro e w1 ⟨rfl, hb1⟩)
    | (go_at_call 6; with_reducible refine (HN.out _).mono ?_; rintro e w1 ⟨rfl, rfl⟩)
    | (go_at_call 8; refine (H2.out _ (by assumption)).mono ?_; rintro e w1 ⟨rfl, hb1⟩)
    | (go_at_call 5; refine (H3.out _ (by assumption)).mono ?_; rintro e w1 ⟨rfl, hb1⟩))
  go_ret
  exact ⟨rfl, by assumption⟩
set_option maxRecDepth 100000 in
set_option maxHeartbeats 2000000 in
theorem allLaw_3 (A : Option Addr) (len cap c : Nat) (W : World) (q : Bool) (hl : len ≤ 300) (hc : c < 256) (hk : c % 5 = 3)
    (h1 : ∀ w1, Below W.heap.size W w1 → Calls Tryd.prog 6 #[.slice A len cap, .func (.func 13) #[] #[]] w1 fun e w' => e = .returned (.bool q) ∧ Below W.heap.size W w')
    (h2 : ∀ w1, Below W.heap.size W w1 → Calls Tryd.prog 8 #[.slice A len cap, .int .i64 ((3 : Nat) : Int)] w1 fun e w' => e = .returned (.bool q) ∧ Below W.heap.size W w')
    (h3 : ∀ w1, Below W.heap.size W w1 → Calls Tryd.prog 5 #[] w1 fun e w' => e = .returned (.bool true) ∧ Below W.heap.size W w') :
    Calls Tryd.prog 3 #[.slice A len cap, .int .u8 c] W fun e w' => e = .returned (.bool true) ∧ Below W.heap.size W w' := by
  have H1 := Lib.hid h1; have H2 := Lib.hid h2; have H3 := Lib.hid h3; have H0 := Lib.hid ask_3; have HN := Lib.hid (all_nil A len cap)
  have m1 : Int.tmod (c : Int) 5 = ((3 : Nat) : Int) := by rw [Int.tmod_eq_emod_of_nonneg (by omega)]; omega
  have hB : Below W.heap.size W W := Below.refl _ _
  clear h1 h2 h3 hk
  go_enter Tryd.func3, Tryd.ntmps3
  go_wp2_with (first
    | (go_at_call 7; refine (H0.out _).mono ?_; rintro e w1 ⟨rfl, rfl⟩)
    | (go_at_call 6; with_reducible refine (H1.out _ (by assumption)).mono ?_; rintro e w1 ⟨rfl, hb1⟩)
    | (go_at_call 6; with_reducible refine (HN.out _).mono ?_; rintro e w1 ⟨rfl, rfl⟩)
    | (go_at_call 8; refine (H2.out _ (by assumption)).mono ?_; rintro e w1 ⟨rfl, hb1⟩)
    | (go_at_call 5; refine (H3.out _ (by assumption)).mono ?_; rintro e w1 ⟨rfl, hb1⟩))
  go_ret
  exact ⟨rfl, by assumption⟩
set_option maxRecDepth 100000 in
set_option maxHeartbeats 2000000 in
theorem allLaw_4 (A : Option Addr) (len cap c : Nat) (W : World) (q : Bool) (hl : len ≤ 300) (hc : c < 256) (hk : c % 5 = 4)
    (h1 : ∀ w1, Below W.heap.size W w1 → Calls Tryd.prog 6 #[.slice A len cap, .func (.func 17) #[] #[]] w1 fun e w' => e = .returned (.bool q) ∧ Below W.heap.size W w')
    (h2 : ∀ w1, Below W.heap.size W w1 → Calls Tryd.prog 8 #[.slice A len cap, .int .i64 ((4 : Nat) : Int)] w1 fun e w' => e = .returned (.bool q) ∧ Below W.heap.size W w')
    (h3 : ∀ w1, Below W.heap.size W w1 → Calls Tryd.prog 5 #[] w1 fun e w' => e = .returned (.bool true) ∧ Below W.heap.size W w') :
    Calls Tryd.prog 3 #[.slice A len cap, .int .u8 c] W fun e w' => e = .returned (.bool true) ∧ Below W.heap.size W w' := by
  have H1 := Lib.hid h1; have H2 := Lib.hid h2; have H3 := Lib.hid h3; have H0 := Lib.hid ask_4; have HN := Lib.hid (all_nil A len cap)
  have m1 : Int.tmod (c : Int) 5 = ((4 : Nat) : Int) := by rw [Int.tmod_eq_emod_of_nonneg (by omega)]; omega
  have hB : Below W.heap.size W W := Below.refl _ _
  clear h1 h2 h3 hk
  go_enter Tryd.func3, Tryd.ntmps3
  go_wp2_with (first
    | (go_at_call 7; refine (H0.out _).mono ?_; rintro e w1 ⟨rfl, rfl⟩)
    | (go_at_call 6; with_reducible refine (H1.out _ (by assumption)).mono ?_; rintro e w1 ⟨rfl, hb1⟩)
    | (go_at_call 6; with_reducible refine (HN.out _).mono ?_; rintro e w1 ⟨rfl, rfl⟩)
    | (go_at_call 8; refine (H2.out _ (by assumption)).mono ?_; rintro e w1 ⟨rfl, hb1⟩)
    | (go_at_call 5; refine (H3.out _ (by assumption)).mono ?_; rintro e w1 ⟨rfl, hb1⟩))
  go_ret
  exact ⟨rfl, by assumption⟩

set_option maxRecDepth 100000 in
theorem allLaw_far (A : Option Addr) (len cap c : Nat) (W : World) (hl : ¬ len ≤ 300) (hm : len ≤ 9223372036854775807)
    (h3 : ∀ w1, Below W.heap.size W w1 → Calls Tryd.prog 5 #[] w1 fun e w' => e = .returned (.bool true) ∧ Below W.heap.size W w') :
    Calls Tryd.prog 3 #[.slice A len cap, .int .u8 c] W fun e w' => e = .returned (.bool true) ∧ Below W.heap.size W w' := by
  have H3 := Lib.hid h3
  have hl' : 300 < len := by omega
  have hB : Below W.heap.size W W := Below.refl _ _
  clear h3 hl
  go_enter Tryd.func3, Tryd.ntmps3
  go_wp2_with (go_at_call 5; refine (H3.out _ (by assumption)).mono ?_; rintro e w1 ⟨rfl, hb1⟩)
  go_ret
  exact ⟨rfl, by assumption⟩
end Go.Proofs.YtpgpniemkmiljaaDoor
