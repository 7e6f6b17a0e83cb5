/- Contracts over all characters of bytes: what Runes tells is a premise. -/
import Derived.Test.YtpgpniemkmiljaaDoorUtfP
import Derived.Test.YtpgpniemkmiljaaDoorChk
namespace Go.Proofs.YtpgpniemkmiljaaDoor
open Go.ChangeShapes Go.WideShapes Go.ChangeAt Go.RowKit
set_option linter.unusedVariables false

theorem seesN {w : World} {A : Option Addr} {l : List Int} (h : Sees w A (l.map (Value.int .i64))) {k : Nat} (hk : k < l.length) : ∃ ad, A = some ad ∧ w.cell? (ad.add k) = some (.int .i64 l[k]) := by
  obtain ⟨ad, u, e, hu, hc⟩ := h.at (k := k) (by simpa using hk)
  rw [List.getElem?_map, List.getElem?_eq_getElem hk] at hu
  injection hu with hu
  exact ⟨ad, e, by rw [hc, ← hu]⟩
theorem notNil_0 : ∀ w : World, (binOp .eql 25 (.func (.func 11) #[] #[]) .nilFunc).run Tryd.prog w = .ok (.bool false) w := fun _ => by kernel_rfl
theorem notNil_1 : ∀ w : World, (binOp .eql 25 (.func (.func 16) #[] #[]) .nilFunc).run Tryd.prog w = .ok (.bool false) w := fun _ => by kernel_rfl
theorem notNil_2 : ∀ w : World, (binOp .eql 25 (.func (.func 12) #[] #[]) .nilFunc).run Tryd.prog w = .ok (.bool false) w := fun _ => by kernel_rfl
theorem notNil_3 : ∀ w : World, (binOp .eql 25 (.func (.func 13) #[] #[]) .nilFunc).run Tryd.prog w = .ok (.bool false) w := fun _ => by kernel_rfl
theorem notNil_4 : ∀ w : World, (binOp .eql 25 (.func (.func 17) #[] #[]) .nilFunc).run Tryd.prog w = .ok (.bool false) w := fun _ => by kernel_rfl
theorem isNil_ : ∀ w : World, (binOp .eql 25 .nilFunc .nilFunc).run Tryd.prog w = .ok (.bool true) w := fun _ => by kernel_rfl
theorem all_next (xs : List Int) (P : Int → Bool) (j : Nat) (hj : j < xs.length) : (xs.take (j + 1)).all P = ((xs.take j).all P && P (xs[j]'hj)) := by
  rw [List.take_succ_eq_append_getElem hj, List.all_append]; simp
theorem all_miss (xs : List Int) (P : Int → Bool) (j : Nat) (hj : j < xs.length) (h : P (xs[j]'hj) = false) : xs.all P = false :=
  List.all_eq_false.2 ⟨xs[j], List.getElem_mem hj, by simp [h]⟩

set_option maxRecDepth 100000 in
set_option maxHeartbeats 2000000 in
theorem all_good_0 (A : Option Addr) (len cap n : Nat) (xs : List Int) (P : Int → Bool) (W : World) (hn : xs.length = n) (hsmall : n ≤ 17592186044416)
    (C : ∀ x w1, Below W.heap.size W w1 → Calls Tryd.prog 11 #[.int .i64 x] w1 fun e w' => e = .returned (.bool (P x)) ∧ Below w1.heap.size w1 w')
    (RG : ∀ w1, Below W.heap.size W w1 → Calls Tryd.prog 15 #[.slice A len cap] w1 fun e w' => ∃ A' c', e = .returned (.tuple #[.slice A' n c', .int .i64 0]) ∧ Sees w' A' (xs.map (Value.int .i64)) ∧ Below W.heap.size W w') :
    ∀ w1, Below W.heap.size W w1 → Calls Tryd.prog 6 #[.slice A len cap, .func (.func 11) #[] #[]] w1 fun e w' => e = .returned (.bool (xs.all P)) ∧ Below W.heap.size W w' := by
  intro w1 hB1
  have HN := Lib.hid hn; have HC := Lib.hid C; have HR := Lib.hid RG
  clear hn C RG
  have hnil := notNil_0
  go_enter Tryd.func6, Tryd.ntmps6
  go_wp2_with (go_at_call 15; refine (HR.out _ (by assumption)).mono ?_; rintro e w2 ⟨A', c', rfl, hs2, hb2⟩)
  go_loopw [20] (fun i wr => ∃ j : Nat, j ≤ n ∧ i = .int .i64 j ∧ (xs.take j).all P = true ∧ Below W.heap.size W wr ∧ Sees wr A' (xs.map (Value.int .i64))) (fun i _ => n - (intOf i).toNat)
  case atStart => exact ⟨0, by omega, rfl, rfl, hb2, hs2⟩
  case round =>
    obtain ⟨j, hj, rfl, hall, hB, hs⟩ := hrel
    have hsW := hB.size
    have HALL := Lib.hid hall
    clear hall hs2
    by_cases hlt : j < n
    · have hjl : j < xs.length := by rw [HN.out]; exact hlt
      obtain ⟨ad, rfl, hc⟩ := seesN hs hjl
      have HT := Lib.hid (all_next xs P j hjl)
      have HM := Lib.hid (all_miss xs P j hjl)
      obtain ⟨x, hx⟩ : ∃ x, (xs[j]'hjl) = x := ⟨_, rfl⟩
      rw [hx] at hc HT HM
      have h1 := HC.out x wr hB
      obtain ⟨q, hq⟩ : ∃ q, P x = q := ⟨_, rfl⟩
      rw [hq] at h1 HT HM
      have H1 := Lib.hid h1
      have HS := Lib.hid hs
      clear h1 hq hx hs hjl
      cases q with
      | true =>
        go_wp2_with (go_at_call 11; refine H1.out.mono ?_; rintro e w3 ⟨rfl, hb3⟩)
        go_roundw
        case rel => exact ⟨j + 1, by omega, by go_num, by rw [HT.out, HALL.out]; rfl, hB.trans (hb3.mono hsW), HS.out.below hb3⟩
        case measure => simp [intOf]; omega
      | false =>
        go_wp2_with (go_at_call 11; refine H1.out.mono ?_; rintro e w3 ⟨rfl, hb3⟩)
        go_ret
        exact ⟨ret_bool (by rw [HM.out (by trivial)]), hB.trans (hb3.mono hsW)⟩
    · obtain rfl : j = n := by omega
      have e := HALL.out
      rw [List.take_of_length_le (by rw [HN.out]; omega)] at e
      have HE := Lib.hid e
      clear e hs
      go_wp2_with fail
      go_ret
      exact ⟨ret_bool (by rw [HE.out]), hB⟩
set_option maxRecDepth 100000 in
set_option maxHeartbeats 2000000 in
theorem all_good_1 (A : Option Addr) (len cap n : Nat) (xs : List Int) (P : Int → Bool) (W : World) (hn : xs.length = n) (hsmall : n ≤ 17592186044416)
    (C : ∀ x w1, Below W.heap.size W w1 → Calls Tryd.prog 16 #[.int .i64 x] w1 fun e w' => e = .returned (.bool (P x)) ∧ Below w1.heap.size w1 w')
    (RG : ∀ w1, Below W.heap.size W w1 → Calls Tryd.prog 15 #[.slice A len cap] w1 fun e w' => ∃ A' c', e = .returned (.tuple #[.slice A' n c', .int .i64 0]) ∧ Sees w' A' (xs.map (Value.int .i64)) ∧ Below W.heap.size W w') :
    ∀ w1, Below W.heap.size W w1 → Calls Tryd.prog 6 #[.slice A len cap, .func (.func 16) #[] #[]] w1 fun e w' => e = .returned (.bool (xs.all P)) ∧ Below W.heap.size W w' := by
  intro w1 hB1
  have HN := Lib.hid hn; have HC := Lib.hid C; have HR := Lib.hid RG
  clear hn C RG
  have hnil := notNil_1
  go_enter Tryd.func6, Tryd.ntmps6
  go_wp2_with (go_at_call 15; refine (HR.out _ (by assumption)).mono ?_; rintro e w2 ⟨A', c', rfl, hs2, hb2⟩)
  go_loopw [20] (fun i wr => ∃ j : Nat, j ≤ n ∧ i = .int .i64 j ∧ (xs.take j).all P = true ∧ Below W.heap.size W wr ∧ Sees wr A' (xs.map (Value.int .i64))) (fun i _ => n - (intOf i).toNat)
  case atStart => exact ⟨0, by omega, rfl, rfl, hb2, hs2⟩
  case round =>
    obtain ⟨j, hj, rfl, hall, hB, hs⟩ := hrel
    have hsW := hB.size
    have HALL := Lib.hid hall
    clear hall hs2
    by_cases hlt : j < n
    · have hjl : j < xs.length := by rw [HN.out]; exact hlt
      obtain ⟨ad, rfl, hc⟩ := seesN hs hjl
      have HT := Lib.hid (all_next xs P j hjl)
      have HM := Lib.hid (all_miss xs P j hjl)
      obtain ⟨x, hx⟩ : ∃ x, (xs[j]'hjl) = x := ⟨_, rfl⟩
      rw [hx] at hc HT HM
      have h1 := HC.out x wr hB
      obtain ⟨q, hq⟩ : ∃ q, P x = q := ⟨_, rfl⟩
      rw [hq] at h1 HT HM
      have H1 := Lib.hid h1
      have HS := Lib.hid hs
      clear h1 hq hx hs hjl
      cases q with
      | true =>
        go_wp2_with (go_at_call 16; refine H1.out.mono ?_; rintro e w3 ⟨rfl, hb3⟩)
        go_roundw
        case rel => exact ⟨j + 1, by omega, by go_num, by rw [HT.out, HALL.out]; rfl, hB.trans (hb3.mono hsW), HS.out.below hb3⟩
        case measure => simp [intOf]; omega
      | false =>
        go_wp2_with (go_at_call 16; refine H1.out.mono ?_; rintro e w3 ⟨rfl, hb3⟩)
        go_ret
        exact ⟨ret_bool (by rw [HM.out (by trivial)]), hB.trans (hb3.mono hsW)⟩
    · obtain rfl : j = n := by omega
      have e := HALL.out
      rw [List.take_of_length_le (by rw [HN.out]; omega)] at e
      have HE := Lib.hid e
      clear e hs
      go_wp2_with fail
      go_ret
      exact ⟨ret_bool (by rw [HE.out]), hB⟩
set_option maxRecDepth 100000 in
set_option maxHeartbeats 2000000 in
theorem all_good_2 (A : Option Addr) (len cap n : Nat) (xs : List Int) (P : Int → Bool) (W : World) (hn : xs.length = n) (hsmall : n ≤ 17592186044416)
    (C : ∀ x w1, Below W.heap.size W w1 → Calls Tryd.prog 12 #[.int .i64 x] w1 fun e w' => e = .returned (.bool (P x)) ∧ Below w1.heap.size w1 w')
    (RG : ∀ w1, Below W.heap.size W w1 → Calls Tryd.prog 15 #[.slice A len cap] w1 fun e w' => ∃ A' c', e = .returned (.tuple #[.slice A' n c', .int .i64 0]) ∧ Sees w' A' (xs.map (Value.int .i64)) ∧ Below W.heap.size W w') :
    ∀ w1, Below W.heap.size W w1 → Calls Tryd.prog 6 #[.slice A len cap, .func (.func 12) #[] #[]] w1 fun e w' => e = .returned (.bool (xs.all P)) ∧ Below W.heap.size W w' := by
  intro w1 hB1
  have HN := Lib.hid hn; have HC := Lib.hid C; have HR := Lib.hid RG
  clear hn C RG
  have hnil := notNil_2
  go_enter Tryd.func6, Tryd.ntmps6
  go_wp2_with (go_at_call 15; refine (HR.out _ (by assumption)).mono ?_; rintro e w2 ⟨A', c', rfl, hs2, hb2⟩)
  go_loopw [20] (fun i wr => ∃ j : Nat, j ≤ n ∧ i = .int .i64 j ∧ (xs.take j).all P = true ∧ Below W.heap.size W wr ∧ Sees wr A' (xs.map (Value.int .i64))) (fun i _ => n - (intOf i).toNat)
  case atStart => exact ⟨0, by omega, rfl, rfl, hb2, hs2⟩
  case round =>
    obtain ⟨j, hj, rfl, hall, hB, hs⟩ := hrel
    have hsW := hB.size
    have HALL := Lib.hid hall
    clear hall hs2
    by_cases hlt : j < n
    · have hjl : j < xs.length := by rw [HN.out]; exact hlt
      obtain ⟨ad, rfl, hc⟩ := seesN hs hjl
      have HT := Lib.hid (all_next xs P j hjl)
      have HM := Lib.hid (all_miss xs P j hjl)
      obtain ⟨x, hx⟩ : ∃ x, (xs[j]'hjl) = x := ⟨_, rfl⟩
      rw [hx] at hc HT HM
      have h1 := HC.out x wr hB
      obtain ⟨q, hq⟩ : ∃ q, P x = q := ⟨_, rfl⟩
      rw [hq] at h1 HT HM
      have H1 := Lib.hid h1
      have HS := Lib.hid hs
      clear h1 hq hx hs hjl
      cases q with
      | true =>
        go_wp2_with (go_at_call 12; refine H1.out.mono ?_; rintro e w3 ⟨rfl, hb3⟩)
        go_roundw
        case rel => exact ⟨j + 1, by omega, by go_num, by rw [HT.out, HALL.out]; rfl, hB.trans (hb3.mono hsW), HS.out.below hb3⟩
        case measure => simp [intOf]; omega
      | false =>
        go_wp2_with (go_at_call 12; refine H1.out.mono ?_; rintro e w3 ⟨rfl, hb3⟩)
        go_ret
        exact ⟨ret_bool (by rw [HM.out (by trivial)]), hB.trans (hb3.mono hsW)⟩
    · obtain rfl : j = n := by omega
      have e := HALL.out
      rw [List.take_of_length_le (by rw [HN.out]; omega)] at e
      have HE := Lib.hid e
      clear e hs
      go_wp2_with fail
      go_ret
      exact ⟨ret_bool (by rw [HE.out]), hB⟩
set_option maxRecDepth 100000 in
set_option maxHeartbeats 2000000 in
theorem all_good_3 (A : Option Addr) (len cap n : Nat) (xs : List Int) (P : Int → Bool) (W : World) (hn : xs.length = n) (hsmall : n ≤ 17592186044416)
    (C : ∀ x w1, Below W.heap.size W w1 → Calls Tryd.prog 13 #[.int .i64 x] w1 fun e w' => e = .returned (.bool (P x)) ∧ Below w1.heap.size w1 w')
    (RG : ∀ w1, Below W.heap.size W w1 → Calls Tryd.prog 15 #[.slice A len cap] w1 fun e w' => ∃ A' c', e = .returned (.tuple #[.slice A' n c', .int .i64 0]) ∧ Sees w' A' (xs.map (Value.int .i64)) ∧ Below W.heap.size W w') :
    ∀ w1, Below W.heap.size W w1 → Calls Tryd.prog 6 #[.slice A len cap, .func (.func 13) #[] #[]] w1 fun e w' => e = .returned (.bool (xs.all P)) ∧ Below W.heap.size W w' := by
  intro w1 hB1
  have HN := Lib.hid hn; have HC := Lib.hid C; have HR := Lib.hid RG
  clear hn C RG
  have hnil := notNil_3
  go_enter Tryd.func6, Tryd.ntmps6
  go_wp2_with (go_at_call 15; refine (HR.out _ (by assumption)).mono ?_; rintro e w2 ⟨A', c', rfl, hs2, hb2⟩)
  go_loopw [20] (fun i wr => ∃ j : Nat, j ≤ n ∧ i = .int .i64 j ∧ (xs.take j).all P = true ∧ Below W.heap.size W wr ∧ Sees wr A' (xs.map (Value.int .i64))) (fun i _ => n - (intOf i).toNat)
  case atStart => exact ⟨0, by omega, rfl, rfl, hb2, hs2⟩
  case round =>
    obtain ⟨j, hj, rfl, hall, hB, hs⟩ := hrel
    have hsW := hB.size
    have HALL := Lib.hid hall
    clear hall hs2
    by_cases hlt : j < n
    · have hjl : j < xs.length := by rw [HN.out]; exact hlt
      obtain ⟨ad, rfl, hc⟩ := seesN hs hjl
      have HT := Lib.hid (all_next xs P j hjl)
      have HM := Lib.hid (all_miss xs P j hjl)
      obtain ⟨x, hx⟩ : ∃ x, (xs[j]'hjl) = x := ⟨_, rfl⟩
      rw [hx] at hc HT HM
      have h1 := HC.out x wr hB
      obtain ⟨q, hq⟩ : ∃ q, P x = q := ⟨_, rfl⟩
      rw [hq] at h1 HT HM
      have H1 := Lib.hid h1
      have HS := Lib.hid hs
      clear h1 hq hx hs hjl
      cases q with
      | true =>
        go_wp2_with (go_at_call 13; refine H1.out.mono ?_; rintro e w3 ⟨rfl, hb3⟩)
        go_roundw
        case rel => exact ⟨j + 1, by omega, by go_num, by rw [HT.out, HALL.out]; rfl, hB.trans (hb3.mono hsW), HS.out.below hb3⟩
        case measure => simp [intOf]; omega
      | false =>
        go_wp2_with (go_at_call 13; refine H1.out.mono ?_; rintro e w3 ⟨rfl, hb3⟩)
        go_ret
        exact ⟨ret_bool (by rw [HM.out (by trivial)]), hB.trans (hb3.mono hsW)⟩
    · obtain rfl : j = n := by omega
      have e := HALL.out
      rw [List.take_of_length_le (by rw [HN.out]; omega)] at e
      have HE := Lib.hid e
      clear e hs
      go_wp2_with fail
      go_ret
      exact ⟨ret_bool (by rw [HE.out]), hB⟩
set_option maxRecDepth 100000 in
set_option maxHeartbeats 2000000 in
theorem all_good_4 (A : Option Addr) (len cap n : Nat) (xs : List Int) (P : Int → Bool) (W : World) (hn : xs.length = n) (hsmall : n ≤ 17592186044416)
    (C : ∀ x w1, Below W.heap.size W w1 → Calls Tryd.prog 17 #[.int .i64 x] w1 fun e w' => e = .returned (.bool (P x)) ∧ Below w1.heap.size w1 w')
    (RG : ∀ w1, Below W.heap.size W w1 → Calls Tryd.prog 15 #[.slice A len cap] w1 fun e w' => ∃ A' c', e = .returned (.tuple #[.slice A' n c', .int .i64 0]) ∧ Sees w' A' (xs.map (Value.int .i64)) ∧ Below W.heap.size W w') :
    ∀ w1, Below W.heap.size W w1 → Calls Tryd.prog 6 #[.slice A len cap, .func (.func 17) #[] #[]] w1 fun e w' => e = .returned (.bool (xs.all P)) ∧ Below W.heap.size W w' := by
  intro w1 hB1
  have HN := Lib.hid hn; have HC := Lib.hid C; have HR := Lib.hid RG
  clear hn C RG
  have hnil := notNil_4
  go_enter Tryd.func6, Tryd.ntmps6
  go_wp2_with (go_at_call 15; refine (HR.out _ (by assumption)).mono ?_; rintro e w2 ⟨A', c', rfl, hs2, hb2⟩)
  go_loopw [20] (fun i wr => ∃ j : Nat, j ≤ n ∧ i = .int .i64 j ∧ (xs.take j).all P = true ∧ Below W.heap.size W wr ∧ Sees wr A' (xs.map (Value.int .i64))) (fun i _ => n - (intOf i).toNat)
  case atStart => exact ⟨0, by omega, rfl, rfl, hb2, hs2⟩
  case round =>
    obtain ⟨j, hj, rfl, hall, hB, hs⟩ := hrel
    have hsW := hB.size
    have HALL := Lib.hid hall
    clear hall hs2
    by_cases hlt : j < n
    · have hjl : j < xs.length := by rw [HN.out]; exact hlt
      obtain ⟨ad, rfl, hc⟩ := seesN hs hjl
      have HT := Lib.hid (all_next xs P j hjl)
      have HM := Lib.hid (all_miss xs P j hjl)
      obtain ⟨x, hx⟩ : ∃ x, (xs[j]'hjl) = x := ⟨_, rfl⟩
      rw [hx] at hc HT HM
      have h1 := HC.out x wr hB
      obtain ⟨q, hq⟩ : ∃ q, P x = q := ⟨_, rfl⟩
      rw [hq] at h1 HT HM
      have H1 := Lib.hid h1
      have HS := Lib.hid hs
      clear h1 hq hx hs hjl
      cases q with
      | true =>
        go_wp2_with (go_at_call 17; refine H1.out.mono ?_; rintro e w3 ⟨rfl, hb3⟩)
        go_roundw
        case rel => exact ⟨j + 1, by omega, by go_num, by rw [HT.out, HALL.out]; rfl, hB.trans (hb3.mono hsW), HS.out.below hb3⟩
        case measure => simp [intOf]; omega
      | false =>
        go_wp2_with (go_at_call 17; refine H1.out.mono ?_; rintro e w3 ⟨rfl, hb3⟩)
        go_ret
        exact ⟨ret_bool (by rw [HM.out (by trivial)]), hB.trans (hb3.mono hsW)⟩
    · obtain rfl : j = n := by omega
      have e := HALL.out
      rw [List.take_of_length_le (by rw [HN.out]; omega)] at e
      have HE := Lib.hid e
      clear e hs
      go_wp2_with fail
      go_ret
      exact ⟨ret_bool (by rw [HE.out]), hB⟩
set_option maxRecDepth 100000 in
set_option maxHeartbeats 2000000 in
theorem rall_good (A : Option Addr) (len cap n : Nat) (xs : List Int) (P : Int → Bool) (W : World) (hn : xs.length = n) (hsmall : n ≤ 17592186044416) (k : Nat)
    (C : ∀ x w1, Calls Tryd.prog 10 #[.int .i64 k, .int .i64 x] w1 fun e w' => e = .returned (.bool (P x)) ∧ w1 = w')
    (RG : ∀ w1, Below W.heap.size W w1 → Calls Tryd.prog 18 #[.slice A len cap] w1 fun e w' => ∃ A' c', e = .returned (.tuple #[.slice A' n c', .int .i64 (-1)]) ∧ Sees w' A' (xs.map (Value.int .i64)) ∧ Below W.heap.size W w') :
    ∀ w1, Below W.heap.size W w1 → Calls Tryd.prog 8 #[.slice A len cap, .int .i64 k] w1 fun e w' => e = .returned (.bool (xs.all P)) ∧ Below W.heap.size W w' := by
  intro w1 hB1
  have HN := Lib.hid hn; have HC := Lib.hid C; have HR := Lib.hid RG
  clear hn C RG
  go_enter Tryd.func8, Tryd.ntmps8
  go_wp2_with (go_at_call 18; refine (HR.out _ (by assumption)).mono ?_; rintro e w2 ⟨A', c', rfl, hs2, hb2⟩)
  go_loopw [7] (fun i wr => ∃ j : Nat, j ≤ n ∧ i = .int .i64 j ∧ (xs.take j).all P = true ∧ Below W.heap.size W wr ∧ Sees wr A' (xs.map (Value.int .i64))) (fun i _ => n - (intOf i).toNat)
  case atStart => exact ⟨0, by omega, rfl, rfl, hb2, hs2⟩
  case round =>
    obtain ⟨j, hj, rfl, hall, hB, hs⟩ := hrel
    have hsW := hB.size
    have HALL := Lib.hid hall
    clear hall hs2
    by_cases hlt : j < n
    · have hjl : j < xs.length := by rw [HN.out]; exact hlt
      obtain ⟨ad, rfl, hc⟩ := seesN hs hjl
      have HT := Lib.hid (all_next xs P j hjl)
      have HM := Lib.hid (all_miss xs P j hjl)
      obtain ⟨x, hx⟩ : ∃ x, (xs[j]'hjl) = x := ⟨_, rfl⟩
      rw [hx] at hc HT HM
      have h1 := HC.out x wr
      obtain ⟨q, hq⟩ : ∃ q, P x = q := ⟨_, rfl⟩
      rw [hq] at h1 HT HM
      have H1 := Lib.hid h1
      have HS := Lib.hid hs
      clear h1 hq hx hs hjl
      cases q with
      | true =>
        go_wp2_with (go_at_call 10; refine H1.out.mono ?_; rintro e w3 ⟨rfl, rfl⟩)
        go_roundw
        case rel => exact ⟨j + 1, by omega, by go_num, by rw [HT.out, HALL.out]; rfl, hB, HS.out⟩
        case measure => simp [intOf]; omega
      | false =>
        go_wp2_with (go_at_call 10; refine H1.out.mono ?_; rintro e w3 ⟨rfl, rfl⟩)
        go_ret
        exact ⟨ret_bool (by rw [HM.out (by trivial)]), hB⟩
    · obtain rfl : j = n := by omega
      have e := HALL.out
      rw [List.take_of_length_le (by rw [HN.out]; omega)] at e
      have HE := Lib.hid e
      clear e hs
      go_wp2_with fail
      go_ret
      exact ⟨ret_bool (by rw [HE.out]), hB⟩

theorem all_bad_0 (A : Option Addr) (len cap : Nat) (W : World)
    (RB : ∀ w1, Below W.heap.size W w1 → Calls Tryd.prog 15 #[.slice A len cap] w1 fun e w' => e = .returned (.tuple #[.slice none 0 0, .int .i64 5]) ∧ Below W.heap.size W w') :
    ∀ w1, Below W.heap.size W w1 → Calls Tryd.prog 6 #[.slice A len cap, .func (.func 11) #[] #[]] w1 fun e w' => e = .returned (.bool false) ∧ Below W.heap.size W w' := by
  intro w1 hB1
  have HR := Lib.hid RB
  clear RB
  have hnil := notNil_0
  go_enter Tryd.func6, Tryd.ntmps6
  go_wp2_with (go_at_call 15; refine (HR.out _ (by assumption)).mono ?_; rintro e w2 ⟨rfl, hb2⟩)
  go_ret
  exact ⟨rfl, hb2⟩
theorem all_bad_1 (A : Option Addr) (len cap : Nat) (W : World)
    (RB : ∀ w1, Below W.heap.size W w1 → Calls Tryd.prog 15 #[.slice A len cap] w1 fun e w' => e = .returned (.tuple #[.slice none 0 0, .int .i64 5]) ∧ Below W.heap.size W w') :
    ∀ w1, Below W.heap.size W w1 → Calls Tryd.prog 6 #[.slice A len cap, .func (.func 16) #[] #[]] w1 fun e w' => e = .returned (.bool false) ∧ Below W.heap.size W w' := by
  intro w1 hB1
  have HR := Lib.hid RB
  clear RB
  have hnil := notNil_1
  go_enter Tryd.func6, Tryd.ntmps6
  go_wp2_with (go_at_call 15; refine (HR.out _ (by assumption)).mono ?_; rintro e w2 ⟨rfl, hb2⟩)
  go_ret
  exact ⟨rfl, hb2⟩
theorem all_bad_2 (A : Option Addr) (len cap : Nat) (W : World)
    (RB : ∀ w1, Below W.heap.size W w1 → Calls Tryd.prog 15 #[.slice A len cap] w1 fun e w' => e = .returned (.tuple #[.slice none 0 0, .int .i64 5]) ∧ Below W.heap.size W w') :
    ∀ w1, Below W.heap.size W w1 → Calls Tryd.prog 6 #[.slice A len cap, .func (.func 12) #[] #[]] w1 fun e w' => e = .returned (.bool false) ∧ Below W.heap.size W w' := by
  intro w1 hB1
  have HR := Lib.hid RB
  clear RB
  have hnil := notNil_2
  go_enter Tryd.func6, Tryd.ntmps6
  go_wp2_with (go_at_call 15; refine (HR.out _ (by assumption)).mono ?_; rintro e w2 ⟨rfl, hb2⟩)
  go_ret
  exact ⟨rfl, hb2⟩
theorem all_bad_3 (A : Option Addr) (len cap : Nat) (W : World)
    (RB : ∀ w1, Below W.heap.size W w1 → Calls Tryd.prog 15 #[.slice A len cap] w1 fun e w' => e = .returned (.tuple #[.slice none 0 0, .int .i64 5]) ∧ Below W.heap.size W w') :
    ∀ w1, Below W.heap.size W w1 → Calls Tryd.prog 6 #[.slice A len cap, .func (.func 13) #[] #[]] w1 fun e w' => e = .returned (.bool false) ∧ Below W.heap.size W w' := by
  intro w1 hB1
  have HR := Lib.hid RB
  clear RB
  have hnil := notNil_3
  go_enter Tryd.func6, Tryd.ntmps6
  go_wp2_with (go_at_call 15; refine (HR.out _ (by assumption)).mono ?_; rintro e w2 ⟨rfl, hb2⟩)
  go_ret
  exact ⟨rfl, hb2⟩
theorem all_bad_4 (A : Option Addr) (len cap : Nat) (W : World)
    (RB : ∀ w1, Below W.heap.size W w1 → Calls Tryd.prog 15 #[.slice A len cap] w1 fun e w' => e = .returned (.tuple #[.slice none 0 0, .int .i64 5]) ∧ Below W.heap.size W w') :
    ∀ w1, Below W.heap.size W w1 → Calls Tryd.prog 6 #[.slice A len cap, .func (.func 17) #[] #[]] w1 fun e w' => e = .returned (.bool false) ∧ Below W.heap.size W w' := by
  intro w1 hB1
  have HR := Lib.hid RB
  clear RB
  have hnil := notNil_4
  go_enter Tryd.func6, Tryd.ntmps6
  go_wp2_with (go_at_call 15; refine (HR.out _ (by assumption)).mono ?_; rintro e w2 ⟨rfl, hb2⟩)
  go_ret
  exact ⟨rfl, hb2⟩
theorem rall_bad (A : Option Addr) (len cap : Nat) (W : World) (k m : Nat)
    (RB : ∀ w1, Below W.heap.size W w1 → Calls Tryd.prog 18 #[.slice A len cap] w1 fun e w' => e = .returned (.tuple #[.slice none 0 0, .int .i64 m]) ∧ Below W.heap.size W w') :
    ∀ w1, Below W.heap.size W w1 → Calls Tryd.prog 8 #[.slice A len cap, .int .i64 k] w1 fun e w' => e = .returned (.bool false) ∧ Below W.heap.size W w' := by
  intro w1 hB1
  have HR := Lib.hid RB
  clear RB
  go_enter Tryd.func8, Tryd.ntmps8
  go_wp2_with (go_at_call 18; refine (HR.out _ (by assumption)).mono ?_; rintro e w2 ⟨rfl, hb2⟩)
  go_ret
  exact ⟨rfl, hb2⟩
theorem all_nil (A : Option Addr) (len cap : Nat) (w : World) :
    Calls Tryd.prog 6 #[.slice A len cap, .nilFunc] w fun e w' => e = .returned (.bool false) ∧ w = w' := by
  have hnil := isNil_
  go_enter Tryd.func6, Tryd.ntmps6
  go_wp2_with fail
  go_ret
  exact ⟨rfl, rfl⟩
end Go.Proofs.YtpgpniemkmiljaaDoor
