/- Contracts of package chars: who goes through a table. -/
import Derived.Test.YtdmfladcldkmeaaDoorTab
namespace Go.Proofs.YtdmfladcldkmeaaDoor
open Go.ChangeShapes Go.WideShapes Go.ChangeAt Go.RowKit
set_option linter.unusedVariables false
set_option maxRecDepth 100000

theorem hasT_succ (T : List (Int × Int)) (k : Nat) (r : Int) (h : k < T.length) : hasT (T.take (k + 1)) r = (hasT (T.take k) r || (decide ((T[k]'h).1 ≤ r) && decide (r ≤ (T[k]'h).2))) := by
  unfold hasT; rw [List.take_succ_eq_append_getElem h, List.any_append]; simp
theorem hasT_mem (T : List (Int × Int)) (k : Nat) (r : Int) (h : k < T.length) (hq : (decide ((T[k]'h).1 ≤ r) && decide (r ≤ (T[k]'h).2)) = true) : hasT T r = true := by
  unfold hasT
  rw [List.any_eq_true]
  exact ⟨T[k], List.getElem_mem h, hq⟩

theorem idx_charT (k : Nat) (h : k < 5) : ∀ w : World, (Instr.index 191 (.agg (flatT charT).toArray) (.int .i64 (k : Int))).run Tryd.prog w = .ok (.agg #[.int .i64 (charT[k]'h).1, .int .i64 (charT[k]'h).2]) w := by
  match k, h with
  | 0, _ => exact fun _ => by kernel_rfl
  | 1, _ => exact fun _ => by kernel_rfl
  | 2, _ => exact fun _ => by kernel_rfl
  | 3, _ => exact fun _ => by kernel_rfl
  | 4, _ => exact fun _ => by kernel_rfl

set_option maxRecDepth 100000 in
set_option maxHeartbeats 1000000 in
theorem char_c (r : Int) (w : World) (ht : TabC w) :
    Calls Tryd.prog 130 #[.int .i64 r] w fun e w' => e = .returned (.bool (hasT charT r)) ∧ Below w.heap.size w w' := by
  obtain ⟨tt, fr, hg⟩ := ht.char
  have HT := Lib.hid ht
  clear ht
  go_enter Tryd.func130, Tryd.ntmps130
  go_wp2_with (refine wpList_load_row rfl 191 _ rfl 1 rfl tt (flatT charT).toArray fr _ hg Tryd.underlying191 rfl (by kernel_rfl) ?_)
  clear hg
  go_loopw [6] (fun i wr => ∃ k : Nat, k ≤ 5 ∧ i = .int .i64 k ∧ hasT (charT.take k) r = false ∧ Below w.heap.size w wr) (fun i _ => 5 - (intOf i).toNat)
  case atStart => exact ⟨0, by omega, rfl, rfl, Below.refl _ _⟩
  case round =>
    obtain ⟨k, hk, rfl, hno, hB⟩ := hrel
    have HNO := Lib.hid hno
    have hsW := hB.size
    clear hno
    by_cases hlt : k < 5
    · have hix := idx_charT k hlt
      have HS := Lib.hid (hasT_succ charT k r hlt)
      have HY := Lib.hid (hasT_mem charT k r hlt)
      obtain ⟨a, ha⟩ : ∃ a, (charT[k]'hlt).1 = a := ⟨_, rfl⟩
      obtain ⟨b, hb⟩ : ∃ b, (charT[k]'hlt).2 = b := ⟨_, rfl⟩
      rw [ha, hb] at hix HS HY
      clear ha hb
      obtain ⟨q, hq⟩ : ∃ q, (decide (a ≤ r) && decide (r ≤ b)) = q := ⟨_, rfl⟩
      have HC := fun w => has_any a b r w
      rw [hq] at HC HS HY
      have HH := Lib.hid HC
      clear hq HC
      cases q with
      | true =>
        go_wp2_with (go_at_call 118; refine (HH.out _).mono ?_; rintro e w1 ⟨rfl, hb1⟩)
        go_ret
        exact ⟨ret_bool (by rw [HY.out (by trivial)]), (hB.alloc hsW _).trans (hb1.mono (by simp; omega))⟩
      | false =>
        go_wp2_with (go_at_call 118; refine (HH.out _).mono ?_; rintro e w1 ⟨rfl, hb1⟩)
        go_roundw
        case rel => exact ⟨k + 1, by omega, by go_num, by rw [HS.out, HNO.out]; rfl, (hB.alloc hsW _).trans (hb1.mono (by simp; omega))⟩
        case measure => simp [intOf]; omega
    · obtain rfl : k = 5 := by omega
      go_wp2_with fail
      go_ret
      exact ⟨ret_bool HNO.out.symm, hB⟩

theorem char_any (r : Int) (w : World) (ht : Tables w) :
    Calls Tryd.prog 130 #[.int .i64 r] w fun e w' => e = .returned (.bool (hasT charT r)) ∧ Below w.heap.size w w' := char_c r w ht.toTabC
theorem idx_startT (k : Nat) (h : k < 16) : ∀ w : World, (Instr.index 199 (.agg (flatT startT).toArray) (.int .i64 (k : Int))).run Tryd.prog w = .ok (.agg #[.int .i64 (startT[k]'h).1, .int .i64 (startT[k]'h).2]) w := by
  match k, h with
  | 0, _ => exact fun _ => by kernel_rfl
  | 1, _ => exact fun _ => by kernel_rfl
  | 2, _ => exact fun _ => by kernel_rfl
  | 3, _ => exact fun _ => by kernel_rfl
  | 4, _ => exact fun _ => by kernel_rfl
  | 5, _ => exact fun _ => by kernel_rfl
  | 6, _ => exact fun _ => by kernel_rfl
  | 7, _ => exact fun _ => by kernel_rfl
  | 8, _ => exact fun _ => by kernel_rfl
  | 9, _ => exact fun _ => by kernel_rfl
  | 10, _ => exact fun _ => by kernel_rfl
  | 11, _ => exact fun _ => by kernel_rfl
  | 12, _ => exact fun _ => by kernel_rfl
  | 13, _ => exact fun _ => by kernel_rfl
  | 14, _ => exact fun _ => by kernel_rfl
  | 15, _ => exact fun _ => by kernel_rfl
  | j + 16, h => exact absurd h (by omega)

set_option maxRecDepth 100000 in
set_option maxHeartbeats 1000000 in
theorem nameStart_n (r : Int) (w : World) (ht : TabN w) :
    Calls Tryd.prog 142 #[.int .i64 r] w fun e w' => e = .returned (.bool (hasT startT r)) ∧ Below w.heap.size w w' := by
  obtain ⟨tt, fr, hg⟩ := ht.start
  have HT := Lib.hid ht
  clear ht
  go_enter Tryd.func142, Tryd.ntmps142
  go_wp2_with (refine wpList_load_row rfl 199 _ rfl 2 rfl tt (flatT startT).toArray fr _ hg Tryd.underlying199 rfl (by kernel_rfl) ?_)
  clear hg
  go_loopw [6] (fun i wr => ∃ k : Nat, k ≤ 16 ∧ i = .int .i64 k ∧ hasT (startT.take k) r = false ∧ Below w.heap.size w wr) (fun i _ => 16 - (intOf i).toNat)
  case atStart => exact ⟨0, by omega, rfl, rfl, Below.refl _ _⟩
  case round =>
    obtain ⟨k, hk, rfl, hno, hB⟩ := hrel
    have HNO := Lib.hid hno
    have hsW := hB.size
    clear hno
    by_cases hlt : k < 16
    · have hix := idx_startT k hlt
      have HS := Lib.hid (hasT_succ startT k r hlt)
      have HY := Lib.hid (hasT_mem startT k r hlt)
      obtain ⟨a, ha⟩ : ∃ a, (startT[k]'hlt).1 = a := ⟨_, rfl⟩
      obtain ⟨b, hb⟩ : ∃ b, (startT[k]'hlt).2 = b := ⟨_, rfl⟩
      rw [ha, hb] at hix HS HY
      clear ha hb
      obtain ⟨q, hq⟩ : ∃ q, (decide (a ≤ r) && decide (r ≤ b)) = q := ⟨_, rfl⟩
      have HC := fun w => has_any a b r w
      rw [hq] at HC HS HY
      have HH := Lib.hid HC
      clear hq HC
      cases q with
      | true =>
        go_wp2_with (go_at_call 118; refine (HH.out _).mono ?_; rintro e w1 ⟨rfl, hb1⟩)
        go_ret
        exact ⟨ret_bool (by rw [HY.out (by trivial)]), (hB.alloc hsW _).trans (hb1.mono (by simp; omega))⟩
      | false =>
        go_wp2_with (go_at_call 118; refine (HH.out _).mono ?_; rintro e w1 ⟨rfl, hb1⟩)
        go_roundw
        case rel => exact ⟨k + 1, by omega, by go_num, by rw [HS.out, HNO.out]; rfl, (hB.alloc hsW _).trans (hb1.mono (by simp; omega))⟩
        case measure => simp [intOf]; omega
    · obtain rfl : k = 16 := by omega
      go_wp2_with fail
      go_ret
      exact ⟨ret_bool HNO.out.symm, hB⟩

theorem idx_followT (k : Nat) (h : k < 5) : ∀ w : World, (Instr.index 191 (.agg (flatT followT).toArray) (.int .i64 (k : Int))).run Tryd.prog w = .ok (.agg #[.int .i64 (followT[k]'h).1, .int .i64 (followT[k]'h).2]) w := by
  match k, h with
  | 0, _ => exact fun _ => by kernel_rfl
  | 1, _ => exact fun _ => by kernel_rfl
  | 2, _ => exact fun _ => by kernel_rfl
  | 3, _ => exact fun _ => by kernel_rfl
  | 4, _ => exact fun _ => by kernel_rfl

set_option maxRecDepth 100000 in
set_option maxHeartbeats 1000000 in
theorem nameChar_n (r : Int) (w : World) (ht : TabN w) :
    Calls Tryd.prog 143 #[.int .i64 r] w fun e w' => e = .returned (.bool (hasT followT r || hasT startT r)) ∧ Below w.heap.size w w' := by
  obtain ⟨tt, fr, hg⟩ := ht.follow
  have HT := Lib.hid ht
  clear ht
  go_enter Tryd.func143, Tryd.ntmps143
  go_wp2_with (refine wpList_load_row rfl 191 _ rfl 3 rfl tt (flatT followT).toArray fr _ hg Tryd.underlying191 rfl (by kernel_rfl) ?_)
  clear hg
  go_loopw [6] (fun i wr => ∃ k : Nat, k ≤ 5 ∧ i = .int .i64 k ∧ hasT (followT.take k) r = false ∧ Below w.heap.size w wr) (fun i _ => 5 - (intOf i).toNat)
  case atStart => exact ⟨0, by omega, rfl, rfl, Below.refl _ _⟩
  case round =>
    obtain ⟨k, hk, rfl, hno, hB⟩ := hrel
    have HNO := Lib.hid hno
    have hsW := hB.size
    clear hno
    by_cases hlt : k < 5
    · have hix := idx_followT k hlt
      have HS := Lib.hid (hasT_succ followT k r hlt)
      have HY := Lib.hid (hasT_mem followT k r hlt)
      obtain ⟨a, ha⟩ : ∃ a, (followT[k]'hlt).1 = a := ⟨_, rfl⟩
      obtain ⟨b, hb⟩ : ∃ b, (followT[k]'hlt).2 = b := ⟨_, rfl⟩
      rw [ha, hb] at hix HS HY
      clear ha hb
      obtain ⟨q, hq⟩ : ∃ q, (decide (a ≤ r) && decide (r ≤ b)) = q := ⟨_, rfl⟩
      have HC := fun w => has_any a b r w
      rw [hq] at HC HS HY
      have HH := Lib.hid HC
      clear hq HC
      cases q with
      | true =>
        go_wp2_with (go_at_call 118; refine (HH.out _).mono ?_; rintro e w1 ⟨rfl, hb1⟩)
        go_ret
        exact ⟨ret_bool (by rw [HY.out (by trivial)]; rfl), (hB.alloc hsW _).trans (hb1.mono (by simp; omega))⟩
      | false =>
        go_wp2_with (go_at_call 118; refine (HH.out _).mono ?_; rintro e w1 ⟨rfl, hb1⟩)
        go_roundw
        case rel => exact ⟨k + 1, by omega, by go_num, by rw [HS.out, HNO.out]; rfl, (hB.alloc hsW _).trans (hb1.mono (by simp; omega))⟩
        case measure => simp [intOf]; omega
    · obtain rfl : k = 5 := by omega
      have hno : hasT followT r = false := HNO.out
      have HN := Lib.hid hno
      clear hno
      have H2 := Lib.hid (nameStart_n r wr (HT.out.below hB))
      go_wp2_with (go_at_call 142; refine H2.out.mono ?_; rintro e w1 ⟨rfl, hb1⟩)
      go_ret
      exact ⟨ret_bool (by rw [HN.out]; rfl), hB.trans (hb1.mono hsW)⟩

theorem idx_pubidT (k : Nat) (h : k < 9) : ∀ w : World, (Instr.index 165 (.agg (flatT pubidT).toArray) (.int .i64 (k : Int))).run Tryd.prog w = .ok (.agg #[.int .i64 (pubidT[k]'h).1, .int .i64 (pubidT[k]'h).2]) w := by
  match k, h with
  | 0, _ => exact fun _ => by kernel_rfl
  | 1, _ => exact fun _ => by kernel_rfl
  | 2, _ => exact fun _ => by kernel_rfl
  | 3, _ => exact fun _ => by kernel_rfl
  | 4, _ => exact fun _ => by kernel_rfl
  | 5, _ => exact fun _ => by kernel_rfl
  | 6, _ => exact fun _ => by kernel_rfl
  | 7, _ => exact fun _ => by kernel_rfl
  | 8, _ => exact fun _ => by kernel_rfl

set_option maxRecDepth 100000 in
set_option maxHeartbeats 1000000 in
theorem pubid_any (r : Int) (w : World) (ht : Tables w) :
    Calls Tryd.prog 84 #[.int .i64 r] w fun e w' => e = .returned (.bool (hasT pubidT r)) ∧ Below w.heap.size w w' := by
  obtain ⟨tt, fr, hg⟩ := ht.pubid
  have HT := Lib.hid ht
  clear ht
  go_enter Tryd.func84, Tryd.ntmps84
  go_wp2_with (refine wpList_load_row rfl 165 _ rfl 0 rfl tt (flatT pubidT).toArray fr _ hg Tryd.underlying165 rfl (by kernel_rfl) ?_)
  clear hg
  go_loopw [6] (fun i wr => ∃ k : Nat, k ≤ 9 ∧ i = .int .i64 k ∧ hasT (pubidT.take k) r = false ∧ Below w.heap.size w wr) (fun i _ => 9 - (intOf i).toNat)
  case atStart => exact ⟨0, by omega, rfl, rfl, Below.refl _ _⟩
  case round =>
    obtain ⟨k, hk, rfl, hno, hB⟩ := hrel
    have HNO := Lib.hid hno
    have hsW := hB.size
    clear hno
    by_cases hlt : k < 9
    · have hix := idx_pubidT k hlt
      have HS := Lib.hid (hasT_succ pubidT k r hlt)
      have HY := Lib.hid (hasT_mem pubidT k r hlt)
      obtain ⟨a, ha⟩ : ∃ a, (pubidT[k]'hlt).1 = a := ⟨_, rfl⟩
      obtain ⟨b, hb⟩ : ∃ b, (pubidT[k]'hlt).2 = b := ⟨_, rfl⟩
      rw [ha, hb] at hix HS HY
      clear ha hb
      obtain ⟨q, hq⟩ : ∃ q, (decide (a ≤ r) && decide (r ≤ b)) = q := ⟨_, rfl⟩
      have HC := fun w => has_any a b r w
      rw [hq] at HC HS HY
      have HH := Lib.hid HC
      clear hq HC
      cases q with
      | true =>
        go_wp2_with (go_at_call 118; refine (HH.out _).mono ?_; rintro e w1 ⟨rfl, hb1⟩)
        go_ret
        exact ⟨ret_bool (by rw [HY.out (by trivial)]), (hB.alloc hsW _).trans (hb1.mono (by simp; omega))⟩
      | false =>
        go_wp2_with (go_at_call 118; refine (HH.out _).mono ?_; rintro e w1 ⟨rfl, hb1⟩)
        go_roundw
        case rel => exact ⟨k + 1, by omega, by go_num, by rw [HS.out, HNO.out]; rfl, (hB.alloc hsW _).trans (hb1.mono (by simp; omega))⟩
        case measure => simp [intOf]; omega
    · obtain rfl : k = 9 := by omega
      go_wp2_with fail
      go_ret
      exact ⟨ret_bool HNO.out.symm, hB⟩
theorem nameStart_any (r : Int) (w : World) (ht : Tables w) :
    Calls Tryd.prog 142 #[.int .i64 r] w fun e w' => e = .returned (.bool (hasT startT r)) ∧ Below w.heap.size w w' := nameStart_n r w ht.toN
theorem nameChar_any (r : Int) (w : World) (ht : Tables w) :
    Calls Tryd.prog 143 #[.int .i64 r] w fun e w' => e = .returned (.bool (hasT followT r || hasT startT r)) ∧ Below w.heap.size w w' := nameChar_n r w ht.toN
end Go.Proofs.YtdmfladcldkmeaaDoor
