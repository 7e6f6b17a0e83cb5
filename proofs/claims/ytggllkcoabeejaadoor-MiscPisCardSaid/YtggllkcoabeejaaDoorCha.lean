/- Contracts of package chars: who goes through a table. -/
import Derived.Test.YtggllkcoabeejaaDoorTab
namespace Go.Proofs.YtggllkcoabeejaaDoor
open Go.ChangeShapes Go.WideShapes Go.ChangeAt Go.RowKit
set_option linter.unusedVariables false
set_option maxRecDepth 100000

theorem hasT_succ (T : List (Int × Int)) (k : Nat) (r : Int) (h : k < T.length) : hasT (T.take (k + 1)) r = (hasT (T.take k) r || (decide ((T[k]'h).1 ≤ r) && decide (r ≤ (T[k]'h).2))) := by
  unfold hasT; rw [List.take_succ_eq_append_getElem h, List.any_append]; simp
theorem hasT_mem (T : List (Int × Int)) (k : Nat) (r : Int) (h : k < T.length) (hq : (decide ((T[k]'h).1 ≤ r) && decide (r ≤ (T[k]'h).2)) = true) : hasT T r = true := by
  unfold hasT
  rw [List.any_eq_true]
  exact ⟨T[k], List.getElem_mem h, hq⟩

theorem idx_charT (k : Nat) (h : k < 5) : ∀ w : World, (Instr.index 84 (.agg (flatT charT).toArray) (.int .i64 (k : Int))).run Tryd.prog w = .ok (.agg #[.int .i64 (charT[k]'h).1, .int .i64 (charT[k]'h).2]) w := by
  match k, h with
  | 0, _ => exact fun _ => by kernel_rfl
  | 1, _ => exact fun _ => by kernel_rfl
  | 2, _ => exact fun _ => by kernel_rfl
  | 3, _ => exact fun _ => by kernel_rfl
  | 4, _ => exact fun _ => by kernel_rfl
theorem idx_startT (k : Nat) (h : k < 16) : ∀ w : World, (Instr.index 83 (.agg (flatT startT).toArray) (.int .i64 (k : Int))).run Tryd.prog w = .ok (.agg #[.int .i64 (startT[k]'h).1, .int .i64 (startT[k]'h).2]) w := by
  match k, h with
  | 0, _ => exact fun _ => by kernel_rfl
  | 1, _ => exact fun _ => by kernel_rfl
  | 2, _ => exact fun _ => by kernel_rfl
  | 3, _ => exact fun _ => by kernel_rfl
  | 4, _ => exact fun _ => by kernel_rfl
  | 5, _ => exact fun _ => by kernel_rfl
  | 6, _ => exact fun _ => by kernel_rfl
  | 7, _ => exact fun _ => by kernel_rfl
  | 8, _ => exact fun _ => by kernel_rfl
  | 9, _ => exact fun _ => by kernel_rfl
  | 10, _ => exact fun _ => by kernel_rfl
  | 11, _ => exact fun _ => by kernel_rfl
  | 12, _ => exact fun _ => by kernel_rfl
  | 13, _ => exact fun _ => by kernel_rfl
  | 14, _ => exact fun _ => by kernel_rfl
  | 15, _ => exact fun _ => by kernel_rfl
  | j + 16, h => exact absurd h (by omega)

set_option maxRecDepth 100000 in
set_option maxHeartbeats 1000000 in
theorem nameStart_n (r : Int) (w : World) (ht : TabN w) :
    Calls Tryd.prog 56 #[.int .i64 r] w fun e w' => e = .returned (.bool (hasT startT r)) ∧ Below w.heap.size w w' := by
  obtain ⟨tt, fr, hg⟩ := ht.start
  have HT := Lib.hid ht
  clear ht
  go_enter Tryd.func56, Tryd.ntmps56
  go_wp2_with (refine wpList_load_row rfl 83 _ rfl 4 rfl tt (flatT startT).toArray fr _ hg Tryd.underlying83 rfl (by kernel_rfl) ?_)
  clear hg
  go_loopw [6] (fun i wr => ∃ k : Nat, k ≤ 16 ∧ i = .int .i64 k ∧ hasT (startT.take k) r = false ∧ Below w.heap.size w wr) (fun i _ => 16 - (intOf i).toNat)
  case atStart => exact ⟨0, by omega, rfl, rfl, Below.refl _ _⟩
  case round =>
    obtain ⟨k, hk, rfl, hno, hB⟩ := hrel
    have HNO := Lib.hid hno
    have hsW := hB.size
    clear hno
    by_cases hlt : k < 16
    · have hix := idx_startT k hlt
      have HS := Lib.hid (hasT_succ startT k r hlt)
      have HY := Lib.hid (hasT_mem startT k r hlt)
      obtain ⟨a, ha⟩ : ∃ a, (startT[k]'hlt).1 = a := ⟨_, rfl⟩
      obtain ⟨b, hb⟩ : ∃ b, (startT[k]'hlt).2 = b := ⟨_, rfl⟩
      rw [ha, hb] at hix HS HY
      clear ha hb
      obtain ⟨q, hq⟩ : ∃ q, (decide (a ≤ r) && decide (r ≤ b)) = q := ⟨_, rfl⟩
      have HC := fun w => has_any a b r w
      rw [hq] at HC HS HY
      have HH := Lib.hid HC
      clear hq HC
      cases q with
      | true =>
        go_wp2_with (go_at_call 69; refine (HH.out _).mono ?_; rintro e w1 ⟨rfl, hb1⟩)
        go_ret
        exact ⟨ret_bool (by rw [HY.out (by trivial)]), (hB.alloc hsW _).trans (hb1.mono (by simp; omega))⟩
      | false =>
        go_wp2_with (go_at_call 69; refine (HH.out _).mono ?_; rintro e w1 ⟨rfl, hb1⟩)
        go_roundw
        case rel => exact ⟨k + 1, by omega, by go_num, by rw [HS.out, HNO.out]; rfl, (hB.alloc hsW _).trans (hb1.mono (by simp; omega))⟩
        case measure => simp [intOf]; omega
    · obtain rfl : k = 16 := by omega
      go_wp2_with fail
      go_ret
      exact ⟨ret_bool HNO.out.symm, hB⟩

theorem idx_followT (k : Nat) (h : k < 5) : ∀ w : World, (Instr.index 84 (.agg (flatT followT).toArray) (.int .i64 (k : Int))).run Tryd.prog w = .ok (.agg #[.int .i64 (followT[k]'h).1, .int .i64 (followT[k]'h).2]) w := by
  match k, h with
  | 0, _ => exact fun _ => by kernel_rfl
  | 1, _ => exact fun _ => by kernel_rfl
  | 2, _ => exact fun _ => by kernel_rfl
  | 3, _ => exact fun _ => by kernel_rfl
  | 4, _ => exact fun _ => by kernel_rfl

set_option maxRecDepth 100000 in
set_option maxHeartbeats 1000000 in
theorem nameChar_n (r : Int) (w : World) (ht : TabN w) :
    Calls Tryd.prog 57 #[.int .i64 r] w fun e w' => e = .returned (.bool (hasT followT r || hasT startT r)) ∧ Below w.heap.size w w' := by
  obtain ⟨tt, fr, hg⟩ := ht.follow
  have HT := Lib.hid ht
  clear ht
  go_enter Tryd.func57, Tryd.ntmps57
  go_wp2_with (refine wpList_load_row rfl 84 _ rfl 5 rfl tt (flatT followT).toArray fr _ hg Tryd.underlying84 rfl (by kernel_rfl) ?_)
  clear hg
  go_loopw [6] (fun i wr => ∃ k : Nat, k ≤ 5 ∧ i = .int .i64 k ∧ hasT (followT.take k) r = false ∧ Below w.heap.size w wr) (fun i _ => 5 - (intOf i).toNat)
  case atStart => exact ⟨0, by omega, rfl, rfl, Below.refl _ _⟩
  case round =>
    obtain ⟨k, hk, rfl, hno, hB⟩ := hrel
    have HNO := Lib.hid hno
    have hsW := hB.size
    clear hno
    by_cases hlt : k < 5
    · have hix := idx_followT k hlt
      have HS := Lib.hid (hasT_succ followT k r hlt)
      have HY := Lib.hid (hasT_mem followT k r hlt)
      obtain ⟨a, ha⟩ : ∃ a, (followT[k]'hlt).1 = a := ⟨_, rfl⟩
      obtain ⟨b, hb⟩ : ∃ b, (followT[k]'hlt).2 = b := ⟨_, rfl⟩
      rw [ha, hb] at hix HS HY
      clear ha hb
      obtain ⟨q, hq⟩ : ∃ q, (decide (a ≤ r) && decide (r ≤ b)) = q := ⟨_, rfl⟩
      have HC := fun w => has_any a b r w
      rw [hq] at HC HS HY
      have HH := Lib.hid HC
      clear hq HC
      cases q with
      | true =>
        go_wp2_with (go_at_call 69; refine (HH.out _).mono ?_; rintro e w1 ⟨rfl, hb1⟩)
        go_ret
        exact ⟨ret_bool (by rw [HY.out (by trivial)]; rfl), (hB.alloc hsW _).trans (hb1.mono (by simp; omega))⟩
      | false =>
        go_wp2_with (go_at_call 69; refine (HH.out _).mono ?_; rintro e w1 ⟨rfl, hb1⟩)
        go_roundw
        case rel => exact ⟨k + 1, by omega, by go_num, by rw [HS.out, HNO.out]; rfl, (hB.alloc hsW _).trans (hb1.mono (by simp; omega))⟩
        case measure => simp [intOf]; omega
    · obtain rfl : k = 5 := by omega
      have hno : hasT followT r = false := HNO.out
      have HN := Lib.hid hno
      clear hno
      have H2 := Lib.hid (nameStart_n r wr (HT.out.below hB))
      go_wp2_with (go_at_call 56; refine H2.out.mono ?_; rintro e w1 ⟨rfl, hb1⟩)
      go_ret
      exact ⟨ret_bool (by rw [HN.out]; rfl), hB.trans (hb1.mono hsW)⟩


theorem nameStart_any (r : Int) (w : World) (ht : Tables w) :
    Calls Tryd.prog 56 #[.int .i64 r] w fun e w' => e = .returned (.bool (hasT startT r)) ∧ Below w.heap.size w w' := nameStart_n r w ht.toN
theorem nameChar_any (r : Int) (w : World) (ht : Tables w) :
    Calls Tryd.prog 57 #[.int .i64 r] w fun e w' => e = .returned (.bool (hasT followT r || hasT startT r)) ∧ Below w.heap.size w w' := nameChar_n r w ht.toN
end Go.Proofs.YtggllkcoabeejaaDoor
