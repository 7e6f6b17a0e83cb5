/- Contracts: the document's own answers for names and public identifiers. -/
import Derived.Test.YtdmfladcldkmeaaDoorChb
namespace Go.Proofs.YtdmfladcldkmeaaDoor
open Go.ChangeShapes Go.WideShapes Go.ChangeAt Go.RowKit
set_option linter.unusedVariables false
set_option maxRecDepth 100000

set_option maxRecDepth 100000 in
set_option maxHeartbeats 8000000 in
theorem rstart_any (r : Int) (w : World) :
    Calls Tryd.prog 135 #[.int .i64 r] w fun e w' => e = .returned (.bool (hasT startT r)) ∧ w = w' := by
  by_cases c1 : r < 128
  · go_enter Tryd.func135, Tryd.ntmps135
    go_wp2
    all_goals
      go_ret
      exact ⟨ret_bool (by rw [Bool.eq_iff_iff, startT_iff]; simp; try omega), rfl⟩
  by_cases c2 : r < 8192
  · go_enter Tryd.func135, Tryd.ntmps135
    go_wp2
    all_goals
      go_ret
      exact ⟨ret_bool (by rw [Bool.eq_iff_iff, startT_iff]; simp; try omega), rfl⟩
  · go_enter Tryd.func135, Tryd.ntmps135
    go_wp2
    all_goals
      go_ret
      exact ⟨ret_bool (by rw [Bool.eq_iff_iff, startT_iff]; simp; try omega), rfl⟩

set_option maxRecDepth 100000 in
set_option maxHeartbeats 4000000 in
theorem rname_any (r : Int) (w : World) :
    Calls Tryd.prog 134 #[.int .i64 r] w fun e w' => e = .returned (.bool (hasT followT r || hasT startT r)) ∧ w = w' := by
  cases hs : hasT startT r with
  | true =>
    have H := Lib.hid (show ∀ w : World, Calls Tryd.prog 135 #[.int .i64 r] w fun e w' => e = .returned (.bool true) ∧ w = w' from fun w => hs ▸ rstart_any r w)
    clear hs
    go_enter Tryd.func134, Tryd.ntmps134
    go_wp2_with (go_at_call 135; refine (H.out _).mono ?_; rintro e w1 ⟨rfl, rfl⟩)
    go_ret
    exact ⟨ret_bool (by simp), rfl⟩
  | false =>
    have H := Lib.hid (show ∀ w : World, Calls Tryd.prog 135 #[.int .i64 r] w fun e w' => e = .returned (.bool false) ∧ w = w' from fun w => hs ▸ rstart_any r w)
    clear hs
    go_enter Tryd.func134, Tryd.ntmps134
    go_wp2_with (go_at_call 135; refine (H.out _).mono ?_; rintro e w1 ⟨rfl, rfl⟩)
    all_goals
      go_ret
      exact ⟨ret_bool (by rw [Bool.eq_iff_iff]; first | rw [Bool.or_false, followT_iff] | rw [followT_iff]
                          simp; try omega), rfl⟩

def pubS : List Nat := [45, 39, 40, 41, 43, 44, 46, 47, 58, 61, 63, 59, 33, 42, 35, 64, 36, 95, 37]
theorem idx_pub (k : Nat) (h : k < 19) : ∀ w : World, (Instr.index 9 (.string { data := #[45, 39, 40, 41, 43, 44, 46, 47, 58, 61, 63, 59, 33, 42, 35, 64, 36, 95, 37] }) (.int .i64 (k : Int))).run Tryd.prog w = .ok (.int .u8 ((pubS[k]'h : Nat) : Int)) w := by
  match k, h with
  | 0, _ => exact fun _ => by kernel_rfl
  | 1, _ => exact fun _ => by kernel_rfl
  | 2, _ => exact fun _ => by kernel_rfl
  | 3, _ => exact fun _ => by kernel_rfl
  | 4, _ => exact fun _ => by kernel_rfl
  | 5, _ => exact fun _ => by kernel_rfl
  | 6, _ => exact fun _ => by kernel_rfl
  | 7, _ => exact fun _ => by kernel_rfl
  | 8, _ => exact fun _ => by kernel_rfl
  | 9, _ => exact fun _ => by kernel_rfl
  | 10, _ => exact fun _ => by kernel_rfl
  | 11, _ => exact fun _ => by kernel_rfl
  | 12, _ => exact fun _ => by kernel_rfl
  | 13, _ => exact fun _ => by kernel_rfl
  | 14, _ => exact fun _ => by kernel_rfl
  | 15, _ => exact fun _ => by kernel_rfl
  | 16, _ => exact fun _ => by kernel_rfl
  | 17, _ => exact fun _ => by kernel_rfl
  | 18, _ => exact fun _ => by kernel_rfl
  | j + 19, h => exact absurd h (by omega)
theorem pub_rest (r : Int) (h : ∀ k (hk : k < 19), ((pubS[k]'hk : Nat) : Int) ≠ r) (h1 : r ≠ 32 ∧ r ≠ 13 ∧ r ≠ 10 ∧ ¬ (97 ≤ r ∧ r ≤ 122) ∧ ¬ (65 ≤ r ∧ r ≤ 90) ∧ ¬ (48 ≤ r ∧ r ≤ 57)) : hasT pubidT r = false := by
  rw [Bool.eq_false_iff]
  intro hp
  rw [ne_eq] at h1
  have hp := (pubidT_iff r).1 hp
  have a := fun k hk => h k hk
  simp only [pubS] at a
  have a0 := a 0 (by omega); have a1 := a 1 (by omega); have a2 := a 2 (by omega); have a3 := a 3 (by omega); have a4 := a 4 (by omega); have a5 := a 5 (by omega)
  have a6 := a 6 (by omega); have a7 := a 7 (by omega); have a8 := a 8 (by omega); have a9 := a 9 (by omega); have a10 := a 10 (by omega); have a11 := a 11 (by omega)
  have a12 := a 12 (by omega); have a13 := a 13 (by omega); have a14 := a 14 (by omega); have a15 := a 15 (by omega); have a16 := a 16 (by omega); have a17 := a 17 (by omega); have a18 := a 18 (by omega)
  simp at a0 a1 a2 a3 a4 a5 a6 a7 a8 a9 a10 a11 a12 a13 a14 a15 a16 a17 a18
  omega
theorem pub_hit (k : Nat) (hk : k < 19) : hasT pubidT ((pubS[k]'hk : Nat) : Int) = true := by
  have h : ∀ y ∈ pubS, hasT pubidT ((y : Nat) : Int) = true := by decide
  exact h _ (List.getElem_mem hk)

set_option maxRecDepth 100000 in
set_option maxHeartbeats 4000000 in
theorem rpubid_any (r : Int) (w : World) :
    Calls Tryd.prog 180 #[.int .i64 r] w fun e w' => e = .returned (.bool (hasT pubidT r)) ∧ w = w' := by
  by_cases hE : r = 32 ∨ r = 13 ∨ r = 10 ∨ (97 ≤ r ∧ r ≤ 122) ∨ (65 ≤ r ∧ r ≤ 90) ∨ (48 ≤ r ∧ r ≤ 57)
  · rcases hE with rfl | rfl | rfl | ⟨h1, h2⟩ | ⟨h1, h2⟩ | ⟨h1, h2⟩
    all_goals
      go_enter Tryd.func180, Tryd.ntmps180
      go_wp2_with fail
      go_ret
      exact ⟨ret_bool (by rw [Bool.eq_iff_iff, pubidT_iff]; simp; try omega), rfl⟩
  · have HE := Lib.hid hE
    have D : r < 48 ∨ (57 < r ∧ r < 65) ∨ (90 < r ∧ r < 97) ∨ 122 < r := by omega
    have h1 : (r == 32) = false := by simp; omega
    have h2 : (r == 13) = false := by simp; omega
    have h3 : (r == 10) = false := by simp; omega
    clear hE
    rcases D with d | ⟨d, d'⟩ | ⟨d, d'⟩ | d
    all_goals
      go_enter Tryd.func180, Tryd.ntmps180
      go_wp2_with fail
      go_loop [4] (fun i => ∃ k : Nat, k ≤ 19 ∧ i = .int .i64 k ∧ ∀ j (hj : j < 19), j < k → ((pubS[j]'hj : Nat) : Int) ≠ r) (fun i => 19 - (intOf i).toNat)
      case atStart => exact ⟨0, by omega, rfl, fun j hj h => absurd h (by omega)⟩
      case round =>
        obtain ⟨k, hk, rfl, hno⟩ := hrel
        have HNO := Lib.hid hno
        clear hno
        by_cases hlt : k < 19
        · have hix := idx_pub k hlt
          have HY := Lib.hid (pub_hit k hlt)
          obtain ⟨x, hx⟩ : ∃ x, (pubS[k]'hlt) = x := ⟨_, rfl⟩
          rw [hx] at hix HY
          have HX := Lib.hid hx
          have hx9 : x < 256 := by
            have : ∀ y ∈ pubS, y < 256 := by decide
            exact this x (hx ▸ List.getElem_mem hlt)
          clear hx
          by_cases hxr : (x : Int) = r
          · have HXR := Lib.hid hxr
            have t : ((x : Int) == r) = true := by rw [hxr]; simp
            clear hxr
            go_wp2_with fail
            go_ret
            exact ⟨ret_bool (by rw [← HXR.out, HY.out]), rfl⟩
          · have t : ((x : Int) == r) = false := by simpa using hxr
            have HXR := Lib.hid hxr
            clear hxr
            go_wp2_with fail
            go_round
            case rel =>
              refine ⟨k + 1, by omega, by go_num, fun j hj h => ?_⟩
              rcases Nat.lt_or_ge j k with h5 | h5
              · exact HNO.out j hj h5
              · obtain rfl : j = k := by omega
                rw [HX.out]; exact HXR.out
            case measure => simp [intOf]; omega
        · have hk19 : k = 19 := by omega
          subst hk19
          go_wp2_with fail
          go_ret
          exact ⟨ret_bool (pub_rest r (fun k hk => HNO.out k hk hk) (by have := HE.out; omega)).symm, rfl⟩
end Go.Proofs.YtdmfladcldkmeaaDoor
