/- Contracts: digits; the classes together. -/
import Derived.Test.YtdmfladcldkmeaaDoorChb
namespace Go.Proofs.YtdmfladcldkmeaaDoor
open Go.ChangeShapes Go.WideShapes Go.ChangeAt Go.RowKit
set_option linter.unusedVariables false
set_option maxRecDepth 100000

/-- What a digit says, or -1. -/
def digV (r : Int) : Int := if 48 ≤ r ∧ r ≤ 57 then r - 48 else if 97 ≤ r ∧ r ≤ 102 then r - 87 else if 65 ≤ r ∧ r ≤ 70 then r - 55 else -1
def digN (r b : Int) : Int := if b = 10 ∨ b = 16 then (if b ≤ digV r then -1 else digV r) else -1
theorem ret_i64 {a b : Int} (h : a = b) : Ending.returned (.int .i64 a) = .returned (.int .i64 b) := by rw [h]

set_option maxRecDepth 100000 in
set_option maxHeartbeats 1000000 in
theorem digit_any (r b : Int) (w : World) :
    Calls Tryd.prog 112 #[.int .i64 r, .int .i64 b] w fun e w' => e = .returned (.int .i64 (digN r b)) ∧ w = w' := by
  have B : b = 10 ∨ b = 16 ∨ (b ≠ 10 ∧ b ≠ 16) := by omega
  have D : r < 48 ∨ (48 ≤ r ∧ r ≤ 57) ∨ (57 < r ∧ r < 65) ∨ (65 ≤ r ∧ r ≤ 70) ∨ (70 < r ∧ r < 97) ∨ (97 ≤ r ∧ r ≤ 102) ∨ 102 < r := by omega
  rcases B with rfl | rfl | ⟨b1, b2⟩
  · rcases D with d | ⟨d, d'⟩ | ⟨d, d'⟩ | ⟨d, d'⟩ | ⟨d, d'⟩ | ⟨d, d'⟩ | d
    all_goals
      go_enter Tryd.func112, Tryd.ntmps112
      go_wp2_with fail
      go_ret
      exact ⟨ret_i64 (by unfold digN digV; (repeat' split) <;> omega), rfl⟩
  · rcases D with d | ⟨d, d'⟩ | ⟨d, d'⟩ | ⟨d, d'⟩ | ⟨d, d'⟩ | ⟨d, d'⟩ | d
    all_goals
      go_enter Tryd.func112, Tryd.ntmps112
      go_wp2_with fail
      go_ret
      exact ⟨ret_i64 (by unfold digN digV; (repeat' split) <;> omega), rfl⟩
  · clear D
    have t1 : (b != 10) = true := by simp [b1]
    have t2 : (b != 16) = true := by simp [b2]
    go_enter Tryd.func112, Tryd.ntmps112
    go_wp2_with fail
    go_ret
    exact ⟨ret_i64 (by unfold digN; rw [if_neg (by omega)]), rfl⟩

def digS : List Nat := [48, 49, 50, 51, 52, 53, 54, 55, 56, 57, 97, 98, 99, 100, 101, 102]
def digC : List Nat := [48, 49, 50, 51, 52, 53, 54, 55, 56, 57, 65, 66, 67, 68, 69, 70]
theorem idx_digS (k : Nat) (h : k < 16) : ∀ w : World, (Instr.index 9 (.string { data := #[48, 49, 50, 51, 52, 53, 54, 55, 56, 57, 97, 98, 99, 100, 101, 102] }) (.int .i64 (k : Int))).run Tryd.prog w = .ok (.int .u8 ((digS[k]'h : Nat) : Int)) w := by
  match k, h with
  | 0, _ => exact fun _ => by kernel_rfl
  | 1, _ => exact fun _ => by kernel_rfl
  | 2, _ => exact fun _ => by kernel_rfl
  | 3, _ => exact fun _ => by kernel_rfl
  | 4, _ => exact fun _ => by kernel_rfl
  | 5, _ => exact fun _ => by kernel_rfl
  | 6, _ => exact fun _ => by kernel_rfl
  | 7, _ => exact fun _ => by kernel_rfl
  | 8, _ => exact fun _ => by kernel_rfl
  | 9, _ => exact fun _ => by kernel_rfl
  | 10, _ => exact fun _ => by kernel_rfl
  | 11, _ => exact fun _ => by kernel_rfl
  | 12, _ => exact fun _ => by kernel_rfl
  | 13, _ => exact fun _ => by kernel_rfl
  | 14, _ => exact fun _ => by kernel_rfl
  | 15, _ => exact fun _ => by kernel_rfl
  | j + 16, h => exact absurd h (by omega)
theorem idx_digC (k : Nat) (h : k < 16) : ∀ w : World, (Instr.index 9 (.string { data := #[48, 49, 50, 51, 52, 53, 54, 55, 56, 57, 65, 66, 67, 68, 69, 70] }) (.int .i64 (k : Int))).run Tryd.prog w = .ok (.int .u8 ((digC[k]'h : Nat) : Int)) w := by
  match k, h with
  | 0, _ => exact fun _ => by kernel_rfl
  | 1, _ => exact fun _ => by kernel_rfl
  | 2, _ => exact fun _ => by kernel_rfl
  | 3, _ => exact fun _ => by kernel_rfl
  | 4, _ => exact fun _ => by kernel_rfl
  | 5, _ => exact fun _ => by kernel_rfl
  | 6, _ => exact fun _ => by kernel_rfl
  | 7, _ => exact fun _ => by kernel_rfl
  | 8, _ => exact fun _ => by kernel_rfl
  | 9, _ => exact fun _ => by kernel_rfl
  | 10, _ => exact fun _ => by kernel_rfl
  | 11, _ => exact fun _ => by kernel_rfl
  | 12, _ => exact fun _ => by kernel_rfl
  | 13, _ => exact fun _ => by kernel_rfl
  | 14, _ => exact fun _ => by kernel_rfl
  | 15, _ => exact fun _ => by kernel_rfl
  | j + 16, h => exact absurd h (by omega)
theorem dig_hit (k : Nat) (hk : k < 16) (b : Int) (hb : b = 10 ∨ b = 16) (hkb : (k : Int) < b) (r : Int) (h : ((digS[k]'hk : Nat) : Int) = r ∨ ((digC[k]'hk : Nat) : Int) = r) : (k : Int) = digN r b := by
  have e1 : digV ((digS[k]'hk : Nat) : Int) = k := by
    match k, hk with
    | 0, _ => rfl
    | 1, _ => rfl
    | 2, _ => rfl
    | 3, _ => rfl
    | 4, _ => rfl
    | 5, _ => rfl
    | 6, _ => rfl
    | 7, _ => rfl
    | 8, _ => rfl
    | 9, _ => rfl
    | 10, _ => rfl
    | 11, _ => rfl
    | 12, _ => rfl
    | 13, _ => rfl
    | 14, _ => rfl
    | 15, _ => rfl
    | j + 16, h => exact absurd h (by omega)
  have e2 : digV ((digC[k]'hk : Nat) : Int) = k := by
    match k, hk with
    | 0, _ => rfl
    | 1, _ => rfl
    | 2, _ => rfl
    | 3, _ => rfl
    | 4, _ => rfl
    | 5, _ => rfl
    | 6, _ => rfl
    | 7, _ => rfl
    | 8, _ => rfl
    | 9, _ => rfl
    | 10, _ => rfl
    | 11, _ => rfl
    | 12, _ => rfl
    | 13, _ => rfl
    | 14, _ => rfl
    | 15, _ => rfl
    | j + 16, h => exact absurd h (by omega)
  have e : digV r = k := by rcases h with h | h <;> rw [← h] <;> assumption
  unfold digN
  rw [if_pos hb, e, if_neg (by omega)]
theorem digV_lt (r : Int) : digV r = -1 ∨ (∃ k : Nat, ∃ hk : k < 16, digV r = k ∧ (((digS[k]'hk : Nat) : Int) = r ∨ ((digC[k]'hk : Nat) : Int) = r)) := by
  have D : (48 ≤ r ∧ r ≤ 57) ∨ (65 ≤ r ∧ r ≤ 70) ∨ (97 ≤ r ∧ r ≤ 102) ∨ (r < 48 ∨ (57 < r ∧ r < 65) ∨ (70 < r ∧ r < 97) ∨ 102 < r) := by omega
  rcases D with ⟨d, d'⟩ | ⟨d, d'⟩ | ⟨d, d'⟩ | d
  · right
    have D : r = 48 ∨ r = 49 ∨ r = 50 ∨ r = 51 ∨ r = 52 ∨ r = 53 ∨ r = 54 ∨ r = 55 ∨ r = 56 ∨ r = 57 := by omega
    rcases D with rfl | rfl | rfl | rfl | rfl | rfl | rfl | rfl | rfl | rfl
    · exact ⟨0, by omega, rfl, .inl rfl⟩
    · exact ⟨1, by omega, rfl, .inl rfl⟩
    · exact ⟨2, by omega, rfl, .inl rfl⟩
    · exact ⟨3, by omega, rfl, .inl rfl⟩
    · exact ⟨4, by omega, rfl, .inl rfl⟩
    · exact ⟨5, by omega, rfl, .inl rfl⟩
    · exact ⟨6, by omega, rfl, .inl rfl⟩
    · exact ⟨7, by omega, rfl, .inl rfl⟩
    · exact ⟨8, by omega, rfl, .inl rfl⟩
    · exact ⟨9, by omega, rfl, .inl rfl⟩
  · right
    have D : r = 65 ∨ r = 66 ∨ r = 67 ∨ r = 68 ∨ r = 69 ∨ r = 70 := by omega
    rcases D with rfl | rfl | rfl | rfl | rfl | rfl
    · exact ⟨10, by omega, rfl, .inr rfl⟩
    · exact ⟨11, by omega, rfl, .inr rfl⟩
    · exact ⟨12, by omega, rfl, .inr rfl⟩
    · exact ⟨13, by omega, rfl, .inr rfl⟩
    · exact ⟨14, by omega, rfl, .inr rfl⟩
    · exact ⟨15, by omega, rfl, .inr rfl⟩
  · right
    have D : r = 97 ∨ r = 98 ∨ r = 99 ∨ r = 100 ∨ r = 101 ∨ r = 102 := by omega
    rcases D with rfl | rfl | rfl | rfl | rfl | rfl
    · exact ⟨10, by omega, rfl, .inl rfl⟩
    · exact ⟨11, by omega, rfl, .inl rfl⟩
    · exact ⟨12, by omega, rfl, .inl rfl⟩
    · exact ⟨13, by omega, rfl, .inl rfl⟩
    · exact ⟨14, by omega, rfl, .inl rfl⟩
    · exact ⟨15, by omega, rfl, .inl rfl⟩
  · left
    unfold digV
    rw [if_neg (by omega), if_neg (by omega), if_neg (by omega)]
theorem dig_miss (r : Int) (n : Nat) (hn : n ≤ 16) (hb : (n : Int) = 10 ∨ (n : Int) = 16) (h : ∀ j (hj : j < 16), j < n → ((digS[j]'hj : Nat) : Int) ≠ r ∧ ((digC[j]'hj : Nat) : Int) ≠ r) : -1 = digN r n := by
  unfold digN
  rw [if_pos hb]
  rcases digV_lt r with e | ⟨k, hk, e, h'⟩
  · rw [e]; split <;> rfl
  · rw [e]
    by_cases hkn : k < n
    · have := h k hk hkn
      rcases h' with h' | h'
      · exact absurd h' this.1
      · exact absurd h' this.2
    · rw [if_pos (by omega)]

set_option maxRecDepth 100000 in
set_option maxHeartbeats 2000000 in
theorem rdigit_any (r b : Int) (w : World) :
    Calls Tryd.prog 127 #[.int .i64 r, .int .i64 b] w fun e w' => e = .returned (.int .i64 (digN r b)) ∧ w = w' := by
  by_cases hbb : b = 10 ∨ b = 16
  · obtain ⟨n, rfl, hn, hn'⟩ : ∃ n : Nat, b = n ∧ n ≤ 16 ∧ (n = 10 ∨ n = 16) := by
      rcases hbb with rfl | rfl
      · exact ⟨10, rfl, by omega, .inl rfl⟩
      · exact ⟨16, rfl, by omega, .inr rfl⟩
    have HB := Lib.hid hbb
    clear hbb
    have HN := Lib.hid hn'
    rcases hn' with rfl | rfl
    all_goals
      go_enter Tryd.func127, Tryd.ntmps127
      go_wp2_with fail
    · go_loop [7] (fun i => ∃ k : Nat, k ≤ 10 ∧ i = .int .i64 k ∧ ∀ j (hj : j < 16), j < k → ((digS[j]'hj : Nat) : Int) ≠ r ∧ ((digC[j]'hj : Nat) : Int) ≠ r) (fun i => 10 - (intOf i).toNat)
      case atStart => exact ⟨0, by omega, rfl, fun j hj h => absurd h (by omega)⟩
      case round =>
        obtain ⟨k, hk, rfl, hno⟩ := hrel
        have HNO := Lib.hid hno
        clear hno
        by_cases hlt : k < 10
        · have hk16 : k < 16 := by omega
          have hix := idx_digS k hk16
          have hiy := idx_digC k hk16
          have HY := Lib.hid (dig_hit k hk16 10 (.inl rfl) (by omega) r)
          obtain ⟨x, hx⟩ : ∃ x, (digS[k]'hk16) = x := ⟨_, rfl⟩
          obtain ⟨y, hy⟩ : ∃ y, (digC[k]'hk16) = y := ⟨_, rfl⟩
          have hx9 : x < 256 := by
            have : ∀ y ∈ digS, y < 256 := by decide
            exact this x (hx ▸ List.getElem_mem hk16)
          have hy9 : y < 256 := by
            have : ∀ y ∈ digC, y < 256 := by decide
            exact this y (hy ▸ List.getElem_mem hk16)
          rw [hx] at hix HY
          rw [hy] at hiy HY
          have HX := Lib.hid hx
          have HZ := Lib.hid hy
          clear hx hy
          by_cases hxr : (x : Int) = r
          · have HXR := Lib.hid hxr
            have t : ((x : Int) == r) = true := by rw [hxr]; simp
            clear hxr
            go_wp2_with fail
            go_ret
            exact ⟨ret_i64 (HY.out (.inl HXR.out)), rfl⟩
          · have t : ((x : Int) == r) = false := by simpa using hxr
            have HXR := Lib.hid hxr
            clear hxr
            by_cases hyr : (y : Int) = r
            · have HYR := Lib.hid hyr
              have t' : ((y : Int) == r) = true := by rw [hyr]; simp
              clear hyr
              go_wp2_with fail
              go_ret
              exact ⟨ret_i64 (HY.out (.inr HYR.out)), rfl⟩
            · have t' : ((y : Int) == r) = false := by simpa using hyr
              have HYR := Lib.hid hyr
              clear hyr
              go_wp2_with fail
              go_round
              case rel =>
                refine ⟨k + 1, by omega, by go_num, fun j hj h => ?_⟩
                rcases Nat.lt_or_ge j k with h5 | h5
                · exact HNO.out j hj h5
                · obtain rfl : j = k := by omega
                  rw [HX.out, HZ.out]; exact ⟨HXR.out, HYR.out⟩
              case measure => simp [intOf]; omega
        · have hk10 : k = 10 := by omega
          subst hk10
          go_wp2_with fail
          go_ret
          exact ⟨ret_i64 (dig_miss r 10 (by omega) (.inl rfl) HNO.out), rfl⟩
    · go_loop [7] (fun i => ∃ k : Nat, k ≤ 16 ∧ i = .int .i64 k ∧ ∀ j (hj : j < 16), j < k → ((digS[j]'hj : Nat) : Int) ≠ r ∧ ((digC[j]'hj : Nat) : Int) ≠ r) (fun i => 16 - (intOf i).toNat)
      case atStart => exact ⟨0, by omega, rfl, fun j hj h => absurd h (by omega)⟩
      case round =>
        obtain ⟨k, hk, rfl, hno⟩ := hrel
        have HNO := Lib.hid hno
        clear hno
        by_cases hlt : k < 16
        · have hk16 : k < 16 := by omega
          have hix := idx_digS k hk16
          have hiy := idx_digC k hk16
          have HY := Lib.hid (dig_hit k hk16 16 (.inr rfl) (by omega) r)
          obtain ⟨x, hx⟩ : ∃ x, (digS[k]'hk16) = x := ⟨_, rfl⟩
          obtain ⟨y, hy⟩ : ∃ y, (digC[k]'hk16) = y := ⟨_, rfl⟩
          have hx9 : x < 256 := by
            have : ∀ y ∈ digS, y < 256 := by decide
            exact this x (hx ▸ List.getElem_mem hk16)
          have hy9 : y < 256 := by
            have : ∀ y ∈ digC, y < 256 := by decide
            exact this y (hy ▸ List.getElem_mem hk16)
          rw [hx] at hix HY
          rw [hy] at hiy HY
          have HX := Lib.hid hx
          have HZ := Lib.hid hy
          clear hx hy
          by_cases hxr : (x : Int) = r
          · have HXR := Lib.hid hxr
            have t : ((x : Int) == r) = true := by rw [hxr]; simp
            clear hxr
            go_wp2_with fail
            go_ret
            exact ⟨ret_i64 (HY.out (.inl HXR.out)), rfl⟩
          · have t : ((x : Int) == r) = false := by simpa using hxr
            have HXR := Lib.hid hxr
            clear hxr
            by_cases hyr : (y : Int) = r
            · have HYR := Lib.hid hyr
              have t' : ((y : Int) == r) = true := by rw [hyr]; simp
              clear hyr
              go_wp2_with fail
              go_ret
              exact ⟨ret_i64 (HY.out (.inr HYR.out)), rfl⟩
            · have t' : ((y : Int) == r) = false := by simpa using hyr
              have HYR := Lib.hid hyr
              clear hyr
              go_wp2_with fail
              go_round
              case rel =>
                refine ⟨k + 1, by omega, by go_num, fun j hj h => ?_⟩
                rcases Nat.lt_or_ge j k with h5 | h5
                · exact HNO.out j hj h5
                · obtain rfl : j = k := by omega
                  rw [HX.out, HZ.out]; exact ⟨HXR.out, HYR.out⟩
              case measure => simp [intOf]; omega
        · have hk16 : k = 16 := by omega
          subst hk16
          go_wp2_with fail
          go_ret
          exact ⟨ret_i64 (dig_miss r 16 (by omega) (.inr rfl) HNO.out), rfl⟩
  · have b1 : b ≠ 10 := by omega
    have b2 : b ≠ 16 := by omega
    have t1 : (b != 10) = true := by simp [b1]
    have t2 : (b != 16) = true := by simp [b2]
    go_enter Tryd.func127, Tryd.ntmps127
    go_wp2_with fail
    go_ret
    exact ⟨ret_i64 (by unfold digN; rw [if_neg (by omega)]), rfl⟩
end Go.Proofs.YtdmfladcldkmeaaDoor
