/- Sums and powers that are held: the contracts of sat.Sum, sat.Pow and of the document's own answers; the page's example. -/
import Derived.Test.YtfppkjogdahnbaaSatB
namespace Go.Proofs.Ytfppkjogdahnbaa
open Go.ChangeShapes Go.WideShapes Go.ChangeAt Go.RowKit

def sumS (l : List Int) : Int := l.foldl addS 0
/-- Ints as values. -/
def vI (l : List Int) : List Value := l.map (Value.int .i64)
theorem vI_len (l : List Int) : (vI l).length = l.length := by unfold vI; simp
theorem vI_take (l : List Int) (k : Nat) : vI (l.take k) = (vI l).take k := by unfold vI; rw [List.map_take]
theorem vI_drop (l : List Int) (k : Nat) : vI (l.drop k) = (vI l).drop k := by unfold vI; rw [List.map_drop]
theorem sumS_bd (l : List Int) : 0 ≤ sumS l ∧ sumS l ≤ 9223372036854775807 := by
  unfold sumS
  have h : ∀ (l : List Int) (a : Int), 0 ≤ a ∧ a ≤ 9223372036854775807 → 0 ≤ l.foldl addS a ∧ l.foldl addS a ≤ 9223372036854775807 := by
    intro l
    induction l with
    | nil => intro a h; exact h
    | cons x l ih => intro a h; exact ih _ (by unfold addS holdS CAP; repeat (split <;> try omega))
  exact h l 0 (by omega)
theorem sumS_snoc (l : List Int) (x : Int) : sumS (l ++ [x]) = addS (sumS l) x := by unfold sumS; simp
theorem take_succ_getD (l : List Int) (k : Nat) (h : k < l.length) : l.take (k + 1) = l.take k ++ [l[k]] := by
  rw [List.take_succ_eq_append_getElem h]

set_option maxHeartbeats 400000 in
theorem sum_any (l : List Int) (A : Option Addr) (n c : Nat) (w : World) (hn : l.length = n) (hm : n ≤ 9223372036854775807) (hl : ∀ x ∈ l, I64 x) (hs : Sees w A (vI l)) :
    Calls Try.prog 21 #[.slice A n c] w fun e w' => e = .returned (.int .i64 (sumS l)) ∧ w = w' := by
  have HN := Lib.hid hn
  go_enter Try.func21, Try.ntmps21
  clear hn
  go_wp2
  go_loop [3, 8] (fun s i => ∃ k : Nat, k ≤ n ∧ i = .int .i64 k ∧ s = .int .i64 (sumS (l.take k))) (fun _ i => n - (intOf i).toNat)
  case atStart => exact ⟨0, by omega, rfl, rfl⟩
  case round =>
    obtain ⟨k, hk, rfl, rfl⟩ := hrel
    obtain ⟨hb1, hb2⟩ := sumS_bd (l.take k)
    by_cases hlt : k < n
    · have hkl : k < l.length := by rw [HN.out]; exact hlt
      obtain ⟨ad, u, rfl, hu, hcell⟩ := hs.at (k := k) (by rw [vI_len]; exact hkl)
      obtain ⟨x, hx⟩ : ∃ x, l[k] = x := ⟨_, rfl⟩
      have hxb := hl _ (List.getElem_mem hkl)
      rw [hx] at hxb
      obtain rfl : u = .int .i64 x := by
        unfold vI at hu
        rw [List.getElem?_map, List.getElem?_eq_getElem hkl, hx] at hu
        simpa using hu.symm
      have HS := Lib.hid (show sumS (l.take (k + 1)) = addS (sumS (l.take k)) x by rw [take_succ_getD l k hkl, sumS_snoc, hx])
      clear hu hx hs hl hkl
      go_wp2_with (go_at_call 14; refine (add_any _ _ _ ⟨by omega, by omega⟩ hxb).mono ?_; rintro e w' ⟨rfl, rfl⟩)
      go_round
      case rel => exact ⟨k + 1, by omega, by go_num, by rw [HS.out]⟩
      case measure => simp [intOf]; omega
    · go_wp2
      go_ret
      exact ⟨ret_int (by rw [List.take_of_length_le (by rw [HN.out]; omega)]), rfl⟩

set_option maxHeartbeats 400000 in
theorem rsum_any (l : List Int) (A : Option Addr) (n c : Nat) (w : World) (hn : l.length = n) (hm : n ≤ 9223372036854775807) (hl : ∀ x ∈ l, I64 x) (hs : Sees w A (vI l)) :
    Calls Try.prog 22 #[.slice A n c] w fun e w' => e = .returned (.int .i64 (sumS l)) ∧ w = w' := by
  have HN := Lib.hid hn
  go_enter Try.func22, Try.ntmps22
  clear hn
  go_wp2
  go_loop [3, 4] (fun s i => ∃ k : Nat, k ≤ n ∧ i = .int .i64 k ∧ s = .int .i64 (sumS (l.take k))) (fun _ i => n - (intOf i).toNat)
  case atStart => exact ⟨0, by omega, rfl, rfl⟩
  case round =>
    obtain ⟨k, hk, rfl, rfl⟩ := hrel
    obtain ⟨hb1, hb2⟩ := sumS_bd (l.take k)
    by_cases hlt : k < n
    · have hkl : k < l.length := by rw [HN.out]; exact hlt
      obtain ⟨ad, u, rfl, hu, hcell⟩ := hs.at (k := k) (by rw [vI_len]; exact hkl)
      obtain ⟨x, hx⟩ : ∃ x, l[k] = x := ⟨_, rfl⟩
      have hxb := hl _ (List.getElem_mem hkl)
      rw [hx] at hxb
      obtain rfl : u = .int .i64 x := by
        unfold vI at hu
        rw [List.getElem?_map, List.getElem?_eq_getElem hkl, hx] at hu
        simpa using hu.symm
      have HS := Lib.hid (show sumS (l.take (k + 1)) = addS (sumS (l.take k)) x by rw [take_succ_getD l k hkl, sumS_snoc, hx])
      clear hu hx hs hl hkl
      go_wp2_with (go_at_call 15; refine (radd_any _ _ _ ⟨by omega, by omega⟩ hxb).mono ?_; rintro e w' ⟨rfl, rfl⟩)
      go_round
      case rel => exact ⟨k + 1, by omega, by go_num, by rw [HS.out]⟩
      case measure => simp [intOf]; omega
    · go_wp2
      go_ret
      exact ⟨ret_int (by rw [List.take_of_length_le (by rw [HN.out]; omega)]), rfl⟩

def powS (a : Int) : Nat → Int
  | 0 => 1
  | k + 1 => mulS (powS a k) a
theorem powS_bd (a : Int) (k : Nat) (ha : a ≤ 9223372036854775807) : 0 ≤ powS a k ∧ powS a k ≤ 9223372036854775807 := by
  cases k with
  | zero => unfold powS; omega
  | succ k =>
    unfold powS mulS
    exact capS_bd (Int.mul_nonneg (by unfold holdS; split <;> omega) (by unfold holdS; split <;> omega))
theorem powS_stay (a : Int) (k : Nat) (h : mulS (powS a k) a = powS a k) (j : Nat) : powS a (k + j) = powS a k := by
  induction j with
  | zero => rfl
  | succ j ih => rw [← Nat.add_assoc]; show mulS (powS a (k + j)) a = _; rw [ih, h]
theorem hold_nat (n : Int) : holdS n = ((n.toNat : Nat) : Int) := by unfold holdS; split <;> omega

set_option maxHeartbeats 400000 in
theorem pow_any (a n : Int) (w : World) (ha : I64 a) (hn : I64 n) :
    Calls Try.prog 23 #[.int .i64 a, .int .i64 n] w fun e w' => e = .returned (.int .i64 (powS a n.toNat)) ∧ w = w' := by
  have ha2 := ha.2
  have hn2 : n.toNat ≤ 9223372036854775807 := by have := hn.2; omega
  have HB := hold_nat n
  obtain ⟨m, hm⟩ : ∃ m, n.toNat = m := ⟨_, rfl⟩
  rw [hm] at HB hn2 ⊢
  have HH : ∀ w : World, Calls Try.prog 12 #[.int .i64 n] w fun e w' => e = .returned (.int .i64 (m : Int)) ∧ w = w' := by rw [← HB]; exact hold_any n
  have H1 := Lib.hid HH
  clear HB HH hm
  go_enter Try.func23, Try.ntmps23
  go_wp2_with (go_at_call 12; refine (H1.out _).mono ?_; rintro e w' ⟨rfl, rfl⟩)
  go_loop [5, 6] (fun s i => ∃ k j : Nat, k + j = m ∧ i = .int .i64 j ∧ s = .int .i64 (powS a k)) (fun _ i => (intOf i).toNat)
  case atStart => exact ⟨0, m, by omega, rfl, rfl⟩
  case round =>
    obtain ⟨k, j, hk, rfl, rfl⟩ := hrel
    have HK := Lib.hid hk
    obtain ⟨hp1, hp2⟩ := powS_bd a k ha2
    have hj : j ≤ 9223372036854775807 := by omega
    clear hk
    cases j with
    | zero =>
      go_wp2
      go_ret
      exact ⟨ret_int (by rw [← HK.out]; rfl), rfl⟩
    | succ j =>
      by_cases he : mulS (powS a k) a = powS a k
      · have HE := Lib.hid he
        have hbe : (mulS (powS a k) a == powS a k) = true := by rw [he]; simp
        clear he
        go_wp2_with (go_at_call 18; refine (mul_any _ _ _ ⟨by omega, by omega⟩ ha).mono ?_; rintro e w' ⟨rfl, rfl⟩)
        go_ret
        exact ⟨ret_int (by rw [← HK.out]; exact (powS_stay a k HE.out _).symm), rfl⟩
      · have hbe : (mulS (powS a k) a == powS a k) = false := by simpa using he
        clear he
        go_wp2_with (go_at_call 18; refine (mul_any _ _ _ ⟨by omega, by omega⟩ ha).mono ?_; rintro e w' ⟨rfl, rfl⟩)
        go_round
        case rel => exact ⟨k + 1, j, by have := HK.out; omega, by go_num, rfl⟩
        case measure => simp [intOf]

set_option maxHeartbeats 400000 in
theorem rpow_any (a n : Int) (w : World) (ha : I64 a) (hn : I64 n) :
    Calls Try.prog 24 #[.int .i64 a, .int .i64 n] w fun e w' => e = .returned (.int .i64 (powS a n.toNat)) ∧ w = w' := by
  have ha2 := ha.2
  obtain ⟨hn1, hn2⟩ := hn
  go_enter Try.func24, Try.ntmps24
  go_wp2
  go_loop [5, 6] (fun s i => ∃ k : Nat, k ≤ n.toNat ∧ i = .int .i64 k ∧ s = .int .i64 (powS a k)) (fun _ i => n.toNat - (intOf i).toNat)
  case atStart => exact ⟨0, by omega, rfl, rfl⟩
  case round =>
    obtain ⟨k, hk, rfl, rfl⟩ := hrel
    obtain ⟨hp1, hp2⟩ := powS_bd a k ha2
    by_cases hlt : (k : Int) < n
    · by_cases he : mulS (powS a k) a = powS a k
      · have HE := Lib.hid he
        have hbe : (mulS (powS a k) a == powS a k) = true := by rw [he]; simp
        clear he
        go_wp2_with (go_at_call 19; refine (rmul_any _ _ _ ⟨by omega, by omega⟩ ha).mono ?_; rintro e w' ⟨rfl, rfl⟩)
        go_ret
        exact ⟨ret_int (by have := powS_stay a k HE.out (n.toNat - k); rw [← this, Nat.add_sub_cancel' hk]), rfl⟩
      · have hbe : (mulS (powS a k) a == powS a k) = false := by simpa using he
        clear he
        go_wp2_with (go_at_call 19; refine (rmul_any _ _ _ ⟨by omega, by omega⟩ ha).mono ?_; rintro e w' ⟨rfl, rfl⟩)
        go_round
        case rel => exact ⟨k + 1, by omega, by go_num, rfl⟩
        case measure => simp [intOf]; omega
    · have hkn : k = n.toNat := by omega
      have HK := Lib.hid hkn
      clear hkn
      go_wp2
      go_ret
      exact ⟨ret_int (by rw [HK.out]), rfl⟩

theorem pow_eq (a n r : Int) (hr : powS a n.toNat = r) (w : World) (ha : I64 a) (hn : I64 n) :
    Calls Try.prog 23 #[.int .i64 a, .int .i64 n] w fun e w' => e = .returned (.int .i64 r) ∧ w = w' := by
  rw [← hr]; exact pow_any a n w ha hn
theorem add_eq (a b r : Int) (hr : addS a b = r) (w : World) (ha : I64 a) (hb : I64 b) :
    Calls Try.prog 14 #[.int .i64 a, .int .i64 b] w fun e w' => e = .returned (.int .i64 r) ∧ w = w' := by
  rw [← hr]; exact add_any a b w ha hb
theorem sub_eq (a b r : Int) (hr : subS a b = r) (w : World) (ha : I64 a) (hb : I64 b) :
    Calls Try.prog 16 #[.int .i64 a, .int .i64 b] w fun e w' => e = .returned (.int .i64 r) ∧ w = w' := by
  rw [← hr]; exact sub_any a b w ha hb
theorem pow_2_63 : powS 2 63 = 9223372036854775807 := by decide +kernel

set_option maxHeartbeats 400000 in
theorem live01_any (w : World) :
    Calls Try.prog 20 #[] w fun e w' => e = .returned (.bool true) ∧ w = w' := by
  have h1 := fun w => pow_eq 2 63 9223372036854775807 pow_2_63 w ⟨by omega, by omega⟩ ⟨by omega, by omega⟩
  have h2 := fun w => pow_eq 0 0 1 rfl w ⟨by omega, by omega⟩ ⟨by omega, by omega⟩
  have h3 := fun w => add_eq 9223372036854775807 1 9223372036854775807 (by decide +kernel) w ⟨by omega, by omega⟩ ⟨by omega, by omega⟩
  have h4 := fun w => sub_eq 3 5 0 (by decide +kernel) w ⟨by omega, by omega⟩ ⟨by omega, by omega⟩
  have H1 := Lib.hid h1
  have H2 := Lib.hid h2
  have H3 := Lib.hid h3
  have H4 := Lib.hid h4
  clear h1 h2 h3 h4
  go_enter Try.func20, Try.ntmps20
  go_wp2_with (first
    | (go_at_call 49; refine (cap_any _).mono ?_; rintro e w' ⟨rfl, rfl⟩)
    | (go_at_call 14; with_reducible refine (H3.out _).mono ?_; rintro e w' ⟨rfl, rfl⟩)
    | (go_at_call 16; with_reducible refine (H4.out _).mono ?_; rintro e w' ⟨rfl, rfl⟩)
    | (go_at_call 23; (with_reducible refine (H1.out _).mono ?_); rintro e w' ⟨rfl, rfl⟩)
    | (go_at_call 23; (with_reducible refine (H2.out _).mono ?_); rintro e w' ⟨rfl, rfl⟩))
  go_ret
  exact ⟨rfl, rfl⟩
end Go.Proofs.Ytfppkjogdahnbaa
