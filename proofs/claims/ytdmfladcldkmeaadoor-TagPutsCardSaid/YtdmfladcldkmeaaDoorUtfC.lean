/- Contract: the character at a place, as package utf has it. -/
import Derived.Test.YtdmfladcldkmeaaDoorUtfB
namespace Go.Proofs.YtdmfladcldkmeaaDoor
open Go.ChangeShapes Go.WideShapes Go.ChangeAt Go.RowKit
set_option linter.unusedVariables false

theorem nat_and192 (x : Nat) (h : x < 256) : x &&& 192 = x / 64 * 64 := by
  have e : (192 : Nat) = 128 ||| 64 := by decide
  have e1 : x &&& 128 = x / 128 % 2 * 128 := nat_bit 7 x
  have e2 : x &&& 64 = x / 64 % 2 * 64 := nat_bit 6 x
  rw [e, Nat.and_or_distrib_left, e1, e2, nat_join 7 _ _ (by omega) (by omega)]
  omega
theorem u8_and192 (x : Nat) (h : x < 256) : bits .and .u8 (x : Int) 192 = ((x / 64 * 64 : Nat) : Int) := by
  have := u8_and_nat x 192 h (by omega)
  rw [nat_and192 x h] at this
  exact this
theorem i64_or6 (x y : Int) (hx₀ : 0 ≤ x) (hx : x % 64 = 0) (hx₁ : x < 2 ^ 63) (h₀ : 0 ≤ y) (h₁ : y < 64) : bits .or .i64 x y = x + y :=
  bits_join .i64 63 (by decide) wraps_i64 6 x y hx₀ hx hx₁ h₀ h₁ (by omega)

/-- The bytes behind the first one, put together. -/
def accS (l : List UInt8) (k b : Nat) : Nat → Nat
  | 0 => b
  | j + 1 => accS l k b j * 64 + byteAt l (k + 1 + j) % 64
theorem accS_succ (l : List UInt8) (k b j : Nat) : accS l k b (j + 1) = accS l k b j * 64 + byteAt l (k + 1 + j) % 64 := rfl
theorem accS_le (l : List UInt8) (k b : Nat) (hb : b < 128) (j : Nat) (hj : j ≤ 3) : accS l k b j < 33554432 := by
  have h1 : accS l k b 1 < 8192 := by rw [accS_succ]; show b * 64 + _ < _; omega
  have h2 : accS l k b 2 < 524288 := by rw [accS_succ]; omega
  have h3 : accS l k b 3 < 33554432 := by rw [accS_succ]; omega
  match j, hj with
  | 0, _ => show b < _; omega
  | 1, _ => omega
  | 2, _ => omega
  | 3, _ => omega
theorem head_eq (c s b : Nat) (h : headS c = (s, b)) (w : World) (hc : c < 256) :
    Calls Tryd.prog 182 #[.int .u8 c] w fun e w' => e = .returned (.tuple #[.int .i64 s, .int .i64 b]) ∧ w = w' := by
  have := head_any c w hc
  rw [h] at this
  exact this
theorem ret_tup3 {a b c x y z : Int} (h1 : a = x) (h2 : b = y) (h3 : c = z) :
    Ending.returned (.tuple #[.int .i64 a, .int .i64 b, .int .i64 c]) = .returned (.tuple #[.int .i64 x, .int .i64 y, .int .i64 z]) := by rw [h1, h2, h3]

set_option maxRecDepth 100000 in
set_option maxHeartbeats 400000 in
theorem decode_out (l : List UInt8) (A : Option Addr) (n c : Nat) (k : Int) (w : World) (hk : k < 0 ∨ (n : Int) ≤ k) :
    Calls Tryd.prog 156 #[.slice A n c, .int .i64 k] w fun e w' => e = .returned (.tuple #[.int .i64 0, .int .i64 0, .int .i64 3]) ∧ w = w' := by
  rcases hk with hk | hk
  · go_enter Tryd.func156, Tryd.ntmps156
    go_wp2
    go_ret3
    exact ⟨rfl, rfl⟩
  · by_cases h0 : k < 0
    all_goals
      go_enter Tryd.func156, Tryd.ntmps156
      go_wp2
      go_ret3
      exact ⟨rfl, rfl⟩


theorem headS_cases {c s b : Nat} (hc : c < 256) (h : headS c = (s, b)) :
    (s = 1 ∧ c < 128 ∧ b = c) ∨ (s = 0 ∧ ((128 ≤ c ∧ c < 192) ∨ 248 ≤ c) ∧ b = 0) ∨ (s = 2 ∧ 192 ≤ c ∧ c < 224 ∧ b = c - 192) ∨ (s = 3 ∧ 224 ≤ c ∧ c < 240 ∧ b = c - 224) ∨
      (s = 4 ∧ 240 ≤ c ∧ c < 248 ∧ b = c - 240) := by
  unfold headS at h
  by_cases h1 : c < 128
  · rw [if_pos h1] at h; injection h with h2 h3; omega
  rw [if_neg h1] at h
  by_cases h2 : c < 192
  · rw [if_pos h2] at h; injection h with h2 h3; omega
  rw [if_neg h2] at h
  by_cases h3 : c < 224
  · rw [if_pos h3] at h; injection h with h2 h3; omega
  rw [if_neg h3] at h
  by_cases h4 : c < 240
  · rw [if_pos h4] at h; injection h with h2 h3; omega
  rw [if_neg h4] at h
  by_cases h5 : c < 248
  · rw [if_pos h5] at h; injection h with h2 h3; omega
  rw [if_neg h5] at h
  injection h with h2 h3; omega
theorem acc1 (l : List UInt8) (k b : Nat) : accS l k b (2 - 1) = b * 64 + byteAt l (k + 1) % 64 := by rw [show 2 - 1 = 0 + 1 from rfl, accS_succ]; rfl
theorem acc2 (l : List UInt8) (k b : Nat) : accS l k b (3 - 1) = (b * 64 + byteAt l (k + 1) % 64) * 64 + byteAt l (k + 2) % 64 := by
  rw [show 3 - 1 = 1 + 1 from rfl, accS_succ, show 1 = 2 - 1 from rfl, acc1]
theorem acc3 (l : List UInt8) (k b : Nat) : accS l k b (4 - 1) = ((b * 64 + byteAt l (k + 1) % 64) * 64 + byteAt l (k + 2) % 64) * 64 + byteAt l (k + 3) % 64 := by
  rw [show 4 - 1 = 2 + 1 from rfl, accS_succ, show accS l k b 2 = accS l k b (3 - 1) from rfl, acc2]
theorem rawS_1 {l : List UInt8} {k : Nat} (h : byteAt l k < 128) : rawS l k = ((byteAt l k : Int), 1) := by
  unfold rawS; simp only []; rw [if_pos (by omega)]
theorem rawS_2 {l : List UInt8} {k : Nat} {x : Int} (h : 192 ≤ byteAt l k) (h' : byteAt l k < 224) (hx : restS l (k + 1) = x) (h0 : 0 ≤ x) :
    rawS l k = (((byteAt l k : Int) - 192) * 64 + x, 2) := by
  subst hx; unfold rawS; simp only []; rw [if_neg (by omega), if_pos (by omega)]
theorem rawS_3 {l : List UInt8} {k : Nat} {x y : Int} (h : 224 ≤ byteAt l k) (h' : byteAt l k < 240) (hx : restS l (k + 1) = x) (h0 : 0 ≤ x) (hy : restS l (k + 2) = y) (h1 : 0 ≤ y) :
    rawS l k = ((((byteAt l k : Int) - 224) * 64 + x) * 64 + y, 3) := by
  subst hx hy; unfold rawS; simp only []; rw [if_neg (by omega), if_neg (by omega), if_pos (by omega)]
theorem rawS_4 {l : List UInt8} {k : Nat} {x y z : Int} (h : 240 ≤ byteAt l k) (h' : byteAt l k < 248) (hx : restS l (k + 1) = x) (h0 : 0 ≤ x) (hy : restS l (k + 2) = y) (h1 : 0 ≤ y) (hz : restS l (k + 3) = z) (h2 : 0 ≤ z) :
    rawS l k = (((((byteAt l k : Int) - 240) * 64 + x) * 64 + y) * 64 + z, 4) := by
  subst hx hy hz; unfold rawS; simp only []; rw [if_neg (by omega), if_neg (by omega), if_neg (by omega), if_pos (by omega)]
theorem rawS_0 {l : List UInt8} {k : Nat} (h : 128 ≤ byteAt l k) (h2 : byteAt l k < 192 ∨ 248 ≤ byteAt l k ∨ restS l (k + 1) = -1 ∨ (224 ≤ byteAt l k ∧ restS l (k + 2) = -1) ∨ (240 ≤ byteAt l k ∧ restS l (k + 3) = -1)) :
    rawS l k = (-1, 0) := by
  unfold rawS; simp only []; rw [if_neg (by omega), if_neg (by omega), if_neg (by omega), if_neg (by omega)]
theorem restS_in (l : List UInt8) (k : Nat) (h : k < l.length) (h1 : 128 ≤ byteAt l k ∧ byteAt l k ≤ 191) : restS l k = (byteAt l k : Int) - 128 := by
  unfold restS; rw [if_pos ⟨h, h1.1, h1.2⟩]
theorem restS_out (l : List UInt8) (k : Nat) (h : l.length ≤ k ∨ ¬ (128 ≤ byteAt l k ∧ byteAt l k ≤ 191)) : restS l k = -1 := by
  unfold restS; rw [if_neg (by omega)]
theorem raw_full (l : List UInt8) (k s b : Nat) (hh : headS (byteAt l k) = (s, b)) (h0 : 1 ≤ s) (hr : k + s ≤ l.length)
    (hc : ∀ i, i < s - 1 → 128 ≤ byteAt l (k + 1 + i) ∧ byteAt l (k + 1 + i) ≤ 191) : rawS l k = ((accS l k b (s - 1) : Int), s) := by
  have hb := byteAt_lt l k
  have cs := headS_cases hb hh
  have a1 : 1 < s → 128 ≤ byteAt l (k + 1) ∧ byteAt l (k + 1) ≤ 191 := fun h => hc 0 (by omega)
  have a2 : 2 < s → 128 ≤ byteAt l (k + 2) ∧ byteAt l (k + 2) ≤ 191 := fun h => hc 1 (by omega)
  have a3 : 3 < s → 128 ≤ byteAt l (k + 3) ∧ byteAt l (k + 3) ≤ 191 := fun h => hc 2 (by omega)
  clear hc hh
  rcases cs with ⟨hs, h1, hb2⟩ | ⟨hs, _⟩ | ⟨hs, h1, h2, hb2⟩ | ⟨hs, h1, h2, hb2⟩ | ⟨hs, h1, h2, hb2⟩
  · subst hs; rw [rawS_1 h1]; show _ = ((b : Int), 1); rw [hb2]
  · omega
  · subst hs
    have a := a1 (by omega)
    rw [rawS_2 h1 h2 (restS_in l (k + 1) (by omega) a) (by omega), acc1]
    congr 1; omega
  · subst hs
    have a := a1 (by omega)
    have a' := a2 (by omega)
    rw [rawS_3 h1 h2 (restS_in l (k + 1) (by omega) a) (by omega) (restS_in l (k + 2) (by omega) a') (by omega), acc2]
    congr 1; omega
  · subst hs
    have a := a1 (by omega)
    have a' := a2 (by omega)
    have a'' := a3 (by omega)
    rw [rawS_4 h1 h2 (restS_in l (k + 1) (by omega) a) (by omega) (restS_in l (k + 2) (by omega) a') (by omega) (restS_in l (k + 3) (by omega) a'') (by omega), acc3]
    congr 1; omega
theorem raw_none (l : List UInt8) (k s b : Nat) (hh : headS (byteAt l k) = (s, b))
    (h : s = 0 ∨ (1 < s ∧ l.length < k + s) ∨ ∃ i, i < s - 1 ∧ ¬ (128 ≤ byteAt l (k + 1 + i) ∧ byteAt l (k + 1 + i) ≤ 191)) : rawS l k = (-1, 0) := by
  have hb := byteAt_lt l k
  have cs := headS_cases hb hh
  have key : ∀ i, (l.length < k + 1 + i + 1 ∨ ¬ (128 ≤ byteAt l (k + 1 + i) ∧ byteAt l (k + 1 + i) ≤ 191)) → restS l (k + 1 + i) = -1 := fun i h => restS_out l _ (by omega)
  have k0 := key 0
  have k1 := key 1
  have k2 := key 2
  simp only [Nat.add_zero, Nat.add_assoc, Nat.reduceAdd] at k0 k1 k2
  clear hh key
  have h' : s = 0 ∨ (1 < s ∧ l.length < k + s) ∨ (1 < s ∧ ¬ (128 ≤ byteAt l (k + 1) ∧ byteAt l (k + 1) ≤ 191)) ∨ (2 < s ∧ ¬ (128 ≤ byteAt l (k + 2) ∧ byteAt l (k + 2) ≤ 191)) ∨ (3 < s ∧ ¬ (128 ≤ byteAt l (k + 3) ∧ byteAt l (k + 3) ≤ 191)) := by
    rcases h with h | h | ⟨i, hi, h⟩
    · exact .inl h
    · exact .inr (.inl h)
    · have : i = 0 ∨ i = 1 ∨ i = 2 := by omega
      rcases this with e | e | e <;> subst e
      · exact .inr (.inr (.inl ⟨by omega, h⟩))
      · exact .inr (.inr (.inr (.inl ⟨by omega, h⟩)))
      · exact .inr (.inr (.inr (.inr ⟨by omega, h⟩)))
  clear h
  apply rawS_0
  · omega
  · omega
def leastS (s : Nat) : Int := if s = 2 then 128 else if s = 3 then 2048 else if s = 4 then 65536 else 0
theorem acc_hi (l : List UInt8) (k s b : Nat) (hh : headS (byteAt l k) = (s, b)) (h0 : 1 ≤ s) :
    accS l k b (s - 1) < (if s = 1 then 128 else if s = 2 then 2048 else if s = 3 then 65536 else 2097152) := by
  have hb := byteAt_lt l k
  have cs := headS_cases hb hh
  clear hh
  rcases cs with ⟨hs, h1, hb2⟩ | ⟨hs, _⟩ | ⟨hs, h1, h2, hb2⟩ | ⟨hs, h1, h2, hb2⟩ | ⟨hs, h1, h2, hb2⟩
  · subst hs; rw [if_pos rfl]; show b < 128; omega
  · omega
  · subst hs; rw [acc1]; simp only [Nat.reduceEqDiff, if_true, if_false]; omega
  · subst hs; rw [acc2]; simp only [Nat.reduceEqDiff, if_true, if_false]; omega
  · subst hs; rw [acc3]; simp only [Nat.reduceEqDiff, if_false]; omega
theorem enc_least (q s : Nat) (h0 : 1 ≤ s) (h4 : s ≤ 4) (hq : q < (if s = 1 then 128 else if s = 2 then 2048 else if s = 3 then 65536 else 2097152)) : encLen q = s ↔ leastS s ≤ (q : Int) := by
  have : s = 1 ∨ s = 2 ∨ s = 3 ∨ s = 4 := by omega
  rcases this with rfl | rfl | rfl | rfl <;> simp [leastS] at hq ⊢ <;> unfold encLen <;> repeat (split <;> try omega)
/-- What Decode tells of a place within the text. -/
def decV (l : List UInt8) (k : Nat) : Value :=
  if (chrAt l k).2 = 0 then .tuple #[.int .i64 0, .int .i64 0, .int .i64 5] else .tuple #[.int .i64 (chrAt l k).1, .int .i64 ((k : Int) + (chrAt l k).2), .int .i64 0]
theorem decV_none {l : List UInt8} {k : Nat} (h : (rawS l k).2 = 0) : decV l k = .tuple #[.int .i64 0, .int .i64 0, .int .i64 5] := by
  unfold decV chrAt; simp [h]
theorem decV_bad {l : List UInt8} {k : Nat} (h : isR (rawS l k).1 = false ∨ encLen (rawS l k).1.toNat ≠ (rawS l k).2) : decV l k = .tuple #[.int .i64 0, .int .i64 0, .int .i64 5] := by
  unfold decV chrAt; simp only []; rw [if_pos (by split <;> simp_all)]
theorem decV_good {l : List UInt8} {k s : Nat} {q : Int} (hr : rawS l k = (q, s)) (h0 : s ≠ 0) (h : isR q = true) (he : encLen q.toNat = s) :
    decV l k = .tuple #[.int .i64 q, .int .i64 ((k : Int) + s), .int .i64 0] := by
  have hc : chrAt l k = (q, s) := by unfold chrAt; rw [hr]; simp only []; rw [if_neg (by simp [h0, h, he])]
  unfold decV; rw [hc]; simp only []; rw [if_neg h0]
theorem least_s (n : Nat) (w : World) (h0 : 1 ≤ n) (h4 : n ≤ 4) :
    Calls Tryd.prog 183 #[.int .i64 n] w fun e w' => e = .returned (.int .i64 (leastS n)) ∧ w = w' := least_any n w (by omega)

set_option maxRecDepth 100000 in
set_option maxHeartbeats 1000000 in
theorem decode_few (l : List UInt8) (A : Option Addr) (n c k s b : Nat) (w : World) (hn : l.length = n) (hk : k < n) (hs : Sees w A (vB l)) (hm : n ≤ 9223372036854775807)
    (hh : headS (byteAt l k) = (s, b)) (h : s = 0 ∨ n < k + s) :
    Calls Tryd.prog 156 #[.slice A n c, .int .i64 k] w fun e w' => e = .returned (.tuple #[.int .i64 0, .int .i64 0, .int .i64 5]) ∧ w = w' := by
  obtain ⟨ad, rfl, hcell⟩ := hs.byte (k := k) (by omega)
  have hx := byteAt_lt l k
  have hs4 := headS_cases hx hh
  obtain ⟨x, hxe⟩ : ∃ x, byteAt l k = x := ⟨_, rfl⟩
  rw [hxe] at hcell hx hh
  have hs5 : s ≤ 4 := by omega
  have HH := fun w => head_eq x s b hh w hx
  have H1 := Lib.hid HH
  clear HH hh hn hxe hs4
  have t1 : (k : Int) < (n : Int) := by omega
  have t2 : 0 ≤ (k : Int) := by omega
  by_cases h0 : s = 0
  · subst h0
    go_enter Tryd.func156, Tryd.ntmps156
    go_wp2_with (go_at_call 182; refine (H1.out _).mono ?_; rintro e w' ⟨rfl, rfl⟩)
    go_ret3
    exact ⟨rfl, rfl⟩
  · have t3 : ((s : Int) == 0) = false := by simp; omega
    have t4 : (n : Int) - (k : Int) < (s : Int) := by omega
    go_enter Tryd.func156, Tryd.ntmps156
    go_wp2_with (go_at_call 182; refine (H1.out _).mono ?_; rintro e w' ⟨rfl, rfl⟩)
    go_ret3
    exact ⟨rfl, rfl⟩

set_option maxRecDepth 100000 in
set_option maxHeartbeats 2000000 in
theorem decode_loop (l : List UInt8) (ad : Addr) (n c k s b : Nat) (w : World) (hn : l.length = n) (hnc : n ≤ c) (hm : c ≤ 9223372036854775807) (hk : k < n) (hs : Sees w (some ad) (vB l))
    (hh : headS (byteAt l k) = (s, b)) (h0 : 1 ≤ s) (h4 : s ≤ 4) (hb : b < 128) (hroom : k + s ≤ n) (hcap : ¬ c = k + 1) :
    Calls Tryd.prog 156 #[.slice (some ad) n c, .int .i64 k] w fun e w' => e = .returned (decV l k) ∧ w = w' := by
  obtain ⟨ad', hA, hcell⟩ := hs.byte (k := k) (by omega)
  obtain rfl : ad = ad' := by injection hA
  have hx := byteAt_lt l k
  have HH0 := Lib.hid hh
  obtain ⟨x, hxe⟩ : ∃ x, byteAt l k = x := ⟨_, rfl⟩
  rw [hxe] at hcell hx hh
  have HH := fun w => head_eq x s b hh w hx
  have H1 := Lib.hid HH
  have HN := Lib.hid hn
  clear HH hh hA hn hxe
  have t1 : (k : Int) < (n : Int) := by omega
  have t2 : 0 ≤ (k : Int) := by omega
  have t3 : ((s : Int) == 0) = false := by simp; omega
  have t4 : (s : Int) ≤ (n : Int) - (k : Int) := by omega
  go_enter Tryd.func156, Tryd.ntmps156
  go_wp2_with (go_at_call 182; refine (H1.out _).mono ?_; rintro e w' ⟨rfl, rfl⟩)
  go_loop [8, 45] (fun v i => ∃ j : Nat, j ≤ k + s - (k + 1) ∧ i = .int .i64 j ∧ v = .int .i64 (accS l k b j) ∧ ∀ i, i < j → 128 ≤ byteAt l (k + 1 + i) ∧ byteAt l (k + 1 + i) ≤ 191) (fun _ i => k + s - (k + 1) - (intOf i).toNat)
  case atStart => exact ⟨0, by omega, rfl, rfl, fun i h => absurd h (by omega)⟩
  case round =>
    obtain ⟨j, hj, rfl, rfl, hcont⟩ := hrel
    have hacc := accS_le l k b hb j (by omega)
    have HC := Lib.hid hcont
    clear hcont
    by_cases hlt : j < k + s - (k + 1)
    · obtain ⟨ad', hA, hcell'⟩ := hs.byte (k := k + 1 + j) (by have := HN.out; omega)
      obtain rfl : ad = ad' := by injection hA
      have hy := byteAt_lt l (k + 1 + j)
      have HB := Lib.hid (accS_succ l k b j)
      obtain ⟨y, hye⟩ : ∃ y, byteAt l (k + 1 + j) = y := ⟨_, rfl⟩
      rw [hye] at hcell' hy
      have hc2 : w.cell? ⟨ad.block, ad.off + (k + 1) + j, none⟩ = some (.int .u8 (y : Int)) := by
        rw [← hcell']; congr 1
        unfold Addr.add
        rw [if_neg (by omega)]; simp only [Addr.mk.injEq, true_and, and_true]; omega
      have HY := Lib.hid hye
      clear hye hcell' hA hs
      have a1 := u8_and192 y hy
      have a2 := u8_and63 (y : Int) (by omega) (by omega)
      obtain ⟨q, hq⟩ : ∃ q, accS l k b j = q := ⟨_, rfl⟩
      have HQ := Lib.hid hq
      rw [hq] at hacc
      simp only [hq]
      clear hq
      by_cases hcy : 128 ≤ y ∧ y ≤ 191
      · have a3 : ((y : Int) / 64 * 64 != 128) = false := by simp; omega
        have a4 := i64_or6 ((q : Int) * 64) ((y : Int) % 64) (by omega) (by omega) (by omega) (by omega) (by omega)
        have HCY := Lib.hid hcy
        clear hcy
        go_wp2
        go_round
        case rel =>
          refine ⟨j + 1, by omega, by go_num, ?_, ?_⟩
          · rw [HB.out, HQ.out, HY.out]; simp
          · intro i hi
            rcases Nat.lt_or_ge i j with h | h
            · exact HC.out i h
            · obtain rfl : i = j := by omega
              rw [HY.out]; exact HCY.out
        case measure => simp [intOf]; omega
      · have a3 : ((y : Int) / 64 * 64 != 128) = true := by simp; omega
        have HV := Lib.hid (decV_none (l := l) (k := k) (by rw [raw_none l k s b HH0.out (.inr (.inr ⟨j, by omega, by rw [HY.out]; exact hcy⟩))]))
        clear hcy
        go_wp2
        go_ret3
        exact ⟨by rw [HV.out]; rfl, rfl⟩
    · have hjs : j = s - 1 := by omega
      have hraw := raw_full l k s b HH0.out h0 (by rw [HN.out]; exact hroom) (by rw [← hjs]; exact HC.out)
      have hhi := acc_hi l k s b HH0.out h0
      obtain ⟨q, hq⟩ : ∃ q, accS l k b (s - 1) = q := ⟨_, rfl⟩
      have hqj : accS l k b j = q := by rw [hjs]; exact hq
      rw [hq] at hraw hhi
      have henc := enc_least q s h0 h4 hhi
      simp only [hqj]
      have hq2 : q < 33554432 := by rw [← hq]; exact accS_le l k b hb _ (by omega)
      clear hacc hhi hs hcell hq hqj hjs
      have HRW := Lib.hid hraw
      clear hraw
      by_cases hl : (q : Int) < leastS s
      · have HV := Lib.hid (decV_bad (l := l) (k := k) (.inr (by rw [HRW.out]; simp only [Int.toNat_natCast]; intro h; have := henc.1 h; omega)))
        clear henc
        go_wp2_with (first | (go_at_call 183; refine (least_s _ _ h0 h4).mono ?_; rintro e w' ⟨rfl, rfl⟩) | (go_at_call 153; refine (is_any _ _).mono ?_; rintro e w' ⟨rfl, rfl⟩))
        go_ret3
        exact ⟨by rw [HV.out]; rfl, rfl⟩
      · by_cases hi : isR (q : Int) = true
        · have HV := Lib.hid (decV_good HRW.out (by omega) hi (by simp only [Int.toNat_natCast]; exact henc.2 (by omega)))
          clear henc
          go_wp2_with (first | (go_at_call 183; refine (least_s _ _ h0 h4).mono ?_; rintro e w' ⟨rfl, rfl⟩) | (go_at_call 153; refine (is_any _ _).mono ?_; rintro e w' ⟨rfl, rfl⟩))
          go_ret3
          exact ⟨by rw [HV.out]; rfl, rfl⟩
        · have hi' : isR (q : Int) = false := by simpa using hi
          have HV := Lib.hid (decV_bad (l := l) (k := k) (.inl (by rw [HRW.out]; exact hi')))
          clear henc hi
          go_wp2_with (first | (go_at_call 183; refine (least_s _ _ h0 h4).mono ?_; rintro e w' ⟨rfl, rfl⟩) | (go_at_call 153; refine (is_any _ _).mono ?_; rintro e w' ⟨rfl, rfl⟩))
          go_ret3
          exact ⟨by rw [HV.out]; rfl, rfl⟩
end Go.Proofs.YtdmfladcldkmeaaDoor
