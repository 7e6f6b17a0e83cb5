/- Contracts: the character at a place; the bytes of one character, as the document's own answer has them. -/
import Derived.Test.YtdmfladcldkmeaaDoorUtfC
import Derived.Deep.DeepCutAuto
namespace Go.Proofs.YtdmfladcldkmeaaDoor
open Go.ChangeShapes Go.WideShapes Go.ChangeAt Go.RowKit
set_option linter.unusedVariables false

set_option maxRecDepth 100000 in
set_option maxHeartbeats 1000000 in
theorem decode_last (l : List UInt8) (ad : Addr) (n k b : Nat) (w : World) (hn : l.length = n) (hnc : n = k + 1) (hm : n ≤ 9223372036854775807) (hs : Sees w (some ad) (vB l))
    (hh : headS (byteAt l k) = (1, b)) :
    Calls Tryd.prog 156 #[.slice (some ad) n n, .int .i64 k] w fun e w' => e = .returned (decV l k) ∧ w = w' := by
  obtain ⟨ad', hA, hcell⟩ := hs.byte (k := k) (by omega)
  obtain rfl : ad = ad' := by injection hA
  have hx := byteAt_lt l k
  have cs := headS_cases hx hh
  obtain ⟨hx1, rfl⟩ : byteAt l k < 128 ∧ b = byteAt l k := by omega
  clear cs
  have hi : isR (byteAt l k : Int) = true := isR_mk (by simp; omega)
  have HV := Lib.hid (decV_good (rawS_1 hx1) (by omega) hi (by simp only [Int.toNat_natCast]; unfold encLen; rw [if_pos hx1]))
  obtain ⟨x, hxe⟩ : ∃ x, byteAt l k = x := ⟨_, rfl⟩
  rw [hxe] at hcell hx hh hx1 HV hi
  have HH := fun w => head_eq x 1 x hh w hx
  have H1 := Lib.hid HH
  clear HH hh hA hn hxe hs
  subst hnc
  have t2 : 0 ≤ (k : Int) := by omega
  have t3 : leastS 1 ≤ (x : Int) := by show (0 : Int) ≤ _; omega
  go_enter Tryd.func156, Tryd.ntmps156
  go_wp2_with (go_at_call 182; refine (H1.out _).mono ?_; rintro e w' ⟨rfl, rfl⟩)
  go_loop [8, 45] (fun v i => i = .int .i64 0 ∧ v = .int .i64 x) (fun _ i => 1 - (intOf i).toNat)
  case atStart => exact ⟨rfl, rfl⟩
  case round =>
    obtain ⟨rfl, rfl⟩ := hrel
    go_wp2_with (first | (go_at_call 183; refine (least_s 1 _ (by omega) (by omega)).mono ?_; rintro e w' ⟨rfl, rfl⟩) | (go_at_call 153; refine (is_any _ _).mono ?_; rintro e w' ⟨rfl, rfl⟩))
    go_ret3
    exact ⟨by rw [HV.out]; rfl, rfl⟩

theorem decode_in (l : List UInt8) (A : Option Addr) (n c k : Nat) (w : World) (hn : l.length = n) (hnc : n ≤ c) (hm : c ≤ 9223372036854775807) (hk : k < n) (hs : Sees w A (vB l)) :
    Calls Tryd.prog 156 #[.slice A n c, .int .i64 k] w fun e w' => e = .returned (decV l k) ∧ w = w' := by
  obtain ⟨ad, rfl, _⟩ := hs.byte (k := k) (by omega)
  obtain ⟨s, b, hsb⟩ : ∃ s b, headS (byteAt l k) = (s, b) := ⟨_, _, rfl⟩
  have cs := headS_cases (byteAt_lt l k) hsb
  by_cases hf : s = 0 ∨ n < k + s
  · rw [decV_none (by rw [raw_none l k s b hsb (by omega)])]
    exact decode_few l _ n c k s b w hn hk hs (by omega) hsb hf
  · by_cases hc : c = k + 1
    · obtain rfl : s = 1 := by omega
      obtain rfl : c = n := by omega
      exact decode_last l ad c k b w hn hc hm hs hsb
    · exact decode_loop l ad n c k s b w hn hnc hm hk hs hsb (by omega) (by omega) (by omega) (by omega) hc

theorem ofNat_toNat {n : Nat} (h : n < 256) : (UInt8.ofNat n).toNat = n := by simp; omega
theorem vB_ofNat (l : List Nat) (h : ∀ n ∈ l, n < 256) : vB (l.map UInt8.ofNat) = l.map fun n => .int .u8 (n : Int) := by
  unfold vB
  rw [List.map_map]
  apply List.map_congr_left
  intro n hn
  show Value.int .u8 _ = _
  rw [ofNat_toNat (h n hn)]
theorem enc_1 {r : Int} (h0 : 0 ≤ r) (h : r < 128) : encLen r.toNat = 1 ∧ (vB (encB r.toNat)).toArray = #[.int .u8 r] := by
  refine ⟨by unfold encLen; rw [if_pos (by omega)], ?_⟩
  unfold encB encN
  rw [if_pos (by omega), vB_ofNat _ (by simp; omega)]
  simp; omega
theorem enc_2 {r : Int} (h0 : 128 ≤ r) (h : r < 2048) : encLen r.toNat = 2 ∧ (vB (encB r.toNat)).toArray = #[.int .u8 (192 + r / 64), .int .u8 (128 + r % 64)] := by
  refine ⟨by unfold encLen; rw [if_neg (by omega), if_pos (by omega)], ?_⟩
  unfold encB encN
  rw [if_neg (by omega), if_pos (by omega), vB_ofNat _ (by simp; omega)]
  simp; omega
theorem enc_3 {r : Int} (h0 : 2048 ≤ r) (h : r < 65536) : encLen r.toNat = 3 ∧ (vB (encB r.toNat)).toArray = #[.int .u8 (224 + r / 4096), .int .u8 (128 + r / 64 % 64), .int .u8 (128 + r % 64)] := by
  refine ⟨by unfold encLen; rw [if_neg (by omega), if_neg (by omega), if_pos (by omega)], ?_⟩
  unfold encB encN
  rw [if_neg (by omega), if_neg (by omega), if_pos (by omega), vB_ofNat _ (by simp; omega)]
  simp; omega
theorem enc_4 {r : Int} (h0 : 65536 ≤ r) (h : r < 2097152) : encLen r.toNat = 4 ∧ (vB (encB r.toNat)).toArray = #[.int .u8 (240 + r / 262144), .int .u8 (128 + r / 4096 % 64), .int .u8 (128 + r / 64 % 64), .int .u8 (128 + r % 64)] := by
  refine ⟨by unfold encLen; rw [if_neg (by omega), if_neg (by omega), if_neg (by omega)], ?_⟩
  unfold encB encN
  rw [if_neg (by omega), if_neg (by omega), if_neg (by omega), vB_ofNat _ (by simp; omega)]
  simp; omega

set_option maxRecDepth 100000 in
set_option maxHeartbeats 1000000 in
theorem rbytes_any (r : Int) (w : World) (h0 : 0 ≤ r) (h1 : r < 2097152) :
    Calls Tryd.prog 91 #[.int .i64 r] w fun e w' => e = .returned (.slice (some ⟨w.heap.size, 0, none⟩) (encLen r.toNat) (encLen r.toNat)) ∧
      w' = w.alloc (.cells (vB (encB r.toNat)).toArray 5) := by
  by_cases c1 : r < 128
  · rw [(enc_1 h0 c1).1, (enc_1 h0 c1).2]
    go_enter Tryd.func91, Tryd.ntmps91
    go_wp2
    go_ret
    exact ⟨rfl, rfl⟩
  by_cases c2 : r < 2048
  · rw [(enc_2 (by omega) c2).1, (enc_2 (by omega) c2).2]
    have e1 : (192 + r / 64) % 256 = 192 + r / 64 := by omega
    have e2 : (128 + r % 64) % 256 = 128 + r % 64 := by omega
    go_enter Tryd.func91, Tryd.ntmps91
    go_wp2
    go_ret
    exact ⟨rfl, rfl⟩
  by_cases c3 : r < 65536
  · rw [(enc_3 (by omega) c3).1, (enc_3 (by omega) c3).2]
    have e1 : (224 + r / 4096) % 256 = 224 + r / 4096 := by omega
    have e2 : (128 + r % 64) % 256 = 128 + r % 64 := by omega
    have e3 : (128 + r / 64 % 64) % 256 = 128 + r / 64 % 64 := by omega
    go_enter Tryd.func91, Tryd.ntmps91
    go_wp2
    go_ret
    exact ⟨rfl, rfl⟩
  · rw [(enc_4 (by omega) h1).1, (enc_4 (by omega) h1).2]
    have e1 : (240 + r / 262144) % 256 = 240 + r / 262144 := by omega
    have e2 : (128 + r % 64) % 256 = 128 + r % 64 := by omega
    have e3 : (128 + r / 64 % 64) % 256 = 128 + r / 64 % 64 := by omega
    have e4 : (128 + r / 4096 % 64) % 256 = 128 + r / 4096 % 64 := by omega
    go_enter Tryd.func91, Tryd.ntmps91
    go_wp2
    go_ret
    exact ⟨rfl, rfl⟩

/-- What the document's own Char tells: the character's number, and how many bytes. -/
def chrV (l : List UInt8) (k : Nat) : Value := .tuple #[.int .i64 (chrAt l k).1, .int .i64 (chrAt l k).2]
theorem rawS_cases (l : List UInt8) (k : Nat) :
    rawS l k = (-1, 0) ∨ (∃ q : Int, 0 ≤ q ∧ q < 2097152 ∧ ∃ n, 1 ≤ n ∧ n ≤ 4 ∧ rawS l k = (q, n)) := by
  have hb := byteAt_lt l k
  have h1 := restS_bd l (k + 1)
  have h2 := restS_bd l (k + 2)
  have h3 := restS_bd l (k + 3)
  unfold rawS
  simp only []
  split
  · right; exact ⟨_, by omega, by omega, 1, by omega, by omega, rfl⟩
  · split
    · right; exact ⟨_, by omega, by omega, 2, by omega, by omega, rfl⟩
    · split
      · right; exact ⟨_, by omega, by omega, 3, by omega, by omega, rfl⟩
      · split
        · right; exact ⟨_, by omega, by omega, 4, by omega, by omega, rfl⟩
        · left; rfl
theorem rest_i (l : List UInt8) (A : Option Addr) (n c j : Nat) (i : Int) (w : World) (hi : i = (j : Int)) (hn : l.length = n) (hm : n ≤ 9223372036854775807) (hs : Sees w A (vB l)) :
    Calls Tryd.prog 159 #[.slice A n c, .int .i64 i] w fun e w' => e = .returned (.int .i64 (restS l j)) ∧ w = w' := by
  rw [hi]; exact rest_any l A n c j w hn hm hs
theorem chrV_none {l : List UInt8} {k : Nat} (h : (rawS l k).2 = 0 ∨ isR (rawS l k).1 = false ∨ encLen (rawS l k).1.toNat ≠ (rawS l k).2) : chrV l k = .tuple #[.int .i64 0, .int .i64 0] := by
  unfold chrV chrAt; simp only []; rw [if_pos h]; rfl
theorem chrV_good {l : List UInt8} {k s : Nat} {q : Int} (hr : rawS l k = (q, s)) (h0 : s ≠ 0) (h : isR q = true) (he : encLen q.toNat = s) : chrV l k = .tuple #[.int .i64 q, .int .i64 s] := by
  have hc : chrAt l k = (q, s) := by unfold chrAt; rw [hr]; simp only []; rw [if_neg (by simp [h0, h, he])]
  unfold chrV; rw [hc]

end Go.Proofs.YtdmfladcldkmeaaDoor
