/- Contracts: the character at a place; the bytes of one character, as the document's own answer has them. Contract: the character at a place, as the document's own answer has it. Contracts: the bytes of a character laid behind others; Encode. The characters of a text, one by one: what is told, and the contract of the iterator. The tables of package chars: what the cells hold; a run of numbers; the contracts of those who go through a table. -/
import Derived.Deep.DeepCutAuto
import Derived.Laws.AppendOwn
import Derived.OwnWalk
import Derived.RangeFuncNested
import Derived.RangeFuncBound
import Derived.RangeFuncCalls
import Derived.RangeFuncLeaves
import Derived.Shelf.Abstract
import Derived.Shelf.RegionOpen
import Derived.OwnWalkIn
import Derived.TacticsInMore
import Derived.LoopNIn
import Derived.LoopIn
import Derived.Laws.Rows
import Derived.Test.YtdmfladcldkmeaaDoorPkaa
namespace Go.Proofs.YtdmfladcldkmeaaDoor
open Go.ChangeShapes Go.WideShapes Go.ChangeAt Go.RowKit
set_option linter.unusedVariables false

set_option maxRecDepth 100000 in
set_option maxHeartbeats 1000000 in
theorem decode_last (l : List UInt8) (ad : Addr) (n k b : Nat) (w : World) (hn : l.length = n) (hnc : n = k + 1) (hm : n ≤ 9223372036854775807) (hs : Sees w (some ad) (vB l))
    (hh : headS (byteAt l k) = (1, b)) :
    Calls Tryd.prog 156 #[.slice (some ad) n n, .int .i64 k] w fun e w' => e = .returned (decV l k) ∧ w = w' := by
  obtain ⟨ad', hA, hcell⟩ := hs.byte (k := k) (by omega)
  obtain rfl : ad = ad' := by injection hA
  have hx := byteAt_lt l k
  have cs := headS_cases hx hh
  obtain ⟨hx1, rfl⟩ : byteAt l k < 128 ∧ b = byteAt l k := by omega
  clear cs
  have hi : isR (byteAt l k : Int) = true := isR_mk (by simp; omega)
  have HV := Lib.hid (decV_good (rawS_1 hx1) (by omega) hi (by simp only [Int.toNat_natCast]; unfold encLen; rw [if_pos hx1]))
  obtain ⟨x, hxe⟩ : ∃ x, byteAt l k = x := ⟨_, rfl⟩
  rw [hxe] at hcell hx hh hx1 HV hi
  have HH := fun w => head_eq x 1 x hh w hx
  have H1 := Lib.hid HH
  clear HH hh hA hn hxe hs
  subst hnc
  have t2 : 0 ≤ (k : Int) := by omega
  have t3 : leastS 1 ≤ (x : Int) := by show (0 : Int) ≤ _; omega
  go_enter Tryd.func156, Tryd.ntmps156
  go_wp2_with (go_at_call 182; refine (H1.out _).mono ?_; rintro e w' ⟨rfl, rfl⟩)
  go_loop [8, 45] (fun v i => i = .int .i64 0 ∧ v = .int .i64 x) (fun _ i => 1 - (intOf i).toNat)
  case atStart => exact ⟨rfl, rfl⟩
  case round =>
    obtain ⟨rfl, rfl⟩ := hrel
    go_wp2_with (first | (go_at_call 183; refine (least_s 1 _ (by omega) (by omega)).mono ?_; rintro e w' ⟨rfl, rfl⟩) | (go_at_call 153; refine (is_any _ _).mono ?_; rintro e w' ⟨rfl, rfl⟩))
    go_ret3
    exact ⟨by rw [HV.out]; rfl, rfl⟩

theorem decode_in (l : List UInt8) (A : Option Addr) (n c k : Nat) (w : World) (hn : l.length = n) (hnc : n ≤ c) (hm : c ≤ 9223372036854775807) (hk : k < n) (hs : Sees w A (vB l)) :
    Calls Tryd.prog 156 #[.slice A n c, .int .i64 k] w fun e w' => e = .returned (decV l k) ∧ w = w' := by
  obtain ⟨ad, rfl, _⟩ := hs.byte (k := k) (by omega)
  obtain ⟨s, b, hsb⟩ : ∃ s b, headS (byteAt l k) = (s, b) := ⟨_, _, rfl⟩
  have cs := headS_cases (byteAt_lt l k) hsb
  by_cases hf : s = 0 ∨ n < k + s
  · rw [decV_none (by rw [raw_none l k s b hsb (by omega)])]
    exact decode_few l _ n c k s b w hn hk hs (by omega) hsb hf
  · by_cases hc : c = k + 1
    · obtain rfl : s = 1 := by omega
      obtain rfl : c = n := by omega
      exact decode_last l ad c k b w hn hc hm hs hsb
    · exact decode_loop l ad n c k s b w hn hnc hm hk hs hsb (by omega) (by omega) (by omega) (by omega) hc

theorem ofNat_toNat {n : Nat} (h : n < 256) : (UInt8.ofNat n).toNat = n := by simp; omega
theorem vB_ofNat (l : List Nat) (h : ∀ n ∈ l, n < 256) : vB (l.map UInt8.ofNat) = l.map fun n => .int .u8 (n : Int) := by
  unfold vB
  rw [List.map_map]
  apply List.map_congr_left
  intro n hn
  show Value.int .u8 _ = _
  rw [ofNat_toNat (h n hn)]
theorem enc_1 {r : Int} (h0 : 0 ≤ r) (h : r < 128) : encLen r.toNat = 1 ∧ (vB (encB r.toNat)).toArray = #[.int .u8 r] := by
  refine ⟨by unfold encLen; rw [if_pos (by omega)], ?_⟩
  unfold encB encN
  rw [if_pos (by omega), vB_ofNat _ (by simp; omega)]
  simp; omega
theorem enc_2 {r : Int} (h0 : 128 ≤ r) (h : r < 2048) : encLen r.toNat = 2 ∧ (vB (encB r.toNat)).toArray = #[.int .u8 (192 + r / 64), .int .u8 (128 + r % 64)] := by
  refine ⟨by unfold encLen; rw [if_neg (by omega), if_pos (by omega)], ?_⟩
  unfold encB encN
  rw [if_neg (by omega), if_pos (by omega), vB_ofNat _ (by simp; omega)]
  simp; omega
theorem enc_3 {r : Int} (h0 : 2048 ≤ r) (h : r < 65536) : encLen r.toNat = 3 ∧ (vB (encB r.toNat)).toArray = #[.int .u8 (224 + r / 4096), .int .u8 (128 + r / 64 % 64), .int .u8 (128 + r % 64)] := by
  refine ⟨by unfold encLen; rw [if_neg (by omega), if_neg (by omega), if_pos (by omega)], ?_⟩
  unfold encB encN
  rw [if_neg (by omega), if_neg (by omega), if_pos (by omega), vB_ofNat _ (by simp; omega)]
  simp; omega
theorem enc_4 {r : Int} (h0 : 65536 ≤ r) (h : r < 2097152) : encLen r.toNat = 4 ∧ (vB (encB r.toNat)).toArray = #[.int .u8 (240 + r / 262144), .int .u8 (128 + r / 4096 % 64), .int .u8 (128 + r / 64 % 64), .int .u8 (128 + r % 64)] := by
  refine ⟨by unfold encLen; rw [if_neg (by omega), if_neg (by omega), if_neg (by omega)], ?_⟩
  unfold encB encN
  rw [if_neg (by omega), if_neg (by omega), if_neg (by omega), vB_ofNat _ (by simp; omega)]
  simp; omega

set_option maxRecDepth 100000 in
set_option maxHeartbeats 1000000 in
theorem rbytes_any (r : Int) (w : World) (h0 : 0 ≤ r) (h1 : r < 2097152) :
    Calls Tryd.prog 91 #[.int .i64 r] w fun e w' => e = .returned (.slice (some ⟨w.heap.size, 0, none⟩) (encLen r.toNat) (encLen r.toNat)) ∧
      w' = w.alloc (.cells (vB (encB r.toNat)).toArray 5) := by
  by_cases c1 : r < 128
  · rw [(enc_1 h0 c1).1, (enc_1 h0 c1).2]
    go_enter Tryd.func91, Tryd.ntmps91
    go_wp2
    go_ret
    exact ⟨rfl, rfl⟩
  by_cases c2 : r < 2048
  · rw [(enc_2 (by omega) c2).1, (enc_2 (by omega) c2).2]
    have e1 : (192 + r / 64) % 256 = 192 + r / 64 := by omega
    have e2 : (128 + r % 64) % 256 = 128 + r % 64 := by omega
    go_enter Tryd.func91, Tryd.ntmps91
    go_wp2
    go_ret
    exact ⟨rfl, rfl⟩
  by_cases c3 : r < 65536
  · rw [(enc_3 (by omega) c3).1, (enc_3 (by omega) c3).2]
    have e1 : (224 + r / 4096) % 256 = 224 + r / 4096 := by omega
    have e2 : (128 + r % 64) % 256 = 128 + r % 64 := by omega
    have e3 : (128 + r / 64 % 64) % 256 = 128 + r / 64 % 64 := by omega
    go_enter Tryd.func91, Tryd.ntmps91
    go_wp2
    go_ret
    exact ⟨rfl, rfl⟩
  · rw [(enc_4 (by omega) h1).1, (enc_4 (by omega) h1).2]
    have e1 : (240 + r / 262144) % 256 = 240 + r / 262144 := by omega
    have e2 : (128 + r % 64) % 256 = 128 + r % 64 := by omega
    have e3 : (128 + r / 64 % 64) % 256 = 128 + r / 64 % 64 := by omega
    have e4 : (128 + r / 4096 % 64) % 256 = 128 + r / 4096 % 64 := by omega
    go_enter Tryd.func91, Tryd.ntmps91
    go_wp2
    go_ret
    exact ⟨rfl, rfl⟩

/-- What the document's own Char tells: the character's number, and how many bytes. -/
def chrV (l : List UInt8) (k : Nat) : Value := .tuple #[.int .i64 (chrAt l k).1, .int .i64 (chrAt l k).2]
theorem rawS_cases (l : List UInt8) (k : Nat) :
    rawS l k = (-1, 0) ∨ (∃ q : Int, 0 ≤ q ∧ q < 2097152 ∧ ∃ n, 1 ≤ n ∧ n ≤ 4 ∧ rawS l k = (q, n)) := by
  have hb := byteAt_lt l k
  have h1 := restS_bd l (k + 1)
  have h2 := restS_bd l (k + 2)
  have h3 := restS_bd l (k + 3)
  unfold rawS
  simp only []
  split
  · right; exact ⟨_, by omega, by omega, 1, by omega, by omega, rfl⟩
  · split
    · right; exact ⟨_, by omega, by omega, 2, by omega, by omega, rfl⟩
    · split
      · right; exact ⟨_, by omega, by omega, 3, by omega, by omega, rfl⟩
      · split
        · right; exact ⟨_, by omega, by omega, 4, by omega, by omega, rfl⟩
        · left; rfl
theorem rest_i (l : List UInt8) (A : Option Addr) (n c j : Nat) (i : Int) (w : World) (hi : i = (j : Int)) (hn : l.length = n) (hm : n ≤ 9223372036854775807) (hs : Sees w A (vB l)) :
    Calls Tryd.prog 159 #[.slice A n c, .int .i64 i] w fun e w' => e = .returned (.int .i64 (restS l j)) ∧ w = w' := by
  rw [hi]; exact rest_any l A n c j w hn hm hs
theorem chrV_none {l : List UInt8} {k : Nat} (h : (rawS l k).2 = 0 ∨ isR (rawS l k).1 = false ∨ encLen (rawS l k).1.toNat ≠ (rawS l k).2) : chrV l k = .tuple #[.int .i64 0, .int .i64 0] := by
  unfold chrV chrAt; simp only []; rw [if_pos h]; rfl
theorem chrV_good {l : List UInt8} {k s : Nat} {q : Int} (hr : rawS l k = (q, s)) (h0 : s ≠ 0) (h : isR q = true) (he : encLen q.toNat = s) : chrV l k = .tuple #[.int .i64 q, .int .i64 s] := by
  have hc : chrAt l k = (q, s) := by unfold chrAt; rw [hr]; simp only []; rw [if_neg (by simp [h0, h, he])]
  unfold chrV; rw [hc]

end Go.Proofs.YtdmfladcldkmeaaDoor
namespace Go.Proofs.YtdmfladcldkmeaaDoor
open Go.ChangeShapes Go.WideShapes Go.ChangeAt Go.RowKit
set_option linter.unusedVariables false

set_option maxRecDepth 100000 in
set_option maxHeartbeats 4000000 in
theorem rchar_any (l : List UInt8) (A : Option Addr) (n c k : Nat) (w : World) (hn : l.length = n) (hm : n ≤ 9223372036854775800) (hk : k < n) (hs : Sees w A (vB l)) :
    Calls Tryd.prog 133 #[.slice A n c, .int .i64 k] w fun e w' => e = .returned (chrV l k) ∧ Below w.heap.size w w' := by
  obtain ⟨ad, rfl, hcell⟩ := hs.byte (k := k) (by omega)
  have hx := byteAt_lt l k
  have HR : ∀ c x y z, (byteAt l k : Int) = c → restS l (k + 1) = x → restS l (k + 2) = y → restS l (k + 3) = z → rawS l k =
    if c < 128 then (c, 1) else if 192 ≤ c ∧ c < 224 ∧ 0 ≤ x then ((c - 192) * 64 + x, 2) else if 224 ≤ c ∧ c < 240 ∧ 0 ≤ x ∧ 0 ≤ y then (((c - 224) * 64 + x) * 64 + y, 3)
      else if 240 ≤ c ∧ c < 248 ∧ 0 ≤ x ∧ 0 ≤ y ∧ 0 ≤ z then ((((c - 240) * 64 + x) * 64 + y) * 64 + z, 4) else (-1, 0) := by
    rintro _ _ _ _ rfl rfl rfl rfl; rfl
  have c1 := fun w hs => rest_i l (some ad) n c (k + 1) ((k : Int) + 1) w (by omega) hn (by omega) hs
  have c2 := fun w hs => rest_i l (some ad) n c (k + 2) ((k : Int) + 2) w (by omega) hn (by omega) hs
  have c3 := fun w hs => rest_i l (some ad) n c (k + 3) ((k : Int) + 3) w (by omega) hn (by omega) hs
  have b1 := restS_bd l (k + 1)
  have b2 := restS_bd l (k + 2)
  have b3 := restS_bd l (k + 3)
  obtain ⟨b, hb⟩ : ∃ b, byteAt l k = b := ⟨_, rfl⟩
  obtain ⟨x, hxe⟩ : ∃ x, restS l (k + 1) = x := ⟨_, rfl⟩
  obtain ⟨y, hye⟩ : ∃ x, restS l (k + 2) = x := ⟨_, rfl⟩
  obtain ⟨z, hze⟩ : ∃ x, restS l (k + 3) = x := ⟨_, rfl⟩
  have HRR := Lib.hid (HR b x y z (by rw [hb]) hxe hye hze)
  rw [hxe] at b1 c1
  rw [hye] at b2 c2
  rw [hze] at b3 c3
  rw [hb] at hx hcell
  have C1 := Lib.hid c1
  have C2 := Lib.hid c2
  have C3 := Lib.hid c3
  have HS := Lib.hid hs
  clear HR c1 c2 c3 hb hxe hye hze hs
  go_enter Tryd.func133, Tryd.ntmps133
  go_upto_if 30 with (first
    | (go_at_call 159; (with_reducible refine (C1.out _ HS.out).mono ?_); rintro e w' ⟨rfl, rfl⟩)
    | (go_at_call 159; (with_reducible refine (C2.out _ HS.out).mono ?_); rintro e w' ⟨rfl, rfl⟩)
    | (go_at_call 159; (with_reducible refine (C3.out _ HS.out).mono ?_); rintro e w' ⟨rfl, rfl⟩))
  go_cut [10, 11] (fun r m wx => ∃ q : Int, ∃ s : Nat, r = .int .i64 q ∧ m = .int .i64 s ∧ rawS l k = (q, s) ∧ w = wx)
  case first =>
    clear C1 C2 C3 HS hcell hn hk hm
    go_wp2
    all_goals
      go_meet
      refine ⟨_, _, rfl, rfl, ?_, rfl⟩
      rw [HRR.out]
      repeat (first | rw [if_pos (by omega)] | rw [if_neg (by omega)])
  case rest =>
    obtain ⟨q, s, rfl, rfl, hr, rfl⟩ := hcut
    have hrc := rawS_cases l k
    rw [hr] at hrc
    have HW := Lib.hid hr
    clear C1 C2 C3 HS hcell HRR hr b1 b2 b3
    by_cases h0 : s = 0
    · have HV := Lib.hid (chrV_none (l := l) (k := k) (.inl (by rw [HW.out]; exact h0)))
      subst h0
      clear hrc
      go_wp2
      go_ret2
      exact ⟨by rw [HV.out]; rfl, Below.refl _ _⟩
    · obtain ⟨hq0, hq1, hs1, hs4⟩ : 0 ≤ q ∧ q < 2097152 ∧ 1 ≤ s ∧ s ≤ 4 := by
        rcases hrc with h | ⟨q', a, a', n', a2, a3, h⟩
        · injection h with h1 h2; omega
        · injection h with h1 h2; subst h1 h2; exact ⟨a, a', a2, a3⟩
      have t0 : ((s : Int) == 0) = false := by simp; omega
      clear hrc
      by_cases hi : isR q = true
      · by_cases he : encLen q.toNat = s
        · have HV := Lib.hid (chrV_good HW.out h0 hi he)
          have t1 : (((encLen q.toNat : Nat) : Int) != (s : Int)) = false := by rw [he]; simp
          clear he
          go_wp2_with (first
            | (go_at_call 160; refine (ris_any _ _).mono ?_; rintro e w' ⟨rfl, rfl⟩)
            | (go_at_call 91; refine (rbytes_any _ _ hq0 hq1).mono ?_; rintro e w' ⟨rfl, rfl⟩))
          go_ret2
          exact ⟨by rw [HV.out]; rfl, (Below.refl _ _).alloc (Nat.le_refl _) _⟩
        · have HV := Lib.hid (chrV_none (l := l) (k := k) (.inr (.inr (by rw [HW.out]; exact he))))
          have t1 : (((encLen q.toNat : Nat) : Int) != (s : Int)) = true := by simp; omega
          clear he
          go_wp2_with (first
            | (go_at_call 160; refine (ris_any _ _).mono ?_; rintro e w' ⟨rfl, rfl⟩)
            | (go_at_call 91; refine (rbytes_any _ _ hq0 hq1).mono ?_; rintro e w' ⟨rfl, rfl⟩))
          go_ret2
          exact ⟨by rw [HV.out]; rfl, (Below.refl _ _).alloc (Nat.le_refl _) _⟩
      · have hi' : isR q = false := by simpa using hi
        have HV := Lib.hid (chrV_none (l := l) (k := k) (.inr (.inl (by rw [HW.out]; exact hi'))))
        clear hi
        go_wp2_with (first
          | (go_at_call 160; refine (ris_any _ _).mono ?_; rintro e w' ⟨rfl, rfl⟩)
          | (go_at_call 91; refine (rbytes_any _ _ hq0 hq1).mono ?_; rintro e w' ⟨rfl, rfl⟩))
        go_ret2
        exact ⟨by rw [HV.out]; rfl, Below.refl _ _⟩
end Go.Proofs.YtdmfladcldkmeaaDoor
namespace Go.Proofs.YtdmfladcldkmeaaDoor
open Go.ChangeShapes Go.WideShapes Go.ChangeAt Go.RowKit
set_option linter.unusedVariables false

theorem u8_info : (Tryd.prog.info? 5).map (fun i => (i.zero, i.size, i.bytes)) = some (some (.int .u8 0), 1, 1) := by kernel_rfl
theorem cells_new (w : World) (l : List Value) (t : TypeId) : ∀ j u, l[j]? = some u → (w.alloc (.cells l.toArray t)).cell? ((⟨w.heap.size, 0, none⟩ : Addr).add j) = some u := by
  intro j u h
  have e : (⟨w.heap.size, 0, none⟩ : Addr).add j = ⟨w.heap.size, j, none⟩ := by
    unfold Addr.add; split
    · next h0 => rw [h0]
    · simp
  rw [e]
  simp [World.cell?_alloc_new, h]
theorem vB_one (l : List UInt8) : ∀ u ∈ vB l, u.oneCell' = true := by
  intro u hu
  unfold vB at hu
  simp only [List.mem_map] at hu
  obtain ⟨c, _, rfl⟩ := hu
  rfl

theorem ints_one (k : IntKind) (l : List Int) : ∀ u ∈ l.map (Value.int k), u.oneCell' = true := by
  intro u hu
  simp only [List.mem_map] at hu
  obtain ⟨c, _, rfl⟩ := hu
  rfl

set_option maxRecDepth 100000 in
set_option maxHeartbeats 1000000 in
theorem put_1 (base : Nat) (v : Value) (n : Nat) (xs : List Value) (r : Int) (w : World) (hown : w.ownsRow base 5 1 v n xs) (h0 : 0 ≤ r) (h1 : r < 128) (hb : base ≤ w.heap.size) (hn : n + 4 ≤ 140737488355328) :
    Calls Tryd.prog 154 #[v, .int .i64 r] w fun e w' => ∃ v', e = .returned v' ∧ w'.ownsRow base 5 1 v' (n + 1) (xs ++ [r].map (Value.int .u8)) ∧ Below base w w' := by
  obtain ⟨i0, hi0, hz0, hz1, hz2⟩ := info_parts u8_info
  have HL := hown.lt
  go_enter Tryd.func154, Tryd.ntmps154
  go_wp2_with (first | (at_builtin; refine wpList_append_own _ rfl _ _ 36 rfl base 5 i0 (.int .u8 0) 1 1 Tryd.underlying36 hi0 hz0 hz1 hz2 rfl (by decide) v n xs rfl (hown.alloc _) ⟨w.heap.size, 0, none⟩ 1 1 ([r].map (Value.int .u8)) rfl rfl (cells_new w ([r].map (Value.int .u8)) _) (ints_one _ _) (by unfold maxLen; omega) (by omega) (by simp; omega) ?_; intro v' w1 hown1 hgrow1 _))
  go_ret
  exact ⟨v', rfl, hown1, ((Below.refl base w).alloc hb _).grown hgrow1 (by simp; omega) (fun k hk => (HL k hk).1)⟩

set_option maxRecDepth 100000 in
set_option maxHeartbeats 1000000 in
theorem put_2 (base : Nat) (v : Value) (n : Nat) (xs : List Value) (r : Int) (w : World) (hown : w.ownsRow base 5 1 v n xs) (h0 : 128 ≤ r) (h1 : r < 2048) (hb : base ≤ w.heap.size) (hn : n + 4 ≤ 140737488355328) :
    Calls Tryd.prog 154 #[v, .int .i64 r] w fun e w' => ∃ v', e = .returned v' ∧ w'.ownsRow base 5 1 v' (n + 2) (xs ++ [192 + r / 64, 128 + r % 64].map (Value.int .u8)) ∧ Below base w w' := by
  obtain ⟨i0, hi0, hz0, hz1, hz2⟩ := info_parts u8_info
  have HL := hown.lt
  have f1 := u8_or192 (r / 64) (by omega) (by omega)
  have f2 : r / 64 % 256 = r / 64 := by omega
  go_enter Tryd.func154, Tryd.ntmps154
  go_wp2_with (first | (go_at_call 181; refine (low_any _ _ (by omega) (by omega)).mono ?_; rintro e w' ⟨rfl, rfl⟩) | (at_builtin; refine wpList_append_own _ rfl _ _ 36 rfl base 5 i0 (.int .u8 0) 1 1 Tryd.underlying36 hi0 hz0 hz1 hz2 rfl (by decide) v n xs rfl (hown.alloc _) ⟨w.heap.size, 0, none⟩ 2 2 ([192 + r / 64, 128 + r % 64].map (Value.int .u8)) rfl rfl (cells_new w ([192 + r / 64, 128 + r % 64].map (Value.int .u8)) _) (ints_one _ _) (by unfold maxLen; omega) (by omega) (by simp; omega) ?_; intro v' w1 hown1 hgrow1 _))
  go_ret
  exact ⟨v', rfl, hown1, ((Below.refl base w).alloc hb _).grown hgrow1 (by simp; omega) (fun k hk => (HL k hk).1)⟩

set_option maxRecDepth 100000 in
set_option maxHeartbeats 1000000 in
theorem put_3 (base : Nat) (v : Value) (n : Nat) (xs : List Value) (r : Int) (w : World) (hown : w.ownsRow base 5 1 v n xs) (h0 : 2048 ≤ r) (h1 : r < 65536) (hb : base ≤ w.heap.size) (hn : n + 4 ≤ 140737488355328) :
    Calls Tryd.prog 154 #[v, .int .i64 r] w fun e w' => ∃ v', e = .returned v' ∧ w'.ownsRow base 5 1 v' (n + 3) (xs ++ [224 + r / 4096, 128 + r / 64 % 64, 128 + r % 64].map (Value.int .u8)) ∧ Below base w w' := by
  obtain ⟨i0, hi0, hz0, hz1, hz2⟩ := info_parts u8_info
  have HL := hown.lt
  have f1 := u8_or224 (r / 4096) (by omega) (by omega)
  have f2 : r / 4096 % 256 = r / 4096 := by omega
  go_enter Tryd.func154, Tryd.ntmps154
  go_wp2_with (first | (go_at_call 181; refine (low_any _ _ (by omega) (by omega)).mono ?_; rintro e w' ⟨rfl, rfl⟩) | (at_builtin; refine wpList_append_own _ rfl _ _ 36 rfl base 5 i0 (.int .u8 0) 1 1 Tryd.underlying36 hi0 hz0 hz1 hz2 rfl (by decide) v n xs rfl (hown.alloc _) ⟨w.heap.size, 0, none⟩ 3 3 ([224 + r / 4096, 128 + r / 64 % 64, 128 + r % 64].map (Value.int .u8)) rfl rfl (cells_new w ([224 + r / 4096, 128 + r / 64 % 64, 128 + r % 64].map (Value.int .u8)) _) (ints_one _ _) (by unfold maxLen; omega) (by omega) (by simp; omega) ?_; intro v' w1 hown1 hgrow1 _))
  go_ret
  exact ⟨v', rfl, hown1, ((Below.refl base w).alloc hb _).grown hgrow1 (by simp; omega) (fun k hk => (HL k hk).1)⟩

set_option maxRecDepth 100000 in
set_option maxHeartbeats 1000000 in
theorem put_4 (base : Nat) (v : Value) (n : Nat) (xs : List Value) (r : Int) (w : World) (hown : w.ownsRow base 5 1 v n xs) (h0 : 65536 ≤ r) (h1 : r < 2097152) (hb : base ≤ w.heap.size) (hn : n + 4 ≤ 140737488355328) :
    Calls Tryd.prog 154 #[v, .int .i64 r] w fun e w' => ∃ v', e = .returned v' ∧ w'.ownsRow base 5 1 v' (n + 4) (xs ++ [240 + r / 262144, 128 + r / 4096 % 64, 128 + r / 64 % 64, 128 + r % 64].map (Value.int .u8)) ∧ Below base w w' := by
  obtain ⟨i0, hi0, hz0, hz1, hz2⟩ := info_parts u8_info
  have HL := hown.lt
  have f1 := u8_or240 (r / 262144) (by omega) (by omega)
  have f2 : r / 262144 % 256 = r / 262144 := by omega
  go_enter Tryd.func154, Tryd.ntmps154
  go_wp2_with (first | (go_at_call 181; refine (low_any _ _ (by omega) (by omega)).mono ?_; rintro e w' ⟨rfl, rfl⟩) | (at_builtin; refine wpList_append_own _ rfl _ _ 36 rfl base 5 i0 (.int .u8 0) 1 1 Tryd.underlying36 hi0 hz0 hz1 hz2 rfl (by decide) v n xs rfl (hown.alloc _) ⟨w.heap.size, 0, none⟩ 4 4 ([240 + r / 262144, 128 + r / 4096 % 64, 128 + r / 64 % 64, 128 + r % 64].map (Value.int .u8)) rfl rfl (cells_new w ([240 + r / 262144, 128 + r / 4096 % 64, 128 + r / 64 % 64, 128 + r % 64].map (Value.int .u8)) _) (ints_one _ _) (by unfold maxLen; omega) (by omega) (by simp; omega) ?_; intro v' w1 hown1 hgrow1 _))
  go_ret
  exact ⟨v', rfl, hown1, ((Below.refl base w).alloc hb _).grown hgrow1 (by simp; omega) (fun k hk => (HL k hk).1)⟩

theorem put_any (base : Nat) (v : Value) (n : Nat) (xs : List Value) (r : Int) (w : World) (hown : w.ownsRow base 5 1 v n xs) (h0 : 0 ≤ r) (h1 : r < 2097152) (hb : base ≤ w.heap.size) (hn : n + 4 ≤ 140737488355328) :
    Calls Tryd.prog 154 #[v, .int .i64 r] w fun e w' => ∃ v', e = .returned v' ∧ w'.ownsRow base 5 1 v' (n + encLen r.toNat) (xs ++ vB (encB r.toNat)) ∧ Below base w w' := by
  by_cases c1 : r < 128
  · rw [(enc_1 h0 c1).1, show vB (encB r.toNat) = [r].map (Value.int .u8) from congrArg Array.toList (enc_1 h0 c1).2]
    exact put_1 base v n xs r w hown h0 c1 hb hn
  by_cases c2 : r < 2048
  · rw [(enc_2 (by omega) c2).1, show vB (encB r.toNat) = [192 + r / 64, 128 + r % 64].map (Value.int .u8) from congrArg Array.toList (enc_2 (by omega) c2).2]
    exact put_2 base v n xs r w hown (by omega) c2 hb hn
  by_cases c3 : r < 65536
  · rw [(enc_3 (by omega) c3).1, show vB (encB r.toNat) = [224 + r / 4096, 128 + r / 64 % 64, 128 + r % 64].map (Value.int .u8) from congrArg Array.toList (enc_3 (by omega) c3).2]
    exact put_3 base v n xs r w hown (by omega) c3 hb hn
  · rw [(enc_4 (by omega) h1).1, show vB (encB r.toNat) = [240 + r / 262144, 128 + r / 4096 % 64, 128 + r / 64 % 64, 128 + r % 64].map (Value.int .u8) from congrArg Array.toList (enc_4 (by omega) h1).2]
    exact put_4 base v n xs r w hown (by omega) h1 hb hn

set_option maxHeartbeats 400000 in
theorem encode_bad (r : Int) (w : World) (h : isR r = false) :
    Calls Tryd.prog 126 #[.int .i64 r] w fun e w' => e = .returned (.tuple #[.slice none 0 0, .int .i64 6]) ∧ w = w' := by
  go_enter Tryd.func126, Tryd.ntmps126
  go_wp2_with (go_at_call 153; refine (is_any _ _).mono ?_; rintro e w' ⟨rfl, rfl⟩)
  go_ret2
  exact ⟨rfl, rfl⟩
set_option maxHeartbeats 400000 in
theorem encode_good (r : Int) (w : World) (h : isR r = true) :
    Calls Tryd.prog 126 #[.int .i64 r] w fun e w' => ∃ v', e = .returned (.tuple #[v', .int .i64 0]) ∧ w'.ownsRow w.heap.size 5 1 v' (encLen r.toNat) (vB (encB r.toNat)) ∧ Below w.heap.size w w' := by
  have hb := isR_true h
  have HP := fun w' hw => put_any w.heap.size (.slice none 0 0) 0 [] r w' (World.ownsRow_nil _ _ _ _) (by omega) (by omega) hw (by omega)
  simp only [Nat.zero_add, List.nil_append] at HP
  have H1 := Lib.hid HP
  clear HP hb
  go_enter Tryd.func126, Tryd.ntmps126
  go_wp2_with (first | (go_at_call 153; refine (is_any _ _).mono ?_; rintro e w' ⟨rfl, rfl⟩) | (go_at_call 154; refine (H1.out _ (Nat.le_refl _)).mono ?_; rintro e w' ⟨v', rfl, hown, hbel⟩))
  go_ret2
  exact ⟨v', rfl, hown, hbel⟩
end Go.Proofs.YtdmfladcldkmeaaDoor
namespace Go.Proofs.YtdmfladcldkmeaaDoor
open Go.ChangeShapes Go.WideShapes Go.ChangeAt Go.RowKit Go.Shelf
set_option linter.unusedVariables false
attribute [local go_sem] Oper.semAt_some

/-- A character on its way: its number, its place, the error. -/
abbrev Item := Int × Nat × Int
def itemV (x : Item) : Array Value := #[.agg #[.int .i64 x.1, .int .i64 (x.2.1 : Int)], .int .i64 x.2.2]
def items (l : List UInt8) : Nat → Nat → List Item
  | 0, _ => []
  | f + 1, k => if k < l.length then (if (chrAt l k).2 = 0 then [(0, k, 5)] else ((chrAt l k).1, k, 0) :: items l f (k + (chrAt l k).2)) else []
def stepsS (l : List UInt8) : List Item := items l l.length 0
theorem items_end (l : List UInt8) (f k : Nat) (h : l.length ≤ k) : items l f k = [] := by
  cases f with
  | zero => rfl
  | succ f => rw [items, if_neg (by omega)]
theorem items_bad (l : List UInt8) (f k : Nat) (h : k < l.length) (hc : (chrAt l k).2 = 0) : items l (f + 1) k = [(0, k, 5)] := by rw [items, if_pos h, if_pos hc]
theorem items_good (l : List UInt8) (f k : Nat) (h : k < l.length) (hc : (chrAt l k).2 ≠ 0) : items l (f + 1) k = ((chrAt l k).1, k, 0) :: items l f (k + (chrAt l k).2) := by
  rw [items, if_pos h, if_neg hc]
theorem chrAt_room (l : List UInt8) (k : Nat) (hk : k < l.length) : k + (chrAt l k).2 ≤ l.length ∧ (chrAt l k).2 ≤ 4 := by
  have key : ∀ j, 0 ≤ restS l j → j < l.length := by
    intro j h
    unfold restS at h
    split at h
    · omega
    · omega
  have k1 := key (k + 1)
  have k2 := key (k + 2)
  have k3 := key (k + 3)
  have hr : k + (rawS l k).2 ≤ l.length ∧ (rawS l k).2 ≤ 4 := by
    unfold rawS
    simp only []
    split
    · exact ⟨by simp only []; omega, by simp only []; omega⟩
    · split
      · exact ⟨by simp only []; omega, by simp only []; omega⟩
      · split
        · exact ⟨by simp only []; omega, by simp only []; omega⟩
        · split
          · exact ⟨by simp only []; omega, by simp only []; omega⟩
          · exact ⟨by simp only []; omega, by simp only []; omega⟩
  unfold chrAt
  simp only []
  split
  · exact ⟨by simp only []; omega, by simp only []; omega⟩
  · exact hr
theorem decode_err (l : List UInt8) (A : Option Addr) (n c k : Nat) (w : World) (hn : l.length = n) (hnc : n ≤ c) (hm : c ≤ 9223372036854775807) (hk : k < n) (hs : Sees w A (vB l)) (h : (chrAt l k).2 = 0) :
    Calls Tryd.prog 156 #[.slice A n c, .int .i64 k] w fun e w' => e = .returned (.tuple #[.int .i64 0, .int .i64 0, .int .i64 5]) ∧ w = w' := by
  have := decode_in l A n c k w hn hnc hm hk hs
  unfold decV at this
  rw [if_pos h] at this
  exact this
theorem decode_ok (l : List UInt8) (A : Option Addr) (n c k : Nat) (w : World) (hn : l.length = n) (hnc : n ≤ c) (hm : c ≤ 9223372036854775807) (hk : k < n) (hs : Sees w A (vB l)) (r : Int) (m : Nat) (h : chrAt l k = (r, m)) (h0 : m ≠ 0) :
    Calls Tryd.prog 156 #[.slice A n c, .int .i64 k] w fun e w' => e = .returned (.tuple #[.int .i64 r, .int .i64 ((k : Int) + m), .int .i64 0]) ∧ w = w' := by
  have := decode_in l A n c k w hn hnc hm hk hs
  unfold decV at this
  rw [h] at this
  simp only [] at this
  rw [if_neg h0] at this
  exact this

/-- What a round that goes on keeps: all that lay ahead of the call, and one more cell. -/
def KeepsBox (n₀ Bs : Nat) (W W' : World) : Prop := Below n₀ W W' ∧ ∀ v, W.cell? ⟨Bs, 0, none⟩ = some v → W'.cell? ⟨Bs, 0, none⟩ = some v
theorem keepsBox_t {n₀ Bs : Nat} {A B C : World} (h : KeepsBox n₀ Bs A B) (k : KeepsBox n₀ Bs B C) : KeepsBox n₀ Bs A C := ⟨h.1.trans k.1, fun v hv => k.2 v (h.2 v hv)⟩
theorem keepsBox_b {n₀ Bs : Nat} {w : World} (hn : n₀ ≤ w.heap.size) (W : World) (l : Nat) (o o' : Obj) (hl : w.heap.size ≤ l) (ho : W.heap[l]? = some o) (h1 : o.isCells = false) (h2 : o.isWalk = false) : KeepsBox n₀ Bs W (W.putObj l o') :=
  ⟨belowK_b hn W l o o' hl ho h1 h2, fun v hv => cell_kept hv (grownBy_putObj' W l o') (fun r e => by cases e; exact ⟨o, ho, h1⟩)⟩

set_option maxRecDepth 100000 in
set_option maxHeartbeats 2000000 in
theorem steps1_in (n : Nat) (hn : 1 ≤ n) (lp Bs len cap : Nat) (A : Option Addr) (l : List UInt8) (hlen : l.length = len) (hnc : len ≤ cap) (hcap : cap ≤ 9223372036854775807) (w0 : World) (hs : Sees w0 A (vB l))
    (J Jx : List Item → World → Prop)
    (hY : ∀ pre x W, J pre W → pre.length < (stepsS l).length → YieldAt Fence.wide (n - 1) Tryd.prog lp (itemV x) W fun e W' =>
      (e = .returned (.bool true) ∧ J (pre ++ [x]) W' ∧ KeepsBox w0.heap.size Bs W W') ∨ (e = .returned (.bool false) ∧ Jx (pre ++ [x]) W'))
    (W : World) (hW : Below w0.heap.size w0 W) (hBs : W.cell? ⟨Bs, 0, none⟩ = some (.slice A len cap)) (h0 : J [] W) :
    CallsIn Fence.wide n Tryd.prog 155 #[.func (.yield lp) #[] #[], .pointer (some ⟨Bs, 0, none⟩)] W fun e W' => (∃ v, e = .returned v) ∧
      ((∃ ys, ys = stepsS l ∧ J ys W') ∨ (∃ pre, pre <+: stepsS l ∧ Jx pre W')) := by
  have HL := Lib.hid hlen
  refine callsIn_of_wp Tryd.func155 rfl trivial ?_ rfl
  simp only [Tryd.ntmps155, List.size_toArray, List.length_cons, List.length_nil, Nat.reduceAdd, Nat.reduceSub, Array.replicate_succ, Array.replicate_zero, List.push_toArray, List.append_toArray, List.nil_append, List.cons_append]
  clear hlen
  gi_wp2
  gi_loopw [3] (fun i wr => ∃ k f : Nat, ∃ pre : List Item, k ≤ len ∧ len ≤ k + f ∧ i = .int .i64 k ∧ pre ++ items l f k = stepsS l ∧ J pre wr ∧ Below w0.heap.size w0 wr ∧ wr.cell? ⟨Bs, 0, none⟩ = some (.slice A len cap))
    (fun i _ => len - (intOf i).toNat)
  case atStart => exact ⟨0, len, [], by omega, by omega, rfl, by unfold stepsS; rw [HL.out]; rfl, h0, hW, hBs⟩
  case round =>
    obtain ⟨k, f, pre, hk, hf, rfl, hp, hJs, hbw, hbx⟩ := hrel
    have HP := Lib.hid hp
    clear hp
    by_cases hlt : k < len
    · obtain ⟨f, rfl⟩ : ∃ g, f = g + 1 := ⟨f - 1, by omega⟩
      have hkl : k < l.length := by rw [HL.out]; exact hlt
      have hsw := hs.below hbw
      by_cases hc : (chrAt l k).2 = 0
      · have hpl : pre.length < (stepsS l).length := by rw [← HP.out, items_bad l f k hkl hc]; simp
        obtain ⟨fn, tmps, assign, body, hy, hR⟩ := hY pre (0, k, 5) wr hJs hpl
        unfold itemV at hy
        dsimp only at hy
        have HD := Lib.hid (fun w hs => decode_err l A len cap k w HL.out hnc hcap hlt hs hc)
        have HE := Lib.hid (items_bad l f k hkl hc)
        have HS := Lib.hid hsw
        clear hc hkl hsw hs hpl
        gi_wp2_with (refine ⟨trivial, ?_⟩; gi_at_call 156; refine (callsIn_wide.2 (HD.out _ HS.out)).mono ?_; rintro e w' ⟨rfl, rfl⟩)
        refine hR.mono ?_
        rintro e W3 (⟨rfl, hJ3, hk3⟩ | ⟨rfl, hJx3⟩)
        · gi_wp2
          refine bodyPost_ret (results_none rfl _ _ _) rfl ?_
          exact ⟨⟨_, rfl⟩, .inl ⟨_, by rw [← HP.out, HE.out], hJ3⟩⟩
        · gi_wp2
          refine bodyPost_ret (results_none rfl _ _ _) rfl ?_
          exact ⟨⟨_, rfl⟩, .inr ⟨_, by rw [← HP.out, HE.out]; exact List.prefix_refl _, hJx3⟩⟩
      · obtain ⟨r, m, hrm⟩ : ∃ r m, chrAt l k = (r, m) := ⟨_, _, rfl⟩
        have hroom := chrAt_room l k hkl
        rw [hrm] at hc hroom
        have hit := items_good l f k hkl (by rw [hrm]; exact hc)
        rw [hrm] at hit
        simp only [] at hc hroom hit
        obtain ⟨hm1, hm4⟩ := hroom
        rw [HL.out] at hm1
        have hpl : pre.length < (stepsS l).length := by rw [← HP.out, hit]; simp
        obtain ⟨fn, tmps, assign, body, hy, hR⟩ := hY pre (r, k, 0) wr hJs hpl
        unfold itemV at hy
        dsimp only at hy
        have HD := Lib.hid (fun w hs => decode_ok l A len cap k w HL.out hnc hcap hlt hs r m hrm hc)
        have HE := Lib.hid hit
        have HS := Lib.hid hsw
        have hm0 : 1 ≤ m := by omega
        clear hc hkl hsw hs hpl hit hrm
        gi_wp2_with (refine ⟨trivial, ?_⟩; gi_at_call 156; refine (callsIn_wide.2 (HD.out _ HS.out)).mono ?_; rintro e w' ⟨rfl, rfl⟩)
        refine hR.mono ?_
        rintro e W3 (⟨rfl, hJ3, hk3⟩ | ⟨rfl, hJx3⟩)
        · have hbx3 := hk3.2 _ hbx
          gi_wp2
          go_roundw
          case rel => exact ⟨k + m, f, pre ++ [(r, k, 0)], by omega, by omega, by go_num, by rw [← HP.out, HE.out]; simp, hJ3, hbw.trans hk3.1, hbx3⟩
          case measure => simp [intOf]; omega
        · gi_wp2
          refine bodyPost_ret (results_none rfl _ _ _) rfl ?_
          exact ⟨⟨_, rfl⟩, .inr ⟨pre ++ [(r, k, 0)], by rw [← HP.out, HE.out]; exact ⟨_, List.append_assoc _ _ _⟩, hJx3⟩⟩
    · have hkk : len ≤ k := by omega
      have HE := Lib.hid (items_end l f k (by rw [HL.out]; exact hkk))
      gi_wp2
      go_end0
      exact ⟨⟨_, rfl⟩, .inl ⟨_, by rw [← HP.out, HE.out, List.append_nil], hJs⟩⟩

set_option maxHeartbeats 1000000 in
theorem steps_in (n : Nat) (A : Option Addr) (len cap : Nat) (w : World) :
    CallsIn Fence.wide n Tryd.prog 129 #[.slice A len cap] w fun e w' => e = .returned (.func (.func 155) #[] #[.pointer (some ⟨w.heap.size, 0, none⟩)]) ∧ w' = w.alloc (.cells #[.slice A len cap] 36) := by
  refine callsIn_of_wp Tryd.func129 rfl trivial ?_ rfl
  simp only [Tryd.ntmps129, List.size_toArray, List.length_cons, List.length_nil, Nat.reduceAdd, Nat.reduceSub, Array.replicate_succ, Array.replicate_zero, List.push_toArray, List.append_toArray, List.nil_append, List.cons_append]
  gi_wp2
  go_ret
  exact ⟨rfl, rfl⟩

theorem steps_stops (n : Nat) (hn : 1 ≤ n) (Bs len cap : Nat) (A : Option Addr) (l : List UInt8) (hlen : l.length = len) (hnc : len ≤ cap) (hcap : cap ≤ 9223372036854775807) (w0 w : World) (hs : Sees w0 A (vB l)) (hw : Below w0.heap.size w0 w)
    (hBs : Bs < w.heap.size) (hbx : w.cell? ⟨Bs, 0, none⟩ = some (.slice A len cap)) :
    SeqStopsK Fence.wide n Tryd.prog 155 #[.pointer (some ⟨Bs, 0, none⟩)] itemV (KeepsBox w0.heap.size Bs) (fun ys => ys = stepsS l) (fun pre => pre <+: stepsS l) (stepsS l).length w := fun lp J Jx W hW _ _ hY h0 =>
  steps1_in n hn lp Bs len cap A l hlen hnc hcap w0 hs J Jx hY W (hw.trans (hW.mono hw.size)) ((hW.cell (p := ⟨Bs, 0, none⟩) hBs).trans hbx) h0
end Go.Proofs.YtdmfladcldkmeaaDoor
namespace Go.Proofs.YtdmfladcldkmeaaDoor
open Go.ChangeShapes Go.WideShapes Go.ChangeAt Go.RowKit
set_option linter.unusedVariables false

/-- The cells of a table of runs, and what it reads as. -/
def flatT (T : List (Int × Int)) : List Value := T.flatMap fun p => [.int .i64 p.1, .int .i64 p.2]
def dataT (T : List (Int × Int)) : DataW Unit := .agg (T.map fun p => .agg [.lit (.int .i64 p.1), .lit (.int .i64 p.2)])
def charT : List (Int × Int) := [(9, 10), (13, 13), (32, 55295), (57344, 65533), (65536, 1114111)]
def startT : List (Int × Int) := [(58, 58), (65, 90), (95, 95), (97, 122), (192, 214), (216, 246), (248, 767), (880, 893), (895, 8191), (8204, 8205), (8304, 8591), (11264, 12271), (12289, 55295), (63744, 64975), (65008, 65533), (65536, 983039)]
def followT : List (Int × Int) := [(45, 46), (48, 57), (183, 183), (768, 879), (8255, 8256)]
def pubidT : List (Int × Int) := [(10, 10), (13, 13), (32, 33), (35, 37), (39, 59), (61, 61), (63, 90), (95, 95), (97, 122)]
def hasT (T : List (Int × Int)) (r : Int) : Bool := T.any fun p => decide (p.1 ≤ r) && decide (r ≤ p.2)

theorem flat_of (T : List (Int × Int)) (L : List Value) (hl : L.length = 2 * T.length) (h : ∀ i (hi : i < T.length), (L.drop (i * 2)).take 2 = [.int .i64 T[i].1, .int .i64 T[i].2]) : L = flatT T := by
  induction T generalizing L with
  | nil => exact List.eq_nil_of_length_eq_zero (by simpa using hl)
  | cons p T ih =>
    have h0 := h 0 (by simp)
    simp only [Nat.zero_mul, List.drop_zero, List.getElem_cons_zero] at h0
    have ih' := ih (L.drop 2) (by rw [List.length_drop, hl, List.length_cons]; omega) (fun i hi => by
      have := h (i + 1) (by simp; omega)
      rw [List.drop_drop]
      rw [show 2 + i * 2 = (i + 1) * 2 by omega, this]
      simp)
    have := List.take_append_drop 2 L
    rw [h0, ih'] at this
    rw [← this]
    simp [flatT]
theorem cells_pairs {P : Program} {W : World} {base : Nat} {sp : Nat → Bool} {hd : Bool} {fuel : Nat} {t e : TypeId} {n : Nat} {f0 f1 : Field} {enc : TypeId × Value → Unit} {L : List Value} {T : List (Int × Int)} {q : List MemPlace} {ti : TypeId}
    (ht : P.underlying t = some (.array n e)) (he : P.underlying e = some (.struct #[f0, f1])) (h0 : f0.offset = 0) (h1 : f1.offset = 1) (t0 : f0.type = ti) (t1 : f1.type = ti) (hi : P.underlying ti = some (.int .i64))
    (ci : P.cellsOf ti = 1) (ce : P.cellsOf e = 2) (ct : P.cellsOf t = 2 * n) (hn : T.length = n)
    (h : DataW.trod enc P W base sp hd fuel t L = some (dataT T, q)) : L = flatT T := by
  obtain ⟨xs, m, rfl, hx, hl, hxn, hel⟩ := DataW.trod_array ht h
  rw [ct] at hl
  refine flat_of T L (by rw [hl, hn]) (fun i hi' => ?_)
  have hin : i < n := by omega
  have hxi := hel i hin
  rw [List.getElem?_eq_getElem (by omega), ce] at hxi
  obtain ⟨y0, y1, k, hy, hlen, hy0, hy1⟩ := trod_struct2 he hxi
  rw [h0, t0, ci, List.drop_zero] at hy0
  rw [h1, t1, ci] at hy1
  obtain ⟨a, ea, rfl, _⟩ := DataW.trod_int hi hy0
  obtain ⟨b, eb, rfl, _⟩ := DataW.trod_int hi hy1
  rw [ce] at hlen
  unfold dataT at hx
  simp only [Prod.mk.injEq, DataW.agg.injEq] at hx
  have hm := hx.1
  have hmi : (T.map fun p => (DataW.agg [.lit (.int .i64 p.1), .lit (.int .i64 p.2)] : DataW Unit))[i]? = (xs.map (·.1))[i]? := by rw [hm]
  rw [List.getElem?_map, List.getElem?_map, List.getElem?_eq_getElem hi', List.getElem?_eq_getElem (show i < xs.length by omega), hy] at hmi
  simp only [Option.map_some, Option.some.injEq, DataW.agg.injEq, List.cons.injEq, DataW.lit.injEq, Lit.int.injEq, true_and, and_true] at hmi
  obtain ⟨ha, hb⟩ := hmi
  obtain ⟨l, hl'⟩ : ∃ l, (L.drop (i * 2)).take 2 = l := ⟨_, rfl⟩
  rw [hl'] at ea eb hlen ⊢
  match l, hlen with
  | [x, y], _ =>
    simp at ea eb
    rw [ea, eb, ha, hb]

def TabAt (w : World) (g : Nat) (T : List (Int × Int)) : Prop := ∃ t fr, w.heap[g]? = some (.cells (flatT T).toArray t fr)
theorem TabAt.below {w w' : World} {g : Nat} {T : List (Int × Int)} (h : TabAt w g T) (hb : Below w.heap.size w w') : TabAt w' g T := by
  obtain ⟨t, fr, e⟩ := h
  exact ⟨t, fr, (hb.block g (Array.getElem?_eq_some_iff.1 e).1).trans e⟩
theorem tab_of_var {P : Program} {w : World} {name : String} {g : Nat} {T : List (Int × Int)} {cs : Array Value} (hg : P.globalNamed name = some g) (hv : w.var? P name = some cs) (hc : cs.toList = flatT T) : TabAt w g T := by
  unfold World.var? at hv
  rw [hg] at hv
  simp only [Option.bind_some] at hv
  split at hv
  · next cs' t fr e =>
    injection hv with hv
    subst hv
    refine ⟨t, fr, ?_⟩
    rw [e, ← hc]
  · cases hv
/-- The two tables of names lie as they were laid. -/
structure TabN (w : World) : Prop where
  start : TabAt w 2 startT
  follow : TabAt w 3 followT
theorem TabN.below {w w' : World} (h : TabN w) (hb : Below w.heap.size w w') : TabN w' where
  start := h.start.below hb
  follow := h.follow.below hb
/-- The tables of characters and of names lie as they were laid. -/
structure TabC (w : World) : Prop where
  char : TabAt w 1 charT
  start : TabAt w 2 startT
  follow : TabAt w 3 followT
theorem TabC.below {w w' : World} (h : TabC w) (hb : Below w.heap.size w w') : TabC w' where
  char := h.char.below hb
  start := h.start.below hb
  follow := h.follow.below hb
theorem TabC.toN {w : World} (h : TabC w) : TabN w where
  start := h.start
  follow := h.follow
/-- The tables lie as they were laid, that of public identifiers, too. -/
structure Tables (w : World) : Prop extends TabC w where
  pubid : TabAt w 0 pubidT
theorem Tables.below {w w' : World} (h : Tables w) (hb : Below w.heap.size w w') : Tables w' where
  toTabC := h.toTabC.below hb
  pubid := h.pubid.below hb
theorem Tables.toN {w : World} (h : Tables w) : TabN w := h.toTabC.toN

set_option maxHeartbeats 400000 in
theorem has_any (a b r : Int) (w : World) :
    Calls Tryd.prog 118 #[.agg #[.int .i64 a, .int .i64 b], .int .i64 r] w fun e w' => e = .returned (.bool (decide (a ≤ r) && decide (r ≤ b))) ∧ Below w.heap.size w w' := by
  by_cases h1 : a ≤ r
  · by_cases h2 : r ≤ b
    all_goals
      go_enter Tryd.func118, Tryd.ntmps118
      go_wp2
      go_ret
      exact ⟨ret_bool (by simp; omega), (Below.refl _ _).alloc (Nat.le_refl _) _⟩
  · go_enter Tryd.func118, Tryd.ntmps118
    go_wp2
    go_ret
    exact ⟨ret_bool (by simp; omega), (Below.refl _ _).alloc (Nat.le_refl _) _⟩
end Go.Proofs.YtdmfladcldkmeaaDoor
