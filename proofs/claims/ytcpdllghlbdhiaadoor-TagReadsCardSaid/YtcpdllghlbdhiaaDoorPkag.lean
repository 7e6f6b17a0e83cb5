/- References: the number that digits say, and what a reference to a character is. References: Char, by the program. Names: IsName, IsPlain, IsToken and the document's own Is. Names: what a colon does to characters and to rows of them. Escaped texts, taken apart: what a reference to a character or to an entity is in the middle of a text. -/
import Derived.Lib.BufferRead
import Derived.Lib.SlBytesConst
import Derived.Lib.Bytealg
import Derived.Lib.IndexLaws
import Derived.Test.YtcpdllghlbdhiaaDoorPkae
import Derived.Test.YtcpdllghlbdhiaaDoorPkaf
namespace Go.Proofs.YtcpdllghlbdhiaaDoor
open Go.ChangeShapes Go.WideShapes Go.ChangeAt Go.RowKit
set_option linter.unusedVariables false

/-- The place behind the digits of base b. -/
def digZ (l : List UInt8) (b : Int) : Nat → Nat → Nat
  | 0, k => k
  | f + 1, k => if k < l.length ∧ 0 ≤ digN (byteAt l k) b then digZ l b f (k + 1) else k
/-- The number that they say, behind what was said before. -/
def digT (l : List UInt8) (b : Int) : Nat → Nat → Nat → Nat
  | 0, _, T => T
  | f + 1, k, T => if k < l.length ∧ 0 ≤ digN (byteAt l k) b then digT l b f (k + 1) (T * b.toNat + (digN (byteAt l k) b).toNat) else T
theorem digZ_out {l : List UInt8} {b : Int} (f k : Nat) (h : l.length ≤ k ∨ digN (byteAt l k) b < 0) : digZ l b f k = k := by
  cases f with
  | zero => rfl
  | succ f => rw [digZ, if_neg (by omega)]
theorem digZ_on {l : List UInt8} {b : Int} (f k : Nat) (h : k < l.length) (hd : 0 ≤ digN (byteAt l k) b) : digZ l b (f + 1) k = digZ l b f (k + 1) := by
  rw [digZ, if_pos ⟨h, hd⟩]
theorem digT_out {l : List UInt8} {b : Int} (f k T : Nat) (h : l.length ≤ k ∨ digN (byteAt l k) b < 0) : digT l b f k T = T := by
  cases f with
  | zero => rfl
  | succ f => rw [digT, if_neg (by omega)]
theorem digT_on {l : List UInt8} {b : Int} (f k T : Nat) (h : k < l.length) (hd : 0 ≤ digN (byteAt l k) b) :
    digT l b (f + 1) k T = digT l b f (k + 1) (T * b.toNat + (digN (byteAt l k) b).toNat) := by
  rw [digT, if_pos ⟨h, hd⟩]
theorem digZ_ge (l : List UInt8) (b : Int) : ∀ f k, k ≤ digZ l b f k
  | 0, k => Nat.le_refl _
  | f + 1, k => by
    rw [digZ]
    split
    · exact Nat.le_trans (Nat.le_succ k) (digZ_ge l b f (k + 1))
    · exact Nat.le_refl _
theorem digN_le (r b : Int) (hb : b = 10 ∨ b = 16) : digN r b < b := by
  unfold digN
  rw [if_pos hb]
  split <;> omega
/-- One more digit, where the number is held. -/
theorem cap10 {T x d : Nat} (M : Nat) (h : x = min T M) : min (x * 10 + d) M = min (T * 10 + d) M := by subst h; omega
theorem cap16 {T x d : Nat} (M : Nat) (h : x = min T M) : min (x * 16 + d) M = min (T * 16 + d) M := by subst h; omega
/-- Numbers that are held are no characters, as those that are not. -/
theorem char_cap {T x : Nat} (M : Nat) (hM : 1114112 ≤ M) (h : x = min T M) : hasT charT (x : Int) = hasT charT (T : Int) := by
  rw [Bool.eq_iff_iff, charT_iff, charT_iff]
  subst h
  omega
theorem char_low {T x : Nat} (M : Nat) (hM : 1114112 ≤ M) (h : x = min T M) (hc : hasT charT (x : Int) = true) : x = T := by
  rw [charT_iff] at hc
  subst h
  omega

def noC (e : Int) : Value := .tuple #[.int .i64 0, .int .i64 0, .int .i64 e]
/-- Digits of base b, from place k on, and what is behind them. -/
def crefD (l : List UInt8) (b : Int) (k : Nat) : Value :=
  if digZ l b l.length k = k ∨ digZ l b l.length k = l.length ∨ byteAt l (digZ l b l.length k) ≠ 59 then noC 7
  else if hasT charT ((digT l b l.length k 0 : Nat) : Int) = false then noC 6
  else .tuple #[.int .i64 ((digT l b l.length k 0 : Nat) : Int), .int .i64 ((digZ l b l.length k : Nat) + 1), .int .i64 0]
/-- What Char tells. -/
def chV (l : List UInt8) (k : Int) : Value :=
  if k < 0 ∨ (l.length : Int) < k then noC 3
  else if l.length < k.toNat + 3 ∨ byteAt l k.toNat ≠ 38 ∨ byteAt l (k.toNat + 1) ≠ 35 then noC 7
  else if byteAt l (k.toNat + 2) = 120 then crefD l 16 (k.toNat + 3) else crefD l 10 (k.toNat + 2)
theorem crefD_tup (l : List UInt8) (b : Int) (k : Nat) : ∃ x y z, crefD l b k = .tuple #[.int .i64 x, .int .i64 y, .int .i64 z] := by
  unfold crefD noC
  split
  · exact ⟨_, _, _, rfl⟩
  · split <;> exact ⟨_, _, _, rfl⟩
theorem chV_tup (l : List UInt8) (k : Int) : ∃ x y z, chV l k = .tuple #[.int .i64 x, .int .i64 y, .int .i64 z] := by
  unfold chV
  split
  · exact ⟨_, _, _, rfl⟩
  · split
    · exact ⟨_, _, _, rfl⟩
    · split <;> exact crefD_tup _ _ _
theorem ret_c3 {a b c x y z : Int} (h1 : a = x) (h2 : b = y) (h3 : c = z) : Ending.returned (.tuple #[.int .i64 a, .int .i64 b, .int .i64 c]) = .returned (.tuple #[.int .i64 x, .int .i64 y, .int .i64 z]) := by rw [h1, h2, h3]
end Go.Proofs.YtcpdllghlbdhiaaDoor
namespace Go.Proofs.YtcpdllghlbdhiaaDoor
open Go.ChangeShapes Go.WideShapes Go.ChangeAt Go.RowKit
set_option linter.unusedVariables false
set_option maxRecDepth 100000

theorem pre2_iff (l : List UInt8) (j : Nat) : ((l.drop j).take 2 == [38, 35]) = true ↔ j + 2 ≤ l.length ∧ byteAt l j = 38 ∧ byteAt l (j + 1) = 35 := by
  rw [beq_iff_eq]
  have e0 : byteAt l j = ((l.drop j)[0]?.getD 0).toNat := by rw [List.getElem?_drop]; rfl
  have e1 : byteAt l (j + 1) = ((l.drop j)[1]?.getD 0).toNat := by rw [List.getElem?_drop]; rfl
  have eL : (l.drop j).length = l.length - j := List.length_drop
  rw [e0, e1]
  rcases hd : l.drop j with _ | ⟨x, _ | ⟨y, r⟩⟩
  · simp
  · rw [hd] at eL
    simp at eL ⊢
    try omega
  · rw [hd] at eL
    simp at eL ⊢
    constructor
    · rintro ⟨rfl, rfl⟩; exact ⟨by omega, rfl, rfl⟩
    · rintro ⟨_, h1, h2⟩; exact ⟨UInt8.toNat_inj.1 h1, UInt8.toNat_inj.1 h2⟩
theorem crefD_7 {l : List UInt8} {b : Int} {s z : Nat} (hz : z = digZ l b l.length s) (h : z = s ∨ z = l.length ∨ byteAt l z ≠ 59) : noC 7 = crefD l b s := by
  rw [crefD, if_pos (by rw [← hz]; exact h)]
theorem crefD_6 {l : List UInt8} {b : Int} {s z T : Nat} (hz : z = digZ l b l.length s) (hT : T = digT l b l.length s 0) (h : ¬ (z = s ∨ z = l.length ∨ byteAt l z ≠ 59)) (hc : hasT charT (T : Int) = false) : noC 6 = crefD l b s := by
  rw [crefD, if_neg (by rw [← hz]; exact h), if_pos (by rw [← hT]; exact hc)]
theorem crefD_ok {l : List UInt8} {b : Int} {s z T : Nat} (hz : z = digZ l b l.length s) (hT : T = digT l b l.length s 0) (h : ¬ (z = s ∨ z = l.length ∨ byteAt l z ≠ 59)) (hc : hasT charT (T : Int) = true) :
    .tuple #[.int .i64 (T : Int), .int .i64 ((z : Nat) + 1), .int .i64 0] = crefD l b s := by
  rw [crefD, if_neg (by rw [← hz]; exact h), if_neg (by rw [← hT, hc]; simp), ← hz, ← hT]
theorem ret_v {a b : Value} (h : a = b) : Ending.returned a = .returned b := by rw [h]

/-- At a loop's head: the number that is held, and the place. -/
def DigRel (l : List UInt8) (b : Int) (n s M : Nat) (r p : Value) : Prop :=
  ∃ kk f T x : Nat, n ≤ kk + f ∧ s ≤ kk ∧ kk ≤ n ∧ x ≤ M ∧ r = .int .i64 x ∧ p = .int .i64 kk ∧ digZ l b f kk = digZ l b l.length s ∧ digT l b f kk T = digT l b l.length s 0 ∧ x = min T M
theorem digRel_mk {l : List UInt8} {b : Int} {n s M : Nat} {r p : Int} (kk f T x : Nat) (h1 : n ≤ kk + f) (h2 : s ≤ kk) (h3 : kk ≤ n) (h5 : r = x) (h6 : p = kk)
    (h7 : digZ l b f kk = digZ l b l.length s) (h8 : digT l b f kk T = digT l b l.length s 0) (h9 : x = min T M) : DigRel l b n s M (.int .i64 r) (.int .i64 p) :=
  ⟨kk, f, T, x, h1, h2, h3, by omega, by rw [h5], by rw [h6], h7, h8, h9⟩

set_option maxHeartbeats 4000000 in
theorem cchar_two (l : List UInt8) (ad : Addr) (n c j : Nat) (w W : World)
    (HN : Hid (l.length = n)) (hnc : n ≤ c) (hm : c ≤ 9223372036854775807) (hn9 : n ≤ 1000000) (hj2 : j + 2 ≤ n) (hcj : ¬ c = j)
    (HW : Hid (w.alloc (.cells #[.int .u8 38, .int .u8 35] 5 (2, 3)) = W)) (hb0 : Below w.heap.size w W) (HS : Hid (Sees W (some ad) (vB l))) (HT : Hid (TabC W))
    (HP : Hid (Calls Tryd.prog 68 #[.slice (some (ad.add j)) (n - j) (c - j), .slice (some ⟨w.heap.size, 0, none⟩) 2 2] W fun e w' => e = .returned (.bool true) ∧ W = w'))
    (hend : n ≤ j + 2) :
    Calls Tryd.prog 171 #[.slice (some ad) n c, .int .i64 (j : Int)] w fun e w' => e = .returned (noC 7) ∧ Below w.heap.size w w' := by
  have kc := fun (w : World) (C : Array Value) (n c : Nat) => Lib.run_convert_bytes_const (P := Tryd.prog) w 22 5 C n c Tryd.underlying22 Tryd.underlying5
  unfold noC
  have hno : ¬ (j + 2 < n) := by omega
  go_enter Tryd.func171, Tryd.ntmps171
  go_wp2_with fail
  go_step3
  go_wp2_with fail
  rw [HW.out]
  refine HP.out.mono ?_
  rintro e w1 ⟨rfl, rfl⟩
  go_wp2_with fail
  go_step3
  go_wp2_with fail
  go_loop [4, 9] (fun r p => r = .int .i64 0 ∧ p = .int .i64 ((j + 2 : Nat) : Int)) (fun _ _ => 0)
  case atStart => exact ⟨rfl, by go_num⟩
  case round =>
    obtain ⟨rfl, rfl⟩ := hrel
    go_wp2_with fail
    try rw [Exit.noGoto_ret]
    go_ret3
    exact ⟨rfl, hb0⟩

set_option maxHeartbeats 4000000 in
theorem cchar_16 (l : List UInt8) (ad : Addr) (n c j : Nat) (w W : World)
    (HN : Hid (l.length = n)) (hnc : n ≤ c) (hm : c ≤ 9223372036854775807) (hn9 : n ≤ 1000000) (hj2 : j + 2 ≤ n) (hcj : ¬ c = j)
    (HW : Hid (w.alloc (.cells #[.int .u8 38, .int .u8 35] 5 (2, 3)) = W)) (hb0 : Below w.heap.size w W) (HS : Hid (Sees W (some ad) (vB l))) (HT : Hid (TabC W))
    (HP : Hid (Calls Tryd.prog 68 #[.slice (some (ad.add j)) (n - j) (c - j), .slice (some ⟨w.heap.size, 0, none⟩) 2 2] W fun e w' => e = .returned (.bool true) ∧ W = w'))
    (hj3 : j + 2 < n) (b2 : Nat) (hb2l : b2 < 256) (hcell2 : W.cell? (ad.add (j + 2)) = some (.int .u8 b2)) (hx : b2 = 120) :
    Calls Tryd.prog 171 #[.slice (some ad) n c, .int .i64 (j : Int)] w fun e w' => e = .returned (crefD l 16 (j + 3)) ∧ Below w.heap.size w w' := by
  have kc := fun (w : World) (C : Array Value) (n c : Nat) => Lib.run_convert_bytes_const (P := Tryd.prog) w 22 5 C n c Tryd.underlying22 Tryd.underlying5
  have hcell3 : W.cell? { block := ad.block, off := ad.off + (j + 1 + 1) } = some (.int .u8 b2) := by
    have h := hcell2
    unfold Addr.add at h
    rw [if_neg (by omega)] at h
    exact h
  have HADD : Hid (ad.add (j + 2) = { block := ad.block, off := ad.off + (j + 1 + 1) }) := by unfold Hid Addr.add; rw [if_neg (by omega)]
  clear hcell2
  have t1 : ((b2 : Int) == 120) = true := by simp; omega
  obtain ⟨V, hV⟩ : ∃ V, crefD l 16 (j + 3) = V := ⟨_, rfl⟩
  rw [hV]
  have HV := Lib.hid hV
  clear hV hx
  have hz0 : Hid (digZ l 16 n (j + 3) = digZ l 16 l.length (j + 3)) := by unfold Hid; rw [HN.out]
  have ht0 : Hid (digT l 16 n (j + 3) 0 = digT l 16 l.length (j + 3) 0) := by unfold Hid; rw [HN.out]
  go_enter Tryd.func171, Tryd.ntmps171
  go_wp2_with fail
  go_step3
  go_wp2_with fail
  rw [HW.out]
  refine HP.out.mono ?_
  rintro e w1 ⟨rfl, rfl⟩
  go_wp2_with fail
  go_step3
  go_wp2_with fail
  rw [HADD.out]
  go_loop [4, 9] (fun r p => DigRel l 16 n (j + 3) 1114112 r p) (fun _ p => n - (intOf p).toNat)
  case atStart => exact digRel_mk (j + 3) n 0 0 (by omega) (Nat.le_refl _) (by omega) rfl (by omega) hz0.out ht0.out (by simp)
  case round =>
    obtain ⟨kk, f, T, x, hnf, hks, hkn, hx9, rfl, rfl, hZ, hTT, hX⟩ := hrel
    have HZ := Lib.hid hZ
    have HTT := Lib.hid hTT
    have HX := Lib.hid hX
    clear hZ hTT hX
    by_cases hlt : kk < n
    · obtain ⟨ad3, e3, hcell4⟩ := HS.out.byte (k := kk) (by rw [HN.out]; exact hlt)
      injection e3 with e3
      subst e3
      obtain ⟨b, hb⟩ : ∃ b, byteAt l kk = b := ⟨_, rfl⟩
      have hb256 := byteAt_lt l kk
      rw [hb] at hcell4 hb256
      obtain ⟨d, hd⟩ : ∃ d, digN (b : Int) 16 = d := ⟨_, rfl⟩
      have hdl : d < 16 := hd ▸ digN_le b 16 (by omega)
      have HD := Lib.hid (fun w => hd ▸ digit_any (b : Int) 16 w)
      have HBB := Lib.hid hb
      have HDD := Lib.hid hd
      clear hb hd
      by_cases hneg : d < 0
      · have hz1 := HZ.out
        have ht1 := HTT.out
        rw [digZ_out f kk (.inr (by rw [HBB.out, HDD.out]; exact hneg))] at hz1
        rw [digT_out f kk T (.inr (by rw [HBB.out, HDD.out]; exact hneg))] at ht1
        have Hz := Lib.hid hz1
        have Ht := Lib.hid ht1
        clear hz1 ht1
        by_cases hfirst : kk = j + 3
        · have HE := Lib.hid (crefD_7 Hz.out (.inl hfirst))
          have t3 : ((kk : Int) == (j : Int) + 2 + 1) = true := by simp; omega
          clear hfirst
          go_wp2_with fail
          refine (HD.out _).mono ?_
          rintro e w1 ⟨rfl, rfl⟩
          go_wp2_with fail
          try rw [Exit.noGoto_ret]
          go_ret3
          exact ⟨ret_v (HE.out.trans HV.out), hb0⟩
        · have t3 : ((kk : Int) == (j : Int) + 2 + 1) = false := by simp; omega
          by_cases h59 : b = 59
          · have hno : ¬ (kk = j + 3 ∨ kk = l.length ∨ byteAt l kk ≠ 59) := by rw [HN.out, HBB.out]; omega
            have hcc := char_cap 1114112 (by omega) HX.out
            have HC := fun w' (hb : Below W.heap.size W w') => char_c (x : Int) w' (HT.out.below hb)
            have t2 : ((b : Int) != 59) = false := by rw [h59]; rfl
            cases hq : hasT charT (x : Int) with
            | false =>
              rw [hq] at HC hcc
              have HE := Lib.hid (crefD_6 Hz.out Ht.out hno hcc.symm)
              have HCC := Lib.hid (HC W (Below.refl _ _))
              clear hno hcc HC hq h59
              go_wp2_with fail
              refine (HD.out _).mono ?_
              rintro e w1 ⟨rfl, rfl⟩
              go_wp2_with fail
              refine HCC.out.mono ?_
              rintro e w1 ⟨rfl, hb1⟩
              go_wp2_with fail
              try rw [Exit.noGoto_ret]
              go_ret3
              exact ⟨ret_v (HE.out.trans HV.out), hb0.trans (hb1.mono hb0.size)⟩
            | true =>
              have hxT := char_low 1114112 (by omega) HX.out hq
              rw [hq] at HC hcc
              have HE := Lib.hid (crefD_ok Hz.out Ht.out hno hcc.symm)
              rw [← hxT] at HE
              have HCC := Lib.hid (HC W (Below.refl _ _))
              clear hno hcc HC hq h59 hxT
              go_wp2_with fail
              refine (HD.out _).mono ?_
              rintro e w1 ⟨rfl, rfl⟩
              go_wp2_with fail
              refine HCC.out.mono ?_
              rintro e w1 ⟨rfl, hb1⟩
              go_wp2_with fail
              try rw [Exit.noGoto_ret]
              go_ret3
              exact ⟨ret_v (HE.out.trans HV.out), hb0.trans (hb1.mono hb0.size)⟩
          · have HE := Lib.hid (crefD_7 Hz.out (.inr (.inr (by rw [HBB.out]; exact h59))))
            have t2 : ((b : Int) != 59) = true := by simp; omega
            clear h59
            go_wp2_with fail
            refine (HD.out _).mono ?_
            rintro e w1 ⟨rfl, rfl⟩
            go_wp2_with fail
            try rw [Exit.noGoto_ret]
            go_ret3
            exact ⟨ret_v (HE.out.trans HV.out), hb0⟩
      · obtain ⟨g, rfl⟩ : ∃ g, f = g + 1 := ⟨f - 1, by omega⟩
        obtain ⟨dn, rfl⟩ : ∃ dn : Nat, d = dn := ⟨d.toNat, by omega⟩
        have hz1 := HZ.out
        have ht1 := HTT.out
        rw [digZ_on g kk (by rw [HN.out]; exact hlt) (by rw [HBB.out, HDD.out]; omega)] at hz1
        rw [digT_on g kk T (by rw [HN.out]; exact hlt) (by rw [HBB.out, HDD.out]; omega), HBB.out, HDD.out, Int.toNat_natCast] at ht1
        have Hz := Lib.hid hz1
        have Ht := Lib.hid ht1
        have HXX := Lib.hid (cap16 (d := dn) 1114112 HX.out)
        clear hz1 ht1
        by_cases hcap : x * 16 + dn ≤ 1114112
        · go_wp2_with fail
          refine (HD.out _).mono ?_
          rintro e w1 ⟨rfl, rfl⟩
          go_wp2_with fail
          all_goals
            first
            | (exfalso; omega)
            | (go_round
               case rel =>
                 refine digRel_mk (kk + 1) g (T * (16 : Int).toNat + dn) ((x * 16 + dn)) ?_ ?_ ?_ ?_ ?_ Hz.out Ht.out ?_
                 · omega
                 · omega
                 · omega
                 · omega
                 · omega
                 · have h := HXX.out
                   simp at h ⊢
                   omega
               case measure => simp [intOf]; omega)
        · go_wp2_with fail
          refine (HD.out _).mono ?_
          rintro e w1 ⟨rfl, rfl⟩
          go_wp2_with fail
          all_goals
            first
            | (exfalso; omega)
            | (go_round
               case rel =>
                 refine digRel_mk (kk + 1) g (T * (16 : Int).toNat + dn) (1114112) ?_ ?_ ?_ ?_ ?_ Hz.out Ht.out ?_
                 · omega
                 · omega
                 · omega
                 · omega
                 · omega
                 · have h := HXX.out
                   simp at h ⊢
                   omega
               case measure => simp [intOf]; omega)
    · obtain rfl : kk = n := by omega
      have hz1 := HZ.out
      rw [digZ_out f kk (.inl (by rw [HN.out]; exact Nat.le_refl _))] at hz1
      have HE := Lib.hid (crefD_7 hz1 (.inr (.inl HN.out.symm)))
      clear hz1
      by_cases hfirst : kk = j + 3
      · have t3 : ((kk : Int) == (j : Int) + 2 + 1) = true := by simp; omega
        clear hfirst
        go_wp2_with fail
        try rw [Exit.noGoto_ret]
        go_ret3
        exact ⟨ret_v (HE.out.trans HV.out), hb0⟩
      · have t3 : ((kk : Int) == (j : Int) + 2 + 1) = false := by simp; omega
        clear hfirst
        go_wp2_with fail
        try rw [Exit.noGoto_ret]
        go_ret3
        exact ⟨ret_v (HE.out.trans HV.out), hb0⟩

set_option maxHeartbeats 4000000 in
theorem cchar_10 (l : List UInt8) (ad : Addr) (n c j : Nat) (w W : World)
    (HN : Hid (l.length = n)) (hnc : n ≤ c) (hm : c ≤ 9223372036854775807) (hn9 : n ≤ 1000000) (hj2 : j + 2 ≤ n) (hcj : ¬ c = j)
    (HW : Hid (w.alloc (.cells #[.int .u8 38, .int .u8 35] 5 (2, 3)) = W)) (hb0 : Below w.heap.size w W) (HS : Hid (Sees W (some ad) (vB l))) (HT : Hid (TabC W))
    (HP : Hid (Calls Tryd.prog 68 #[.slice (some (ad.add j)) (n - j) (c - j), .slice (some ⟨w.heap.size, 0, none⟩) 2 2] W fun e w' => e = .returned (.bool true) ∧ W = w'))
    (hj3 : j + 2 < n) (b2 : Nat) (hb2l : b2 < 256) (hcell2 : W.cell? (ad.add (j + 2)) = some (.int .u8 b2)) (hx : ¬ b2 = 120) :
    Calls Tryd.prog 171 #[.slice (some ad) n c, .int .i64 (j : Int)] w fun e w' => e = .returned (crefD l 10 (j + 2)) ∧ Below w.heap.size w w' := by
  have kc := fun (w : World) (C : Array Value) (n c : Nat) => Lib.run_convert_bytes_const (P := Tryd.prog) w 22 5 C n c Tryd.underlying22 Tryd.underlying5
  have hcell3 : W.cell? { block := ad.block, off := ad.off + (j + 1 + 1) } = some (.int .u8 b2) := by
    have h := hcell2
    unfold Addr.add at h
    rw [if_neg (by omega)] at h
    exact h
  have HADD : Hid (ad.add (j + 2) = { block := ad.block, off := ad.off + (j + 1 + 1) }) := by unfold Hid Addr.add; rw [if_neg (by omega)]
  clear hcell2
  have t1 : ((b2 : Int) == 120) = false := by simp; omega
  obtain ⟨V, hV⟩ : ∃ V, crefD l 10 (j + 2) = V := ⟨_, rfl⟩
  rw [hV]
  have HV := Lib.hid hV
  clear hV hx
  have hz0 : Hid (digZ l 10 n (j + 2) = digZ l 10 l.length (j + 2)) := by unfold Hid; rw [HN.out]
  have ht0 : Hid (digT l 10 n (j + 2) 0 = digT l 10 l.length (j + 2) 0) := by unfold Hid; rw [HN.out]
  go_enter Tryd.func171, Tryd.ntmps171
  go_wp2_with fail
  go_step3
  go_wp2_with fail
  rw [HW.out]
  refine HP.out.mono ?_
  rintro e w1 ⟨rfl, rfl⟩
  go_wp2_with fail
  go_step3
  go_wp2_with fail
  rw [HADD.out]
  go_loop [4, 9] (fun r p => DigRel l 10 n (j + 2) 1114112 r p) (fun _ p => n - (intOf p).toNat)
  case atStart => exact digRel_mk (j + 2) n 0 0 (by omega) (Nat.le_refl _) (by omega) rfl (by omega) hz0.out ht0.out (by simp)
  case round =>
    obtain ⟨kk, f, T, x, hnf, hks, hkn, hx9, rfl, rfl, hZ, hTT, hX⟩ := hrel
    have HZ := Lib.hid hZ
    have HTT := Lib.hid hTT
    have HX := Lib.hid hX
    clear hZ hTT hX
    by_cases hlt : kk < n
    · obtain ⟨ad3, e3, hcell4⟩ := HS.out.byte (k := kk) (by rw [HN.out]; exact hlt)
      injection e3 with e3
      subst e3
      obtain ⟨b, hb⟩ : ∃ b, byteAt l kk = b := ⟨_, rfl⟩
      have hb256 := byteAt_lt l kk
      rw [hb] at hcell4 hb256
      obtain ⟨d, hd⟩ : ∃ d, digN (b : Int) 10 = d := ⟨_, rfl⟩
      have hdl : d < 10 := hd ▸ digN_le b 10 (by omega)
      have HD := Lib.hid (fun w => hd ▸ digit_any (b : Int) 10 w)
      have HBB := Lib.hid hb
      have HDD := Lib.hid hd
      clear hb hd
      by_cases hneg : d < 0
      · have hz1 := HZ.out
        have ht1 := HTT.out
        rw [digZ_out f kk (.inr (by rw [HBB.out, HDD.out]; exact hneg))] at hz1
        rw [digT_out f kk T (.inr (by rw [HBB.out, HDD.out]; exact hneg))] at ht1
        have Hz := Lib.hid hz1
        have Ht := Lib.hid ht1
        clear hz1 ht1
        by_cases hfirst : kk = j + 2
        · have HE := Lib.hid (crefD_7 Hz.out (.inl hfirst))
          have t3 : ((kk : Int) == (j : Int) + 2) = true := by simp; omega
          clear hfirst
          go_wp2_with fail
          refine (HD.out _).mono ?_
          rintro e w1 ⟨rfl, rfl⟩
          go_wp2_with fail
          try rw [Exit.noGoto_ret]
          go_ret3
          exact ⟨ret_v (HE.out.trans HV.out), hb0⟩
        · have t3 : ((kk : Int) == (j : Int) + 2) = false := by simp; omega
          by_cases h59 : b = 59
          · have hno : ¬ (kk = j + 2 ∨ kk = l.length ∨ byteAt l kk ≠ 59) := by rw [HN.out, HBB.out]; omega
            have hcc := char_cap 1114112 (by omega) HX.out
            have HC := fun w' (hb : Below W.heap.size W w') => char_c (x : Int) w' (HT.out.below hb)
            have t2 : ((b : Int) != 59) = false := by rw [h59]; rfl
            cases hq : hasT charT (x : Int) with
            | false =>
              rw [hq] at HC hcc
              have HE := Lib.hid (crefD_6 Hz.out Ht.out hno hcc.symm)
              have HCC := Lib.hid (HC W (Below.refl _ _))
              clear hno hcc HC hq h59
              go_wp2_with fail
              refine (HD.out _).mono ?_
              rintro e w1 ⟨rfl, rfl⟩
              go_wp2_with fail
              refine HCC.out.mono ?_
              rintro e w1 ⟨rfl, hb1⟩
              go_wp2_with fail
              try rw [Exit.noGoto_ret]
              go_ret3
              exact ⟨ret_v (HE.out.trans HV.out), hb0.trans (hb1.mono hb0.size)⟩
            | true =>
              have hxT := char_low 1114112 (by omega) HX.out hq
              rw [hq] at HC hcc
              have HE := Lib.hid (crefD_ok Hz.out Ht.out hno hcc.symm)
              rw [← hxT] at HE
              have HCC := Lib.hid (HC W (Below.refl _ _))
              clear hno hcc HC hq h59 hxT
              go_wp2_with fail
              refine (HD.out _).mono ?_
              rintro e w1 ⟨rfl, rfl⟩
              go_wp2_with fail
              refine HCC.out.mono ?_
              rintro e w1 ⟨rfl, hb1⟩
              go_wp2_with fail
              try rw [Exit.noGoto_ret]
              go_ret3
              exact ⟨ret_v (HE.out.trans HV.out), hb0.trans (hb1.mono hb0.size)⟩
          · have HE := Lib.hid (crefD_7 Hz.out (.inr (.inr (by rw [HBB.out]; exact h59))))
            have t2 : ((b : Int) != 59) = true := by simp; omega
            clear h59
            go_wp2_with fail
            refine (HD.out _).mono ?_
            rintro e w1 ⟨rfl, rfl⟩
            go_wp2_with fail
            try rw [Exit.noGoto_ret]
            go_ret3
            exact ⟨ret_v (HE.out.trans HV.out), hb0⟩
      · obtain ⟨g, rfl⟩ : ∃ g, f = g + 1 := ⟨f - 1, by omega⟩
        obtain ⟨dn, rfl⟩ : ∃ dn : Nat, d = dn := ⟨d.toNat, by omega⟩
        have hz1 := HZ.out
        have ht1 := HTT.out
        rw [digZ_on g kk (by rw [HN.out]; exact hlt) (by rw [HBB.out, HDD.out]; omega)] at hz1
        rw [digT_on g kk T (by rw [HN.out]; exact hlt) (by rw [HBB.out, HDD.out]; omega), HBB.out, HDD.out, Int.toNat_natCast] at ht1
        have Hz := Lib.hid hz1
        have Ht := Lib.hid ht1
        have HXX := Lib.hid (cap10 (d := dn) 1114112 HX.out)
        clear hz1 ht1
        by_cases hcap : x * 10 + dn ≤ 1114112
        · go_wp2_with fail
          refine (HD.out _).mono ?_
          rintro e w1 ⟨rfl, rfl⟩
          go_wp2_with fail
          all_goals
            first
            | (exfalso; omega)
            | (go_round
               case rel =>
                 refine digRel_mk (kk + 1) g (T * (10 : Int).toNat + dn) ((x * 10 + dn)) ?_ ?_ ?_ ?_ ?_ Hz.out Ht.out ?_
                 · omega
                 · omega
                 · omega
                 · omega
                 · omega
                 · have h := HXX.out
                   simp at h ⊢
                   omega
               case measure => simp [intOf]; omega)
        · go_wp2_with fail
          refine (HD.out _).mono ?_
          rintro e w1 ⟨rfl, rfl⟩
          go_wp2_with fail
          all_goals
            first
            | (exfalso; omega)
            | (go_round
               case rel =>
                 refine digRel_mk (kk + 1) g (T * (10 : Int).toNat + dn) (1114112) ?_ ?_ ?_ ?_ ?_ Hz.out Ht.out ?_
                 · omega
                 · omega
                 · omega
                 · omega
                 · omega
                 · have h := HXX.out
                   simp at h ⊢
                   omega
               case measure => simp [intOf]; omega)
    · obtain rfl : kk = n := by omega
      have hz1 := HZ.out
      rw [digZ_out f kk (.inl (by rw [HN.out]; exact Nat.le_refl _))] at hz1
      have HE := Lib.hid (crefD_7 hz1 (.inr (.inl HN.out.symm)))
      clear hz1
      by_cases hfirst : kk = j + 2
      · have t3 : ((kk : Int) == (j : Int) + 2) = true := by simp; omega
        clear hfirst
        go_wp2_with fail
        try rw [Exit.noGoto_ret]
        go_ret3
        exact ⟨ret_v (HE.out.trans HV.out), hb0⟩
      · have t3 : ((kk : Int) == (j : Int) + 2) = false := by simp; omega
        clear hfirst
        go_wp2_with fail
        try rw [Exit.noGoto_ret]
        go_ret3
        exact ⟨ret_v (HE.out.trans HV.out), hb0⟩

set_option maxHeartbeats 4000000 in
theorem cchar_any (l : List UInt8) (A : Option Addr) (n c : Nat) (k : Int) (w : World)
    (hn : l.length = n) (hnc : n ≤ c) (hm : c ≤ 9223372036854775807) (hk : I64 k) (hn9 : n ≤ 1000000) (hs : Sees w A (vB l)) (ht : TabC w) :
    Calls Tryd.prog 171 #[.slice A n c, .int .i64 k] w fun e w' => e = .returned (chV l k) ∧ Below w.heap.size w w' := by
  have hkl := hk.1
  have hkh := hk.2
  by_cases hout : k < 0 ∨ (n : Int) < k
  · have hv : chV l k = noC 3 := by rw [chV, if_pos (by rw [hn]; exact hout)]
    rw [hv]
    clear hv
    unfold noC
    rcases hout with h0 | h0
    all_goals
      go_enter Tryd.func171, Tryd.ntmps171
      go_wp2_with fail
      go_step3
      go_wp2_with fail
      try rw [Exit.noGoto_ret]
      go_ret3
      exact ⟨rfl, Below.refl _ _⟩
  · obtain ⟨j, rfl⟩ : ∃ j : Nat, k = j := ⟨k.toNat, by omega⟩
    have hj : j ≤ n := by omega
    have kc := fun (w : World) (C : Array Value) (n c : Nat) => Lib.run_convert_bytes_const (P := Tryd.prog) w 22 5 C n c Tryd.underlying22 Tryd.underlying5
    obtain ⟨W, hW⟩ : ∃ W, w.alloc (.cells #[.int .u8 38, .int .u8 35] 5 (2, 3)) = W := ⟨_, rfl⟩
    have hb0 : Below w.heap.size w W := hW ▸ (Below.refl _ w).alloc (Nat.le_refl _) _
    have hsC : Sees W (some ⟨w.heap.size, 0, none⟩) (vB [38, 35]) := hW ▸ sees_lit w (vB [38, 35]) _ _
    have hsW := hs.below hb0
    have htW : TabC W := ht.below hb0
    have HW := Lib.hid hW
    clear hW
    by_cases hjn : j = n
    · have hv : chV l j = noC 7 := by rw [chV, if_neg (by omega), Int.toNat_natCast, if_pos (.inl (by omega))]
      have H0 := Lib.hid (fun (A' : Option Addr) (c' : Nat) => hasPre_any [] [38, 35] A' (some ⟨w.heap.size, 0, none⟩) 0 2 c' 2 W rfl (by omega) (by omega) rfl (by omega) (by omega) (sees_nil _ _) hsC)
      rw [hv]
      clear hv hs hsW hsC
      unfold noC
      subst hjn
      by_cases hcj : c = j
      all_goals
        go_enter Tryd.func171, Tryd.ntmps171
        go_wp2_with fail
        go_step3
        go_wp2_with fail
        rw [HW.out]
        refine (H0.out _ _).mono ?_
        rintro e w1 ⟨rfl, rfl⟩
        go_wp2_with fail
        try rw [Exit.noGoto_ret]
        go_ret3
        exact ⟨rfl, hb0⟩
    · have hjl : j < n := by omega
      obtain ⟨ad, rfl, hcell⟩ := hs.byte (k := j) (by omega)
      have hcj : ¬ c = j := by omega
      have hsd : Sees W (some (ad.add j)) (vB (l.drop j)) := by
        have h1 := hsW.drop (k := j) (cap := c) (by rw [vB_len]; omega)
        rw [if_neg hcj, ← vB_drop] at h1
        exact h1
      have hp := hasPre_any (l.drop j) [38, 35] (some (ad.add j)) (some ⟨w.heap.size, 0, none⟩) (n - j) 2 (c - j) 2 W (by rw [List.length_drop, hn]) (by omega) (by omega) rfl (by omega) (by omega) hsd hsC
      have hpi := pre2_iff l j
      cases hq : ((l.drop j).take 2 == [38, 35]) with
      | false =>
        rw [hq] at hp hpi
        have HP := Lib.hid hp
        have hv : chV l j = noC 7 := by
          rw [chV, if_neg (by omega), Int.toNat_natCast, if_pos]
          by_cases h1 : l.length < j + 3
          · exact .inl h1
          · by_cases h2 : byteAt l j = 38
            · exact .inr (.inr fun h3 => absurd (hpi.2 ⟨by omega, h2, h3⟩) (by simp))
            · exact .inr (.inl h2)
        rw [hv]
        clear hv hs hsW hsC hsd hp hpi hq hcell
        unfold noC
        go_enter Tryd.func171, Tryd.ntmps171
        go_wp2_with fail
        go_step3
        go_wp2_with fail
        rw [HW.out]
        refine HP.out.mono ?_
        rintro e w1 ⟨rfl, rfl⟩
        go_wp2_with fail
        try rw [Exit.noGoto_ret]
        go_ret3
        exact ⟨rfl, hb0⟩
      | true =>
        rw [hq] at hp hpi
        have HP := Lib.hid hp
        obtain ⟨hj2, hb38, hb35⟩ := hpi.1 rfl
        rw [hn] at hj2
        have HN := Lib.hid hn
        have HS := Lib.hid hsW
        have HT := Lib.hid htW
        by_cases hend : n = j + 2
        · have hv : chV l j = noC 7 := by rw [chV, if_neg (by omega), Int.toNat_natCast, if_pos (.inl (by omega))]
          rw [hv]
          exact cchar_two l ad n c j w W HN hnc hm hn9 hj2 hcj HW hb0 HS HT HP (by omega)
        · obtain ⟨b2, hb2⟩ : ∃ b2, byteAt l (j + 2) = b2 := ⟨_, rfl⟩
          obtain ⟨ad2, e2, hcell2⟩ := hsW.byte (k := j + 2) (by omega)
          injection e2 with e2
          subst e2
          have hb2l := byteAt_lt l (j + 2)
          rw [hb2] at hcell2 hb2l
          have hv : chV l j = if b2 = 120 then crefD l 16 (j + 3) else crefD l 10 (j + 2) := by
            rw [chV, if_neg (by omega), Int.toNat_natCast, if_neg (by rw [hb38, hb35]; omega), hb2]
          rw [hv]
          by_cases hx : b2 = 120
          · rw [if_pos hx]
            exact cchar_16 l ad n c j w W HN hnc hm hn9 hj2 hcj HW hb0 HS HT HP (by omega) b2 hb2l hcell2 hx
          · rw [if_neg hx]
            exact cchar_10 l ad n c j w W HN hnc hm hn9 hj2 hcj HW hb0 HS HT HP (by omega) b2 hb2l hcell2 hx
end Go.Proofs.YtcpdllghlbdhiaaDoor
namespace Go.Proofs.YtcpdllghlbdhiaaDoor
open Go.ChangeShapes Go.WideShapes Go.ChangeAt Go.RowKit
set_option linter.unusedVariables false
set_option maxRecDepth 100000

set_option maxHeartbeats 1000000 in
theorem isName_any (l : List UInt8) (w : World) (hl : l.length ≤ 1000000) (ht : TabN w) :
    Calls Tryd.prog 96 #[strV l] w fun e w' => e = .returned (.bool (wholeB l startN charN)) ∧ Below w.heap.size w w' := by
  have HR := Lib.hid (fun (w' : World) (hb : Below w.heap.size w w') => whole_any l w' _ _ _ _ _ _ hl enters_start enters_char (tells_start (ht.below hb) (Nat.le_refl _)) (tells_char (ht.below hb) (Nat.le_refl _)))
  go_enter Tryd.func96, Tryd.ntmps96
  go_wp2_with fail
  refine (names_any w).mono ?_
  rintro e w1 ⟨rfl, hb1⟩
  go_wp2_with fail
  refine (HR.out w1 hb1).mono ?_
  rintro e w2 ⟨rfl, hb2⟩
  go_wp2_with fail
  go_ret
  exact ⟨rfl, hb1.trans (hb2.mono hb1.size)⟩
set_option maxHeartbeats 1000000 in
theorem isPlain_any (l : List UInt8) (w : World) (hl : l.length ≤ 1000000) (ht : TabN w) :
    Calls Tryd.prog 77 #[strV l] w fun e w' => e = .returned (.bool (wholeB l (plainP startN) (plainP charN))) ∧ Below w.heap.size w w' := by
  have HR := Lib.hid (fun (w' : World) (b1 b2 : Nat) (hb : Below w.heap.size w w') (l1 : b1 < w'.heap.size) (l2 : b2 < w'.heap.size) (c1 : w'.cell? ⟨b1, 0, none⟩ = some (fn0 134)) (c2 : w'.cell? ⟨b2, 0, none⟩ = some (fn0 135)) =>
    whole_any l w' _ _ _ _ _ _ hl enters_plain enters_plain (tells_plain enters_start l1 c1 (tells_start (ht.below hb) (Nat.le_refl _))) (tells_plain enters_char l2 c2 (tells_char (ht.below hb) (Nat.le_refl _))))
  go_enter Tryd.func77, Tryd.ntmps77
  go_wp2_with fail
  refine (plains_any w).mono ?_
  rintro e w1 ⟨b1, b2, rfl, l1, l2, c1, c2, hb1⟩
  go_wp2_with fail
  refine (HR.out w1 b1 b2 hb1 l1 l2 c1 c2).mono ?_
  rintro e w2 ⟨rfl, hb2⟩
  go_wp2_with fail
  go_ret
  exact ⟨rfl, hb1.trans (hb2.mono hb1.size)⟩

set_option maxHeartbeats 1000000 in
theorem risB_any (l : List UInt8) (w : World) (pl : Bool) (hl : l.length ≤ 1000000) :
    Calls Tryd.prog 78 #[strV l, .bool pl] w fun e w' => e = .returned (.bool (wholeB l (kindP pl startN) (kindP pl charN))) ∧ Below w.heap.size w w' := by
  by_cases h0 : l = []
  · subst h0
    go_enter Tryd.func78, Tryd.ntmps78
    go_wp2_with fail
    go_ret
    exact ⟨rfl, Below.refl _ _⟩
  · have H := fun (w' : World) (cap : Nat) (A : Option Addr) (hs : Sees w' A (vB l)) => rend_any l A l.length cap 0 w' pl rfl (by omega) (Nat.zero_le _) hs
    have hie : l.isEmpty = false := List.isEmpty_eq_false_iff.2 h0
    have hw : wholeB l (kindP pl startN) (kindP pl charN) = decide (endN l (kindP pl charN) l.length (kindP pl startN) 0 = l.length) := by
      unfold wholeB; rw [List.isEmpty_eq_false_iff.2 h0]; rfl
    rw [hw]
    obtain ⟨z, hz⟩ : ∃ z, endN l (kindP pl charN) l.length (kindP pl startN) 0 = z := ⟨_, rfl⟩
    rw [hz] at H ⊢
    have HH := Lib.hid H
    clear H hw hz
    have kc := fun W => run_bytes_of_string (P := Tryd.prog) W 9 22 5 ⟨l.toArray⟩ Tryd.underlying9 Tryd.underlying22 Tryd.underlying5
    have hB2 := fun o => ((Below.refl w.heap.size w).alloc (Nat.le_refl _) o).drew
    go_enter Tryd.func78, Tryd.ntmps78
    go_wp2_with fail
    refine (HH.out _ _ _ (made_sees _ l _ _ _ _ rfl)).mono ?_
    rintro e w2 ⟨rfl, hb⟩
    go_wp2_with fail
    go_ret
    exact ⟨ret_bool (by rw [Bool.eq_iff_iff]; simp; try omega), (hB2 _).trans (hb.mono (hB2 _).size)⟩

/-- The place of the first colon, or -1. -/
def colI (l : List UInt8) : Int := Lib.indexByte l 58
set_option maxHeartbeats 1000000 in
theorem indexB_any (l : List UInt8) (w : World) :
    Calls Tryd.prog 164 #[strV l, .int .u8 58] w fun e w' => e = .returned (.int .i64 (colI l)) ∧ w = w' := by
  have H := Lib.hid (Lib.run_indexByteString (P := Tryd.prog) ⟨l.toArray⟩ 58 w)
  go_enter Tryd.func164, Tryd.ntmps164
  go_wp2
  rw [run_callFunc_extern Tryd.func179 (by kernel_rfl) (by kernel_rfl) (by kernel_rfl) (e := Extern.BytealgIndexByte.indexByte) (by kernel_rfl), H.out]
  simp only [Result.andThen]
  rw [Oper.upon_value]
  go_wp2
  go_ret
  exact ⟨rfl, rfl⟩
set_option maxHeartbeats 1000000 in
theorem index_any (l : List UInt8) (w : World) :
    Calls Tryd.prog 140 #[strV l, .string ⟨#[58]⟩] w fun e w' => e = .returned (.int .i64 (colI l)) ∧ w = w' := by
  by_cases h : l = [58]
  · subst h
    go_enter Tryd.func140, Tryd.ntmps140
    go_wp2_with (go_at_call 164; refine (indexB_any _ _).mono ?_; rintro e w2 ⟨rfl, rfl⟩)
    all_goals
      go_ret
      exact ⟨rfl, rfl⟩
  · have t : ([58] == l) = false := by rw [beq_eq_false_iff_ne]; exact fun e => h e.symm
    clear h
    go_enter Tryd.func140, Tryd.ntmps140
    go_wp2_with (go_at_call 164; refine (indexB_any l _).mono ?_; rintro e w2 ⟨rfl, rfl⟩)
    go_ret
    exact ⟨rfl, rfl⟩

/-- What Cut tells. -/
def cutV (l : List UInt8) : Value :=
  if colI l < 0 then .tuple #[strV l, .string ⟨#[]⟩, .bool false] else .tuple #[strV (l.take (colI l).toNat), strV (l.drop ((colI l).toNat + 1)), .bool true]
theorem colI_cases (l : List UInt8) : (colI l = -1 ∧ ∀ k : Nat, l[k]? ≠ some 58) ∨ ∃ i : Nat, colI l = i ∧ l[i]? = some 58 ∧ ∀ k < i, l[k]? ≠ some 58 := by
  have h := Lib.indexByte_ge l 58
  by_cases h0 : colI l = -1
  · exact .inl ⟨h0, Lib.indexByte_none h0⟩
  · obtain ⟨i, hi⟩ : ∃ i : Nat, colI l = i := ⟨(colI l).toNat, by unfold colI at h0 ⊢; omega⟩
    exact .inr ⟨i, hi, Lib.indexByte_some hi⟩
theorem colI_lt (l : List UInt8) : colI l < 0 ∨ ∃ i : Nat, colI l = i ∧ i < l.length := by
  rcases colI_cases l with ⟨h, _⟩ | ⟨i, h, h1, _⟩
  · exact .inl (by omega)
  · exact .inr ⟨i, h, (List.getElem?_eq_some_iff.1 h1).1⟩
theorem str_extract (l : List UInt8) (a b : Nat) : (⟨l.toArray⟩ : ByteArray).extract a b = ⟨((l.drop a).take (b - a)).toArray⟩ := by
  apply ByteArray.ext
  rw [ByteArray.data_extract]
  simp [List.extract_eq_take_drop]
theorem ret_cut {a b c d : ByteArray} {p : Bool} (h1 : a = c) (h2 : b = d) : Ending.returned (.tuple #[.string a, .string b, .bool p]) = .returned (.tuple #[.string c, .string d, .bool p]) := by rw [h1, h2]

end Go.Proofs.YtcpdllghlbdhiaaDoor
namespace Go.Proofs.YtcpdllghlbdhiaaDoor
set_option linter.unusedVariables false
set_option maxRecDepth 100000

theorem rawS_inv {l : List UInt8} {k m : Nat} {r : Int} (h : rawS l k = (r, m)) (h0 : m ≠ 0) :
    (m = 1 ∧ byteAt l k < 128 ∧ r = byteAt l k) ∨ (m = 2 ∧ 192 ≤ byteAt l k ∧ byteAt l k < 224 ∧ 0 ≤ restS l (k + 1)) ∨
    (m = 3 ∧ 224 ≤ byteAt l k ∧ byteAt l k < 240 ∧ 0 ≤ restS l (k + 1) ∧ 0 ≤ restS l (k + 2)) ∨
    (m = 4 ∧ 240 ≤ byteAt l k ∧ byteAt l k < 248 ∧ 0 ≤ restS l (k + 1) ∧ 0 ≤ restS l (k + 2) ∧ 0 ≤ restS l (k + 3)) := by
  unfold rawS at h
  simp only [] at h
  split at h
  · injection h with h1 h2
    exact .inl ⟨h2.symm, by omega, h1.symm⟩
  · split at h
    · injection h with h1 h2
      exact .inr (.inl ⟨h2.symm, by omega, by omega, by omega⟩)
    · split at h
      · injection h with h1 h2
        exact .inr (.inr (.inl ⟨h2.symm, by omega, by omega, by omega, by omega⟩))
      · split at h
        · injection h with h1 h2
          exact .inr (.inr (.inr ⟨h2.symm, by omega, by omega, by omega, by omega, by omega⟩))
        · injection h with h1 h2
          exact absurd h2.symm h0
theorem rest_inv {l : List UInt8} {j : Nat} (h : 0 ≤ restS l j) : j < l.length ∧ 128 ≤ byteAt l j := by
  unfold restS at h
  split at h
  · next h1 => exact ⟨h1.1, h1.2.1⟩
  · omega
theorem byteAt_take (l : List UInt8) {i j : Nat} (h : j < i) : byteAt (l.take i) j = byteAt l j := by
  unfold byteAt; rw [List.getElem?_take, if_pos h]
theorem rest_take (l : List UInt8) {i j : Nat} (h : j < i) : restS (l.take i) j = restS l j := by
  unfold restS
  rw [byteAt_take l h, List.length_take]
  have e : j < min i l.length ↔ j < l.length := by omega
  simp only [e]
theorem rawS_take {l : List UInt8} {i k m : Nat} {r : Int} (h : rawS l k = (r, m)) (h0 : m ≠ 0) (hi : k + m ≤ i) : rawS (l.take i) k = (r, m) := by
  have hb := byteAt_take l (i := i) (j := k) (by omega)
  rcases rawS_inv h h0 with ⟨rfl, h1, _⟩ | ⟨rfl, h1, h2, x⟩ | ⟨rfl, h1, h2, x, y⟩ | ⟨rfl, h1, h2, x, y, z⟩
  · rw [← h, rawS_1 h1, rawS_1 (by rw [hb]; exact h1), hb]
  · rw [← h, rawS_2 h1 h2 rfl x, rawS_2 (x := restS l (k + 1)) (by rw [hb]; exact h1) (by rw [hb]; exact h2) (rest_take l (by omega)) x, hb]
  · rw [← h, rawS_3 h1 h2 rfl x rfl y, rawS_3 (x := restS l (k + 1)) (y := restS l (k + 2)) (by rw [hb]; exact h1) (by rw [hb]; exact h2) (rest_take l (by omega)) x (rest_take l (by omega)) y, hb]
  · rw [← h, rawS_4 h1 h2 rfl x rfl y rfl z, rawS_4 (x := restS l (k + 1)) (y := restS l (k + 2)) (z := restS l (k + 3)) (by rw [hb]; exact h1) (by rw [hb]; exact h2) (rest_take l (by omega)) x (rest_take l (by omega)) y (rest_take l (by omega)) z, hb]
theorem chr_raw {l : List UInt8} {k m : Nat} {r : Int} (h : chrAt l k = (r, m)) (h0 : m ≠ 0) : rawS l k = (r, m) ∧ ¬ ((rawS l k).2 = 0 ∨ isR (rawS l k).1 = false ∨ encLen (rawS l k).1.toNat ≠ (rawS l k).2) := by
  unfold chrAt at h
  simp only [] at h
  split at h
  · injection h with h1 h2
    exact absurd h2.symm h0
  · next h1 => exact ⟨h, h1⟩
theorem chr_take {l : List UInt8} {i k m : Nat} {r : Int} (h : chrAt l k = (r, m)) (h0 : m ≠ 0) (hi : k + m ≤ i) : chrAt (l.take i) k = (r, m) := by
  obtain ⟨h1, h2⟩ := chr_raw h h0
  have h3 := rawS_take h1 h0 hi
  unfold chrAt
  simp only []
  rw [h3]
  rw [h1] at h2
  rw [if_neg h2]
theorem chr_colon {l : List UInt8} {k : Nat} (h : byteAt l k = 58) : chrAt l k = (58, 1) := by
  unfold chrAt
  simp only []
  rw [rawS_1 (by omega), h]
  rfl
theorem chr_58 {l : List UInt8} {k m : Nat} (h : chrAt l k = (58, m)) (h0 : m ≠ 0) : byteAt l k = 58 := by
  obtain ⟨h1, h2⟩ := chr_raw h h0
  rw [h1] at h2
  have h3 : m = 1 := by
    rcases Nat.decEq (encLen 58) m with h4 | h4
    · exact absurd (.inr (.inr h4)) h2
    · rw [← h4]; rfl
  rcases rawS_inv h1 h0 with ⟨_, h4, h5⟩ | ⟨h4, _⟩ | ⟨h4, _⟩ | ⟨h4, _⟩
  · omega
  · omega
  · omega
  · omega
theorem chr_tail {l : List UInt8} {k m t : Nat} {r : Int} (h : chrAt l k = (r, m)) (h0 : m ≠ 0) (h1 : 0 < t) (h2 : t < m) : 128 ≤ byteAt l (k + t) := by
  rcases rawS_inv (chr_raw h h0).1 h0 with ⟨rfl, _, _⟩ | ⟨rfl, _, _, x⟩ | ⟨rfl, _, _, x, y⟩ | ⟨rfl, _, _, x, y, z⟩
  · omega
  · obtain rfl : t = 1 := by omega
    exact (rest_inv x).2
  · have : t = 1 ∨ t = 2 := by omega
    rcases this with rfl | rfl
    · exact (rest_inv x).2
    · exact (rest_inv y).2
  · have : t = 1 ∨ t = 2 ∨ t = 3 := by omega
    rcases this with rfl | rfl | rfl
    · exact (rest_inv x).2
    · exact (rest_inv y).2
    · exact (rest_inv z).2

theorem plain_yes {p : Int → Bool} {r : Int} (h : p r = true) (hr : r ≠ 58) : plainP p r = true := by
  show (decide (r ≠ 58) && p r) = true
  rw [h, decide_eq_true hr]; rfl
theorem plain_58 (p : Int → Bool) : plainP p 58 = false := by
  show (decide ((58 : Int) ≠ 58) && p 58) = false
  rw [decide_eq_false (fun h => h rfl)]; rfl
/-- Ahead of a colon what was a row is a plain one. -/
theorem end_take {l : List UInt8} {q : Int → Bool} {i : Nat} (hi : i < l.length) (h58 : byteAt l i = 58) (f : Nat) : ∀ (p : Int → Bool) (k : Nat), k ≤ i → (∀ j, k ≤ j → j < i → byteAt l j ≠ 58) →
    endN l q f p k = l.length → endN (l.take i) (plainP q) f (plainP p) k = i := by
  have hlen : (l.take i).length = i := by simp; omega
  induction f with
  | zero => intro p k hk _ h; rw [endN] at h; omega
  | succ f ih =>
    intro p k hk hno h
    rcases Nat.lt_or_ge k i with hlt | hge
    · rw [endN] at h
      split at h
      · next hc =>
        obtain ⟨r, m, hrm⟩ : ∃ r m, chrAt l k = (r, m) := ⟨(chrAt l k).1, (chrAt l k).2, Prod.ext_iff.2 ⟨Eq.refl _, Eq.refl _⟩⟩
        rw [hrm] at hc h
        obtain ⟨_, h0, hp⟩ := hc
        have hmi : k + m ≤ i := by
          rcases Nat.lt_or_ge i (k + m) with h1 | h1
          · have := chr_tail (t := i - k) hrm h0 (by omega) (by omega)
            rw [show k + (i - k) = i by omega] at this
            omega
          · exact h1
        have hr : r ≠ 58 := by
          rintro rfl
          exact hno k (Nat.le_refl _) hlt (chr_58 hrm h0)
        rw [endN_on f k (by omega) (chr_take hrm h0 hmi) h0 (plain_yes hp hr)]
        exact ih q (k + m) hmi (fun j h1 h2 => hno j (by omega) h2) h
      · omega
    · rw [endN_out _ _ (.inl (by omega))]; omega
/-- A plain row has no colon. -/
theorem end_plain {l : List UInt8} {q : Int → Bool} (f : Nat) : ∀ (p : Int → Bool) (k : Nat), endN l (plainP q) f (plainP p) k = l.length → ∀ j, k ≤ j → j < l.length → byteAt l j ≠ 58 := by
  induction f with
  | zero => intro p k h j h1 h2; rw [endN] at h; omega
  | succ f ih =>
    intro p k h j h1 h2 h58
    rw [endN] at h
    split at h
    · next hc =>
      obtain ⟨r, m, hrm⟩ : ∃ r m, chrAt l k = (r, m) := ⟨(chrAt l k).1, (chrAt l k).2, Prod.ext_iff.2 ⟨Eq.refl _, Eq.refl _⟩⟩
      rw [hrm] at hc h
      obtain ⟨_, h0, hp⟩ := hc
      simp only [] at hp h0 h
      rcases Nat.lt_or_ge j (k + m) with h3 | h3
      · rcases Nat.lt_or_ge k j with h4 | h4
        · have := chr_tail (t := j - k) hrm h0 (by omega) (by omega)
          rw [show k + (j - k) = j by omega] at this
          omega
        · obtain rfl : j = k := by omega
          have := chr_colon h58
          rw [hrm] at this
          injection this with h5 h6
          rw [h5, plain_58] at hp
          cases hp
      · exact ih q (k + m) h j h3 h2 h58
    · omega

/-- More rounds than there are bytes say nothing else. -/
theorem endN_more {l : List UInt8} {q : Int → Bool} (f g : Nat) : ∀ (p : Int → Bool) (k : Nat), l.length ≤ k + f → l.length ≤ k + g → endN l q f p k = endN l q g p k := by
  induction f generalizing g with
  | zero => intro p k h1 _; rw [endN_out 0 k (.inl (by omega)), endN_out g k (.inl (by omega))]
  | succ f ih =>
    intro p k h1 h2
    cases g with
    | zero => rw [endN_out 0 k (.inl (by omega)), endN_out _ k (.inl (by omega))]
    | succ g =>
      rw [endN, endN]
      split
      · next hc => exact ih g q _ (by omega) (by omega)
      · rfl
theorem endN_long {l : List UInt8} {q : Int → Bool} {n : Nat} (hl : l.length = n) (f : Nat) : ∀ (g : Nat) (p : Int → Bool) (k : Nat), endN l q f p k = n → f < g → endN l q g p k = n := by
  induction f with
  | zero => intro g p k h hg; rw [endN] at h; rw [endN_out g k (.inl (by omega))]; exact h
  | succ f ih =>
    intro g p k h hg
    obtain ⟨g, rfl⟩ : ∃ g', g = g' + 1 := ⟨g - 1, by omega⟩
    rw [endN] at h ⊢
    split at h
    · next hc => rw [if_pos hc]; exact ih g q _ h (by omega)
    · next hc => rw [if_neg hc]; exact h
theorem endN_fuel {l : List UInt8} {p q : Int → Bool} {i f : Nat} (hl : l.length = i) (h : endN l q f p 0 = i) : endN l q i p 0 = i := by
  rcases Nat.lt_or_ge f i with h1 | h1
  · exact endN_long hl f i p 0 h h1
  · rw [endN_more i f p 0 (by omega) (by omega)]; exact h
theorem byteAt_58 {l : List UInt8} {j : Nat} : l[j]? = some 58 ↔ byteAt l j = 58 := by
  unfold byteAt
  constructor
  · intro h; rw [h]; rfl
  · intro h
    cases hj : l[j]? with
    | none => rw [hj] at h; exact absurd h (by decide)
    | some b =>
      rw [hj] at h
      simp only [Option.getD_some] at h
      congr 1
      exact UInt8.toNat_inj.1 h
theorem whole_iff {l : List UInt8} {p q : Int → Bool} : wholeB l p q = true ↔ l ≠ [] ∧ endN l q l.length p 0 = l.length := by
  unfold wholeB
  cases l <;> simp
/-- The part ahead of the first colon of a name is a plain name, if there is one. -/
theorem whole_take {l : List UInt8} {p q : Int → Bool} {i : Nat} (h : wholeB l p q = true) (hi : l[i]? = some 58) (hno : ∀ k < i, l[k]? ≠ some 58) (h0 : i ≠ 0) : wholeB (l.take i) (plainP p) (plainP q) = true := by
  obtain ⟨h1, h2⟩ := whole_iff.1 h
  have hil : i < l.length := (List.getElem?_eq_some_iff.1 hi).1
  have hlen : (l.take i).length = i := by simp; omega
  refine whole_iff.2 ⟨fun e => ?_, ?_⟩
  · rw [e] at hlen; simp at hlen; omega
  · have h3 := end_take hil (byteAt_58.1 hi) l.length p 0 (Nat.zero_le _) (fun j _ hj e => hno j hj (byteAt_58.2 e)) h2
    rw [hlen]
    exact endN_fuel hlen h3
/-- What has a colon is no plain name. -/
theorem whole_not {l : List UInt8} {p q : Int → Bool} {j : Nat} (hj : l[j]? = some 58) : wholeB l (plainP p) (plainP q) = false := by
  cases hw : wholeB l (plainP p) (plainP q) with
  | false => rfl
  | true => exact absurd (byteAt_58.1 hj) (end_plain l.length p 0 (whole_iff.1 hw).2 j (Nat.zero_le _) (List.getElem?_eq_some_iff.1 hj).1)
end Go.Proofs.YtcpdllghlbdhiaaDoor
namespace Go.Proofs.YtcpdllghlbdhiaaDoor
open Go.ChangeShapes Go.WideShapes Go.ChangeAt Go.RowKit
set_option linter.unusedVariables false
set_option maxRecDepth 100000

theorem chr_ascii {l : List UInt8} {k b : Nat} (h : byteAt l k = b) (hb : b < 128) : chrAt l k = ((b : Int), 1) := by
  unfold chrAt
  simp only []
  rw [rawS_1 (by omega), h, if_neg]
  rintro (h1 | h1 | h1)
  · cases h1
  · unfold isR at h1
    simp at h1
    omega
  · simp only [Int.toNat_natCast] at h1
    unfold encLen at h1
    rw [if_pos hb] at h1
    exact h1 rfl
/-- A byte in the middle. -/
theorem byte_mid (pre X post : List UInt8) (j : Nat) (hj : j < X.length) : byteAt (pre ++ X ++ post) (pre.length + j) = byteAt X j := by
  unfold byteAt
  rw [List.append_assoc, List.getElem?_append_right (by omega), Nat.add_sub_cancel_left, List.getElem?_append_left hj]
theorem byte_head (X post : List UInt8) (j : Nat) (hj : j < X.length) : byteAt (X ++ post) j = byteAt X j := by
  unfold byteAt
  rw [List.getElem?_append_left hj]
theorem mid_len (pre X post : List UInt8) : (pre ++ X ++ post).length = pre.length + X.length + post.length := by simp [Nat.add_assoc]
theorem mid_piece (pre X post : List UInt8) (a m : Nat) (h : a + m ≤ X.length) : ((pre ++ X ++ post).drop (pre.length + a)).take m = (X.drop a).take m := by
  rw [List.append_assoc, ← List.drop_drop, List.drop_left, List.drop_append_of_le_length (by omega), List.take_append_of_le_length (by rw [List.length_drop]; omega)]

theorem low_start {b : Nat} (h1 : 97 ≤ b) (h2 : b ≤ 122) : plainP startN (b : Int) = true := by
  refine plain_yes ?_ (by omega)
  unfold startN
  rw [startT_iff]
  omega
theorem low_char {b : Nat} (h1 : 97 ≤ b) (h2 : b ≤ 122) : plainP charN (b : Int) = true := by
  refine plain_yes ?_ (by omega)
  unfold charN
  rw [Bool.or_eq_true]
  right
  rw [startT_iff]
  omega
theorem start_59 : plainP startN 59 = false := by kernel_rfl
theorem char_59 : plainP charN 59 = false := by kernel_rfl
theorem start_35 : plainP startN 35 = false := by kernel_rfl
/-- A row of small letters up to a ";". -/
theorem end_low {l : List UInt8} (m : Nat) : ∀ (f k : Nat) (p : Int → Bool) (hp : p = plainP startN ∨ p = plainP charN) (hl : ∀ j, j < m → 97 ≤ byteAt l (k + j) ∧ byteAt l (k + j) ≤ 122) (h59 : byteAt l (k + m) = 59) (hlen : k + m < l.length) (hf : m ≤ f),
    endN l (plainP charN) f p k = k + m := by
  induction m with
  | zero =>
    intro f k p hp _ h59 hlen _
    rw [Nat.add_zero] at h59 ⊢
    refine endN_out f k (.inr (.inr ?_))
    rw [chr_ascii (b := 59) h59 (by omega)]
    rcases hp with rfl | rfl
    · exact start_59
    · exact char_59
  | succ m ih =>
    intro f k p hp hl h59 hlen hf
    obtain ⟨g, rfl⟩ : ∃ g, f = g + 1 := ⟨f - 1, by omega⟩
    have h0 := hl 0 (by omega)
    rw [Nat.add_zero] at h0
    rw [endN_on g k (by omega) (chr_ascii rfl (by omega)) (by omega) (by rcases hp with rfl | rfl <;> first | exact low_start h0.1 h0.2 | exact low_char h0.1 h0.2)]
    rw [ih g (k + 1) _ (.inr rfl) (fun j hj => by have := hl (j + 1) (by omega); rwa [show k + 1 + j = k + (j + 1) by omega]) (by rw [← h59]; congr 1; omega) (by omega) (by omega)]
    omega

/-- A reference to an entity whose name is of small letters, in the middle of a text. -/
theorem ent_mid (pre post nm : List UInt8) (h0 : nm ≠ []) (h1 : nm.length ≤ 1024) (hl : ∀ j, j < nm.length → 97 ≤ byteAt nm j ∧ byteAt nm j ≤ 122) :
    entV (pre ++ (38 :: nm ++ [59]) ++ post) (pre.length : Int) 38 = .tuple #[strV nm, .int .i64 ((pre.length + nm.length + 2 : Nat) : Int), .int .i64 0] := by
  obtain ⟨o, ho⟩ : ∃ o, pre ++ (38 :: nm ++ [59]) ++ post = o := ⟨_, rfl⟩
  have hX : (38 :: nm ++ [59] : List UInt8).length = nm.length + 2 := by simp
  have hlen : o.length = pre.length + (nm.length + 2) + post.length := by rw [← ho, mid_len, hX]
  have hb : ∀ j, j < nm.length + 2 → byteAt o (pre.length + j) = byteAt (38 :: nm ++ [59]) j := fun j hj => by rw [← ho]; exact byte_mid pre _ post j (by rw [hX]; exact hj)
  have hb0 : byteAt o pre.length = 38 := by have := hb 0 (by omega); rw [Nat.add_zero] at this; rw [this]; rfl
  have hbn : ∀ j, j < nm.length → byteAt o (pre.length + 1 + j) = byteAt nm j := fun j hj => by
    have := hb (1 + j) (by omega)
    rw [← Nat.add_assoc] at this
    rw [this, byte_head _ _ _ (by simp; omega)]
    unfold byteAt
    rw [Nat.add_comm 1 j, List.getElem?_cons_succ]
  have hb59 : byteAt o (pre.length + 1 + nm.length) = 59 := by
    have := hb (1 + nm.length) (by omega)
    rw [← Nat.add_assoc] at this
    rw [this]
    unfold byteAt
    rw [List.getElem?_append_right (by simp; omega)]
    simp only [List.length_cons]
    rw [show 1 + nm.length - (nm.length + 1) = 0 by omega]
    rfl
  have hn0 : 0 < nm.length := List.length_pos_iff.2 h0
  have hz : entZ o pre.length = pre.length + 1 + nm.length := by
    unfold entZ
    exact end_low nm.length o.length (pre.length + 1) _ (.inl rfl) (fun j hj => by rw [hbn j hj]; exact hl j hj) hb59 (by omega) (by omega)
  rw [ho, entV, if_neg (by omega), Int.toNat_natCast, if_neg (by rw [hb0]; omega), hz, if_neg (by omega), if_neg (by omega), if_neg (by rw [hb59]; omega)]
  have hp : (o.drop (pre.length + 1)).take (pre.length + 1 + nm.length - (pre.length + 1)) = nm := by
    rw [← ho, mid_piece pre _ post 1 _ (by rw [hX]; omega)]
    rw [show pre.length + 1 + nm.length - (pre.length + 1) = nm.length by omega]
    simp
  have e : ((pre.length + 1 + nm.length : Nat) : Int) + 1 = ((pre.length + nm.length + 2 : Nat) : Int) := by omega
  rw [hp, e]
/-- No reference to a character where no "#" stands behind the mark. -/
theorem ch_none {o : List UInt8} {k : Nat} (hk : k ≤ o.length) (h : byteAt o k ≠ 38 ∨ byteAt o (k + 1) ≠ 35) : chV o (k : Int) = noC 7 := by
  rw [chV, if_neg (by omega), Int.toNat_natCast, if_pos (.inr h)]
theorem ent_none {o : List UInt8} {k : Nat} (hk : k ≤ o.length) (h : byteAt o k ≠ 38) : entV o (k : Int) 38 = noV 7 := by
  rw [entV, if_neg (by omega), Int.toNat_natCast, if_pos (.inr h)]
/-- No reference to an entity where a "#" stands behind the mark. -/
theorem ent_num {o : List UInt8} {k : Nat} (hk : k + 1 < o.length) (h1 : byteAt o k = 38) (h2 : byteAt o (k + 1) = 35) : entV o (k : Int) 38 = noV 7 := by
  have hz : entZ o k = k + 1 := by
    unfold entZ
    refine endN_out _ _ (.inr (.inr ?_))
    rw [chr_ascii (b := 35) h2 (by omega)]
    exact start_35
  rw [entV, if_neg (by omega), Int.toNat_natCast, if_neg (by rw [h1]; omega), hz, if_pos rfl]

/-- The number that decimal digits say. -/
def dec10 (ds : List UInt8) (T : Nat) : Nat := ds.foldl (fun T d => T * 10 + (d.toNat - 48)) T
theorem dig_dec {b : Nat} (h1 : 48 ≤ b) (h2 : b ≤ 57) : digN (b : Int) 10 = ((b - 48 : Nat) : Int) := by
  have e : digV (b : Int) = (b : Int) - 48 := by unfold digV; rw [if_pos (by omega)]
  unfold digN
  rw [if_pos (.inl rfl), e, if_neg (by omega)]
  omega
theorem dig_59 : digN 59 10 = -1 := by kernel_rfl
/-- A row of decimal digits up to a ";". -/
theorem dig_row {l : List UInt8} (ds : List UInt8) : ∀ (f k T : Nat) (hl : ∀ j, j < ds.length → byteAt l (k + j) = byteAt ds j ∧ 48 ≤ byteAt ds j ∧ byteAt ds j ≤ 57) (h59 : byteAt l (k + ds.length) = 59) (hlen : k + ds.length < l.length) (hf : ds.length ≤ f),
    digZ l 10 f k = k + ds.length ∧ digT l 10 f k T = dec10 ds T := by
  induction ds with
  | nil =>
    intro f k T _ h59 _ _
    have hd : digN (byteAt l k : Int) 10 < 0 := by
      rw [List.length_nil, Nat.add_zero] at h59
      rw [h59]
      exact (show digN 59 10 < 0 by rw [dig_59]; omega)
    exact ⟨digZ_out f k (.inr hd), digT_out f k T (.inr hd)⟩
  | cons d ds ih =>
    intro f k T hl h59 hlen hf
    rw [List.length_cons] at h59 hlen hf
    obtain ⟨g, rfl⟩ : ∃ g, f = g + 1 := ⟨f - 1, by omega⟩
    obtain ⟨e0, e1, e2⟩ := hl 0 (by simp)
    rw [Nat.add_zero] at e0
    have eb : byteAt (d :: ds) 0 = d.toNat := rfl
    rw [eb] at e0 e1 e2
    have hd := dig_dec e1 e2
    have hk : k < l.length := by omega
    obtain ⟨i1, i2⟩ := ih g (k + 1) (T * 10 + (d.toNat - 48)) (fun j hj => by
      have := hl (j + 1) (by simp; omega)
      rw [show k + 1 + j = k + (j + 1) by omega]
      exact this) (by rw [← h59]; congr 1; omega) (by omega) (by omega)
    constructor
    · rw [digZ_on g k hk (by rw [e0, hd]; omega), i1, List.length_cons]
      omega
    · rw [digT_on g k T hk (by rw [e0, hd]; omega), e0, hd, show ((10 : Int)).toNat = 10 from rfl, Int.toNat_natCast, i2]
      rfl
/-- A reference to a character in decimal digits, in the middle of a text. -/
theorem ch_mid (pre post ds : List UInt8) (h0 : ds ≠ []) (hl : ∀ j, j < ds.length → 48 ≤ byteAt ds j ∧ byteAt ds j ≤ 57) (hc : hasT charT ((dec10 ds 0 : Nat) : Int) = true) :
    chV (pre ++ (38 :: 35 :: ds ++ [59]) ++ post) (pre.length : Int) = .tuple #[.int .i64 ((dec10 ds 0 : Nat) : Int), .int .i64 ((pre.length + ds.length + 3 : Nat) : Int), .int .i64 0] := by
  obtain ⟨o, ho⟩ : ∃ o, pre ++ (38 :: 35 :: ds ++ [59]) ++ post = o := ⟨_, rfl⟩
  have hX : (38 :: 35 :: ds ++ [59] : List UInt8).length = ds.length + 3 := by simp
  have hlen : o.length = pre.length + (ds.length + 3) + post.length := by rw [← ho, mid_len, hX]
  have hb : ∀ j, j < ds.length + 3 → byteAt o (pre.length + j) = byteAt (38 :: 35 :: ds ++ [59]) j := fun j hj => by rw [← ho]; exact byte_mid pre _ post j (by rw [hX]; exact hj)
  have hb0 : byteAt o pre.length = 38 := by have := hb 0 (by omega); rw [Nat.add_zero] at this; rw [this]; rfl
  have hb1 : byteAt o (pre.length + 1) = 35 := by rw [hb 1 (by omega)]; rfl
  have hbn : ∀ j, j < ds.length → byteAt o (pre.length + 2 + j) = byteAt ds j := fun j hj => by
    have := hb (2 + j) (by omega)
    rw [← Nat.add_assoc] at this
    rw [this, byte_head _ _ _ (by simp; omega)]
    unfold byteAt
    rw [show 2 + j = (j + 1) + 1 by omega, List.getElem?_cons_succ, List.getElem?_cons_succ]
  have hb59 : byteAt o (pre.length + 2 + ds.length) = 59 := by
    have := hb (2 + ds.length) (by omega)
    rw [← Nat.add_assoc] at this
    rw [this]
    unfold byteAt
    rw [List.getElem?_append_right (by simp; omega)]
    simp only [List.length_cons]
    rw [show 2 + ds.length - (ds.length + 1 + 1) = 0 by omega]
    rfl
  have hn0 : 0 < ds.length := List.length_pos_iff.2 h0
  have hx : byteAt o (pre.length + 2) ≠ 120 := by
    have h1 := hbn 0 hn0
    have h2 := hl 0 hn0
    rw [Nat.add_zero] at h1
    omega
  obtain ⟨hz, hT⟩ := dig_row (l := o) ds o.length (pre.length + 2) 0 (fun j hj => ⟨hbn j hj, hl j hj⟩) hb59 (by omega) (by omega)
  rw [ho, chV, if_neg (by omega), Int.toNat_natCast, if_neg (by rw [hb0, hb1]; omega), if_neg hx]
  have e : ((pre.length + 2 + ds.length : Nat) : Int) + 1 = ((pre.length + ds.length + 3 : Nat) : Int) := by omega
  rw [← crefD_ok hz.symm hT.symm (by rw [hb59]; omega) hc, e]
end Go.Proofs.YtcpdllghlbdhiaaDoor
