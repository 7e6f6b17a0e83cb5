/- References: Char, by the program. -/
import Derived.Test.YtdmfladcldkmeaaDoorCre
import Derived.Lib.BufferRead
import Derived.Lib.SlBytesConst
namespace Go.Proofs.YtdmfladcldkmeaaDoor
open Go.ChangeShapes Go.WideShapes Go.ChangeAt Go.RowKit
set_option linter.unusedVariables false
set_option maxRecDepth 100000

theorem pre2_iff (l : List UInt8) (j : Nat) : ((l.drop j).take 2 == [38, 35]) = true ↔ j + 2 ≤ l.length ∧ byteAt l j = 38 ∧ byteAt l (j + 1) = 35 := by
  rw [beq_iff_eq]
  have e0 : byteAt l j = ((l.drop j)[0]?.getD 0).toNat := by rw [List.getElem?_drop]; rfl
  have e1 : byteAt l (j + 1) = ((l.drop j)[1]?.getD 0).toNat := by rw [List.getElem?_drop]; rfl
  have eL : (l.drop j).length = l.length - j := List.length_drop
  rw [e0, e1]
  rcases hd : l.drop j with _ | ⟨x, _ | ⟨y, r⟩⟩
  · simp
  · rw [hd] at eL
    simp at eL ⊢
    try omega
  · rw [hd] at eL
    simp at eL ⊢
    constructor
    · rintro ⟨rfl, rfl⟩; exact ⟨by omega, rfl, rfl⟩
    · rintro ⟨_, h1, h2⟩; exact ⟨UInt8.toNat_inj.1 h1, UInt8.toNat_inj.1 h2⟩
theorem crefD_7 {l : List UInt8} {b : Int} {s z : Nat} (hz : z = digZ l b l.length s) (h : z = s ∨ z = l.length ∨ byteAt l z ≠ 59) : noC 7 = crefD l b s := by
  rw [crefD, if_pos (by rw [← hz]; exact h)]
theorem crefD_6 {l : List UInt8} {b : Int} {s z T : Nat} (hz : z = digZ l b l.length s) (hT : T = digT l b l.length s 0) (h : ¬ (z = s ∨ z = l.length ∨ byteAt l z ≠ 59)) (hc : hasT charT (T : Int) = false) : noC 6 = crefD l b s := by
  rw [crefD, if_neg (by rw [← hz]; exact h), if_pos (by rw [← hT]; exact hc)]
theorem crefD_ok {l : List UInt8} {b : Int} {s z T : Nat} (hz : z = digZ l b l.length s) (hT : T = digT l b l.length s 0) (h : ¬ (z = s ∨ z = l.length ∨ byteAt l z ≠ 59)) (hc : hasT charT (T : Int) = true) :
    .tuple #[.int .i64 (T : Int), .int .i64 ((z : Nat) + 1), .int .i64 0] = crefD l b s := by
  rw [crefD, if_neg (by rw [← hz]; exact h), if_neg (by rw [← hT, hc]; simp), ← hz, ← hT]
theorem ret_v {a b : Value} (h : a = b) : Ending.returned a = .returned b := by rw [h]

/-- At a loop's head: the number that is held, and the place. -/
def DigRel (l : List UInt8) (b : Int) (n s M : Nat) (r p : Value) : Prop :=
  ∃ kk f T x : Nat, n ≤ kk + f ∧ s ≤ kk ∧ kk ≤ n ∧ x ≤ M ∧ r = .int .i64 x ∧ p = .int .i64 kk ∧ digZ l b f kk = digZ l b l.length s ∧ digT l b f kk T = digT l b l.length s 0 ∧ x = min T M
theorem digRel_mk {l : List UInt8} {b : Int} {n s M : Nat} {r p : Int} (kk f T x : Nat) (h1 : n ≤ kk + f) (h2 : s ≤ kk) (h3 : kk ≤ n) (h5 : r = x) (h6 : p = kk)
    (h7 : digZ l b f kk = digZ l b l.length s) (h8 : digT l b f kk T = digT l b l.length s 0) (h9 : x = min T M) : DigRel l b n s M (.int .i64 r) (.int .i64 p) :=
  ⟨kk, f, T, x, h1, h2, h3, by omega, by rw [h5], by rw [h6], h7, h8, h9⟩

set_option maxHeartbeats 4000000 in
theorem cchar_two (l : List UInt8) (ad : Addr) (n c j : Nat) (w W : World)
    (HN : Hid (l.length = n)) (hnc : n ≤ c) (hm : c ≤ 9223372036854775807) (hn9 : n ≤ 1000000) (hj2 : j + 2 ≤ n) (hcj : ¬ c = j)
    (HW : Hid (w.alloc (.cells #[.int .u8 38, .int .u8 35] 5 (2, 3)) = W)) (hb0 : Below w.heap.size w W) (HS : Hid (Sees W (some ad) (vB l))) (HT : Hid (TabC W))
    (HP : Hid (Calls Tryd.prog 66 #[.slice (some (ad.add j)) (n - j) (c - j), .slice (some ⟨w.heap.size, 0, none⟩) 2 2] W fun e w' => e = .returned (.bool true) ∧ W = w'))
    (hend : n ≤ j + 2) :
    Calls Tryd.prog 125 #[.slice (some ad) n c, .int .i64 (j : Int)] w fun e w' => e = .returned (noC 7) ∧ Below w.heap.size w w' := by
  have kc := fun (w : World) (C : Array Value) (n c : Nat) => Lib.run_convert_bytes_const (P := Tryd.prog) w 36 5 C n c Tryd.underlying36 Tryd.underlying5
  unfold noC
  have hno : ¬ (j + 2 < n) := by omega
  go_enter Tryd.func125, Tryd.ntmps125
  go_wp2_with fail
  go_step3
  go_wp2_with fail
  rw [HW.out]
  refine HP.out.mono ?_
  rintro e w1 ⟨rfl, rfl⟩
  go_wp2_with fail
  go_step3
  go_wp2_with fail
  go_loop [4, 9] (fun r p => r = .int .i64 0 ∧ p = .int .i64 ((j + 2 : Nat) : Int)) (fun _ _ => 0)
  case atStart => exact ⟨rfl, by go_num⟩
  case round =>
    obtain ⟨rfl, rfl⟩ := hrel
    go_wp2_with fail
    try rw [Exit.noGoto_ret]
    go_ret3
    exact ⟨rfl, hb0⟩

set_option maxHeartbeats 4000000 in
theorem cchar_16 (l : List UInt8) (ad : Addr) (n c j : Nat) (w W : World)
    (HN : Hid (l.length = n)) (hnc : n ≤ c) (hm : c ≤ 9223372036854775807) (hn9 : n ≤ 1000000) (hj2 : j + 2 ≤ n) (hcj : ¬ c = j)
    (HW : Hid (w.alloc (.cells #[.int .u8 38, .int .u8 35] 5 (2, 3)) = W)) (hb0 : Below w.heap.size w W) (HS : Hid (Sees W (some ad) (vB l))) (HT : Hid (TabC W))
    (HP : Hid (Calls Tryd.prog 66 #[.slice (some (ad.add j)) (n - j) (c - j), .slice (some ⟨w.heap.size, 0, none⟩) 2 2] W fun e w' => e = .returned (.bool true) ∧ W = w'))
    (hj3 : j + 2 < n) (b2 : Nat) (hb2l : b2 < 256) (hcell2 : W.cell? (ad.add (j + 2)) = some (.int .u8 b2)) (hx : b2 = 120) :
    Calls Tryd.prog 125 #[.slice (some ad) n c, .int .i64 (j : Int)] w fun e w' => e = .returned (crefD l 16 (j + 3)) ∧ Below w.heap.size w w' := by
  have kc := fun (w : World) (C : Array Value) (n c : Nat) => Lib.run_convert_bytes_const (P := Tryd.prog) w 36 5 C n c Tryd.underlying36 Tryd.underlying5
  have hcell3 : W.cell? { block := ad.block, off := ad.off + (j + 1 + 1) } = some (.int .u8 b2) := by
    have h := hcell2
    unfold Addr.add at h
    rw [if_neg (by omega)] at h
    exact h
  have HADD : Hid (ad.add (j + 2) = { block := ad.block, off := ad.off + (j + 1 + 1) }) := by unfold Hid Addr.add; rw [if_neg (by omega)]
  clear hcell2
  have t1 : ((b2 : Int) == 120) = true := by simp; omega
  obtain ⟨V, hV⟩ : ∃ V, crefD l 16 (j + 3) = V := ⟨_, rfl⟩
  rw [hV]
  have HV := Lib.hid hV
  clear hV hx
  have hz0 : Hid (digZ l 16 n (j + 3) = digZ l 16 l.length (j + 3)) := by unfold Hid; rw [HN.out]
  have ht0 : Hid (digT l 16 n (j + 3) 0 = digT l 16 l.length (j + 3) 0) := by unfold Hid; rw [HN.out]
  go_enter Tryd.func125, Tryd.ntmps125
  go_wp2_with fail
  go_step3
  go_wp2_with fail
  rw [HW.out]
  refine HP.out.mono ?_
  rintro e w1 ⟨rfl, rfl⟩
  go_wp2_with fail
  go_step3
  go_wp2_with fail
  rw [HADD.out]
  go_loop [4, 9] (fun r p => DigRel l 16 n (j + 3) 1114112 r p) (fun _ p => n - (intOf p).toNat)
  case atStart => exact digRel_mk (j + 3) n 0 0 (by omega) (Nat.le_refl _) (by omega) rfl (by omega) hz0.out ht0.out (by simp)
  case round =>
    obtain ⟨kk, f, T, x, hnf, hks, hkn, hx9, rfl, rfl, hZ, hTT, hX⟩ := hrel
    have HZ := Lib.hid hZ
    have HTT := Lib.hid hTT
    have HX := Lib.hid hX
    clear hZ hTT hX
    by_cases hlt : kk < n
    · obtain ⟨ad3, e3, hcell4⟩ := HS.out.byte (k := kk) (by rw [HN.out]; exact hlt)
      injection e3 with e3
      subst e3
      obtain ⟨b, hb⟩ : ∃ b, byteAt l kk = b := ⟨_, rfl⟩
      have hb256 := byteAt_lt l kk
      rw [hb] at hcell4 hb256
      obtain ⟨d, hd⟩ : ∃ d, digN (b : Int) 16 = d := ⟨_, rfl⟩
      have hdl : d < 16 := hd ▸ digN_le b 16 (by omega)
      have HD := Lib.hid (fun w => hd ▸ digit_any (b : Int) 16 w)
      have HBB := Lib.hid hb
      have HDD := Lib.hid hd
      clear hb hd
      by_cases hneg : d < 0
      · have hz1 := HZ.out
        have ht1 := HTT.out
        rw [digZ_out f kk (.inr (by rw [HBB.out, HDD.out]; exact hneg))] at hz1
        rw [digT_out f kk T (.inr (by rw [HBB.out, HDD.out]; exact hneg))] at ht1
        have Hz := Lib.hid hz1
        have Ht := Lib.hid ht1
        clear hz1 ht1
        by_cases hfirst : kk = j + 3
        · have HE := Lib.hid (crefD_7 Hz.out (.inl hfirst))
          have t3 : ((kk : Int) == (j : Int) + 2 + 1) = true := by simp; omega
          clear hfirst
          go_wp2_with fail
          refine (HD.out _).mono ?_
          rintro e w1 ⟨rfl, rfl⟩
          go_wp2_with fail
          try rw [Exit.noGoto_ret]
          go_ret3
          exact ⟨ret_v (HE.out.trans HV.out), hb0⟩
        · have t3 : ((kk : Int) == (j : Int) + 2 + 1) = false := by simp; omega
          by_cases h59 : b = 59
          · have hno : ¬ (kk = j + 3 ∨ kk = l.length ∨ byteAt l kk ≠ 59) := by rw [HN.out, HBB.out]; omega
            have hcc := char_cap 1114112 (by omega) HX.out
            have HC := fun w' (hb : Below W.heap.size W w') => char_c (x : Int) w' (HT.out.below hb)
            have t2 : ((b : Int) != 59) = false := by rw [h59]; rfl
            cases hq : hasT charT (x : Int) with
            | false =>
              rw [hq] at HC hcc
              have HE := Lib.hid (crefD_6 Hz.out Ht.out hno hcc.symm)
              have HCC := Lib.hid (HC W (Below.refl _ _))
              clear hno hcc HC hq h59
              go_wp2_with fail
              refine (HD.out _).mono ?_
              rintro e w1 ⟨rfl, rfl⟩
              go_wp2_with fail
              refine HCC.out.mono ?_
              rintro e w1 ⟨rfl, hb1⟩
              go_wp2_with fail
              try rw [Exit.noGoto_ret]
              go_ret3
              exact ⟨ret_v (HE.out.trans HV.out), hb0.trans (hb1.mono hb0.size)⟩
            | true =>
              have hxT := char_low 1114112 (by omega) HX.out hq
              rw [hq] at HC hcc
              have HE := Lib.hid (crefD_ok Hz.out Ht.out hno hcc.symm)
              rw [← hxT] at HE
              have HCC := Lib.hid (HC W (Below.refl _ _))
              clear hno hcc HC hq h59 hxT
              go_wp2_with fail
              refine (HD.out _).mono ?_
              rintro e w1 ⟨rfl, rfl⟩
              go_wp2_with fail
              refine HCC.out.mono ?_
              rintro e w1 ⟨rfl, hb1⟩
              go_wp2_with fail
              try rw [Exit.noGoto_ret]
              go_ret3
              exact ⟨ret_v (HE.out.trans HV.out), hb0.trans (hb1.mono hb0.size)⟩
          · have HE := Lib.hid (crefD_7 Hz.out (.inr (.inr (by rw [HBB.out]; exact h59))))
            have t2 : ((b : Int) != 59) = true := by simp; omega
            clear h59
            go_wp2_with fail
            refine (HD.out _).mono ?_
            rintro e w1 ⟨rfl, rfl⟩
            go_wp2_with fail
            try rw [Exit.noGoto_ret]
            go_ret3
            exact ⟨ret_v (HE.out.trans HV.out), hb0⟩
      · obtain ⟨g, rfl⟩ : ∃ g, f = g + 1 := ⟨f - 1, by omega⟩
        obtain ⟨dn, rfl⟩ : ∃ dn : Nat, d = dn := ⟨d.toNat, by omega⟩
        have hz1 := HZ.out
        have ht1 := HTT.out
        rw [digZ_on g kk (by rw [HN.out]; exact hlt) (by rw [HBB.out, HDD.out]; omega)] at hz1
        rw [digT_on g kk T (by rw [HN.out]; exact hlt) (by rw [HBB.out, HDD.out]; omega), HBB.out, HDD.out, Int.toNat_natCast] at ht1
        have Hz := Lib.hid hz1
        have Ht := Lib.hid ht1
        have HXX := Lib.hid (cap16 (d := dn) 1114112 HX.out)
        clear hz1 ht1
        by_cases hcap : x * 16 + dn ≤ 1114112
        · go_wp2_with fail
          refine (HD.out _).mono ?_
          rintro e w1 ⟨rfl, rfl⟩
          go_wp2_with fail
          all_goals
            first
            | (exfalso; omega)
            | (go_round
               case rel =>
                 refine digRel_mk (kk + 1) g (T * (16 : Int).toNat + dn) ((x * 16 + dn)) ?_ ?_ ?_ ?_ ?_ Hz.out Ht.out ?_
                 · omega
                 · omega
                 · omega
                 · omega
                 · omega
                 · have h := HXX.out
                   simp at h ⊢
                   omega
               case measure => simp [intOf]; omega)
        · go_wp2_with fail
          refine (HD.out _).mono ?_
          rintro e w1 ⟨rfl, rfl⟩
          go_wp2_with fail
          all_goals
            first
            | (exfalso; omega)
            | (go_round
               case rel =>
                 refine digRel_mk (kk + 1) g (T * (16 : Int).toNat + dn) (1114112) ?_ ?_ ?_ ?_ ?_ Hz.out Ht.out ?_
                 · omega
                 · omega
                 · omega
                 · omega
                 · omega
                 · have h := HXX.out
                   simp at h ⊢
                   omega
               case measure => simp [intOf]; omega)
    · obtain rfl : kk = n := by omega
      have hz1 := HZ.out
      rw [digZ_out f kk (.inl (by rw [HN.out]; exact Nat.le_refl _))] at hz1
      have HE := Lib.hid (crefD_7 hz1 (.inr (.inl HN.out.symm)))
      clear hz1
      by_cases hfirst : kk = j + 3
      · have t3 : ((kk : Int) == (j : Int) + 2 + 1) = true := by simp; omega
        clear hfirst
        go_wp2_with fail
        try rw [Exit.noGoto_ret]
        go_ret3
        exact ⟨ret_v (HE.out.trans HV.out), hb0⟩
      · have t3 : ((kk : Int) == (j : Int) + 2 + 1) = false := by simp; omega
        clear hfirst
        go_wp2_with fail
        try rw [Exit.noGoto_ret]
        go_ret3
        exact ⟨ret_v (HE.out.trans HV.out), hb0⟩

set_option maxHeartbeats 4000000 in
theorem cchar_10 (l : List UInt8) (ad : Addr) (n c j : Nat) (w W : World)
    (HN : Hid (l.length = n)) (hnc : n ≤ c) (hm : c ≤ 9223372036854775807) (hn9 : n ≤ 1000000) (hj2 : j + 2 ≤ n) (hcj : ¬ c = j)
    (HW : Hid (w.alloc (.cells #[.int .u8 38, .int .u8 35] 5 (2, 3)) = W)) (hb0 : Below w.heap.size w W) (HS : Hid (Sees W (some ad) (vB l))) (HT : Hid (TabC W))
    (HP : Hid (Calls Tryd.prog 66 #[.slice (some (ad.add j)) (n - j) (c - j), .slice (some ⟨w.heap.size, 0, none⟩) 2 2] W fun e w' => e = .returned (.bool true) ∧ W = w'))
    (hj3 : j + 2 < n) (b2 : Nat) (hb2l : b2 < 256) (hcell2 : W.cell? (ad.add (j + 2)) = some (.int .u8 b2)) (hx : ¬ b2 = 120) :
    Calls Tryd.prog 125 #[.slice (some ad) n c, .int .i64 (j : Int)] w fun e w' => e = .returned (crefD l 10 (j + 2)) ∧ Below w.heap.size w w' := by
  have kc := fun (w : World) (C : Array Value) (n c : Nat) => Lib.run_convert_bytes_const (P := Tryd.prog) w 36 5 C n c Tryd.underlying36 Tryd.underlying5
  have hcell3 : W.cell? { block := ad.block, off := ad.off + (j + 1 + 1) } = some (.int .u8 b2) := by
    have h := hcell2
    unfold Addr.add at h
    rw [if_neg (by omega)] at h
    exact h
  have HADD : Hid (ad.add (j + 2) = { block := ad.block, off := ad.off + (j + 1 + 1) }) := by unfold Hid Addr.add; rw [if_neg (by omega)]
  clear hcell2
  have t1 : ((b2 : Int) == 120) = false := by simp; omega
  obtain ⟨V, hV⟩ : ∃ V, crefD l 10 (j + 2) = V := ⟨_, rfl⟩
  rw [hV]
  have HV := Lib.hid hV
  clear hV hx
  have hz0 : Hid (digZ l 10 n (j + 2) = digZ l 10 l.length (j + 2)) := by unfold Hid; rw [HN.out]
  have ht0 : Hid (digT l 10 n (j + 2) 0 = digT l 10 l.length (j + 2) 0) := by unfold Hid; rw [HN.out]
  go_enter Tryd.func125, Tryd.ntmps125
  go_wp2_with fail
  go_step3
  go_wp2_with fail
  rw [HW.out]
  refine HP.out.mono ?_
  rintro e w1 ⟨rfl, rfl⟩
  go_wp2_with fail
  go_step3
  go_wp2_with fail
  rw [HADD.out]
  go_loop [4, 9] (fun r p => DigRel l 10 n (j + 2) 1114112 r p) (fun _ p => n - (intOf p).toNat)
  case atStart => exact digRel_mk (j + 2) n 0 0 (by omega) (Nat.le_refl _) (by omega) rfl (by omega) hz0.out ht0.out (by simp)
  case round =>
    obtain ⟨kk, f, T, x, hnf, hks, hkn, hx9, rfl, rfl, hZ, hTT, hX⟩ := hrel
    have HZ := Lib.hid hZ
    have HTT := Lib.hid hTT
    have HX := Lib.hid hX
    clear hZ hTT hX
    by_cases hlt : kk < n
    · obtain ⟨ad3, e3, hcell4⟩ := HS.out.byte (k := kk) (by rw [HN.out]; exact hlt)
      injection e3 with e3
      subst e3
      obtain ⟨b, hb⟩ : ∃ b, byteAt l kk = b := ⟨_, rfl⟩
      have hb256 := byteAt_lt l kk
      rw [hb] at hcell4 hb256
      obtain ⟨d, hd⟩ : ∃ d, digN (b : Int) 10 = d := ⟨_, rfl⟩
      have hdl : d < 10 := hd ▸ digN_le b 10 (by omega)
      have HD := Lib.hid (fun w => hd ▸ digit_any (b : Int) 10 w)
      have HBB := Lib.hid hb
      have HDD := Lib.hid hd
      clear hb hd
      by_cases hneg : d < 0
      · have hz1 := HZ.out
        have ht1 := HTT.out
        rw [digZ_out f kk (.inr (by rw [HBB.out, HDD.out]; exact hneg))] at hz1
        rw [digT_out f kk T (.inr (by rw [HBB.out, HDD.out]; exact hneg))] at ht1
        have Hz := Lib.hid hz1
        have Ht := Lib.hid ht1
        clear hz1 ht1
        by_cases hfirst : kk = j + 2
        · have HE := Lib.hid (crefD_7 Hz.out (.inl hfirst))
          have t3 : ((kk : Int) == (j : Int) + 2) = true := by simp; omega
          clear hfirst
          go_wp2_with fail
          refine (HD.out _).mono ?_
          rintro e w1 ⟨rfl, rfl⟩
          go_wp2_with fail
          try rw [Exit.noGoto_ret]
          go_ret3
          exact ⟨ret_v (HE.out.trans HV.out), hb0⟩
        · have t3 : ((kk : Int) == (j : Int) + 2) = false := by simp; omega
          by_cases h59 : b = 59
          · have hno : ¬ (kk = j + 2 ∨ kk = l.length ∨ byteAt l kk ≠ 59) := by rw [HN.out, HBB.out]; omega
            have hcc := char_cap 1114112 (by omega) HX.out
            have HC := fun w' (hb : Below W.heap.size W w') => char_c (x : Int) w' (HT.out.below hb)
            have t2 : ((b : Int) != 59) = false := by rw [h59]; rfl
            cases hq : hasT charT (x : Int) with
            | false =>
              rw [hq] at HC hcc
              have HE := Lib.hid (crefD_6 Hz.out Ht.out hno hcc.symm)
              have HCC := Lib.hid (HC W (Below.refl _ _))
              clear hno hcc HC hq h59
              go_wp2_with fail
              refine (HD.out _).mono ?_
              rintro e w1 ⟨rfl, rfl⟩
              go_wp2_with fail
              refine HCC.out.mono ?_
              rintro e w1 ⟨rfl, hb1⟩
              go_wp2_with fail
              try rw [Exit.noGoto_ret]
              go_ret3
              exact ⟨ret_v (HE.out.trans HV.out), hb0.trans (hb1.mono hb0.size)⟩
            | true =>
              have hxT := char_low 1114112 (by omega) HX.out hq
              rw [hq] at HC hcc
              have HE := Lib.hid (crefD_ok Hz.out Ht.out hno hcc.symm)
              rw [← hxT] at HE
              have HCC := Lib.hid (HC W (Below.refl _ _))
              clear hno hcc HC hq h59 hxT
              go_wp2_with fail
              refine (HD.out _).mono ?_
              rintro e w1 ⟨rfl, rfl⟩
              go_wp2_with fail
              refine HCC.out.mono ?_
              rintro e w1 ⟨rfl, hb1⟩
              go_wp2_with fail
              try rw [Exit.noGoto_ret]
              go_ret3
              exact ⟨ret_v (HE.out.trans HV.out), hb0.trans (hb1.mono hb0.size)⟩
          · have HE := Lib.hid (crefD_7 Hz.out (.inr (.inr (by rw [HBB.out]; exact h59))))
            have t2 : ((b : Int) != 59) = true := by simp; omega
            clear h59
            go_wp2_with fail
            refine (HD.out _).mono ?_
            rintro e w1 ⟨rfl, rfl⟩
            go_wp2_with fail
            try rw [Exit.noGoto_ret]
            go_ret3
            exact ⟨ret_v (HE.out.trans HV.out), hb0⟩
      · obtain ⟨g, rfl⟩ : ∃ g, f = g + 1 := ⟨f - 1, by omega⟩
        obtain ⟨dn, rfl⟩ : ∃ dn : Nat, d = dn := ⟨d.toNat, by omega⟩
        have hz1 := HZ.out
        have ht1 := HTT.out
        rw [digZ_on g kk (by rw [HN.out]; exact hlt) (by rw [HBB.out, HDD.out]; omega)] at hz1
        rw [digT_on g kk T (by rw [HN.out]; exact hlt) (by rw [HBB.out, HDD.out]; omega), HBB.out, HDD.out, Int.toNat_natCast] at ht1
        have Hz := Lib.hid hz1
        have Ht := Lib.hid ht1
        have HXX := Lib.hid (cap10 (d := dn) 1114112 HX.out)
        clear hz1 ht1
        by_cases hcap : x * 10 + dn ≤ 1114112
        · go_wp2_with fail
          refine (HD.out _).mono ?_
          rintro e w1 ⟨rfl, rfl⟩
          go_wp2_with fail
          all_goals
            first
            | (exfalso; omega)
            | (go_round
               case rel =>
                 refine digRel_mk (kk + 1) g (T * (10 : Int).toNat + dn) ((x * 10 + dn)) ?_ ?_ ?_ ?_ ?_ Hz.out Ht.out ?_
                 · omega
                 · omega
                 · omega
                 · omega
                 · omega
                 · have h := HXX.out
                   simp at h ⊢
                   omega
               case measure => simp [intOf]; omega)
        · go_wp2_with fail
          refine (HD.out _).mono ?_
          rintro e w1 ⟨rfl, rfl⟩
          go_wp2_with fail
          all_goals
            first
            | (exfalso; omega)
            | (go_round
               case rel =>
                 refine digRel_mk (kk + 1) g (T * (10 : Int).toNat + dn) (1114112) ?_ ?_ ?_ ?_ ?_ Hz.out Ht.out ?_
                 · omega
                 · omega
                 · omega
                 · omega
                 · omega
                 · have h := HXX.out
                   simp at h ⊢
                   omega
               case measure => simp [intOf]; omega)
    · obtain rfl : kk = n := by omega
      have hz1 := HZ.out
      rw [digZ_out f kk (.inl (by rw [HN.out]; exact Nat.le_refl _))] at hz1
      have HE := Lib.hid (crefD_7 hz1 (.inr (.inl HN.out.symm)))
      clear hz1
      by_cases hfirst : kk = j + 2
      · have t3 : ((kk : Int) == (j : Int) + 2) = true := by simp; omega
        clear hfirst
        go_wp2_with fail
        try rw [Exit.noGoto_ret]
        go_ret3
        exact ⟨ret_v (HE.out.trans HV.out), hb0⟩
      · have t3 : ((kk : Int) == (j : Int) + 2) = false := by simp; omega
        clear hfirst
        go_wp2_with fail
        try rw [Exit.noGoto_ret]
        go_ret3
        exact ⟨ret_v (HE.out.trans HV.out), hb0⟩

set_option maxHeartbeats 4000000 in
theorem cchar_any (l : List UInt8) (A : Option Addr) (n c : Nat) (k : Int) (w : World)
    (hn : l.length = n) (hnc : n ≤ c) (hm : c ≤ 9223372036854775807) (hk : I64 k) (hn9 : n ≤ 1000000) (hs : Sees w A (vB l)) (ht : TabC w) :
    Calls Tryd.prog 125 #[.slice A n c, .int .i64 k] w fun e w' => e = .returned (chV l k) ∧ Below w.heap.size w w' := by
  have hkl := hk.1
  have hkh := hk.2
  by_cases hout : k < 0 ∨ (n : Int) < k
  · have hv : chV l k = noC 3 := by rw [chV, if_pos (by rw [hn]; exact hout)]
    rw [hv]
    clear hv
    unfold noC
    rcases hout with h0 | h0
    all_goals
      go_enter Tryd.func125, Tryd.ntmps125
      go_wp2_with fail
      go_step3
      go_wp2_with fail
      try rw [Exit.noGoto_ret]
      go_ret3
      exact ⟨rfl, Below.refl _ _⟩
  · obtain ⟨j, rfl⟩ : ∃ j : Nat, k = j := ⟨k.toNat, by omega⟩
    have hj : j ≤ n := by omega
    have kc := fun (w : World) (C : Array Value) (n c : Nat) => Lib.run_convert_bytes_const (P := Tryd.prog) w 36 5 C n c Tryd.underlying36 Tryd.underlying5
    obtain ⟨W, hW⟩ : ∃ W, w.alloc (.cells #[.int .u8 38, .int .u8 35] 5 (2, 3)) = W := ⟨_, rfl⟩
    have hb0 : Below w.heap.size w W := hW ▸ (Below.refl _ w).alloc (Nat.le_refl _) _
    have hsC : Sees W (some ⟨w.heap.size, 0, none⟩) (vB [38, 35]) := hW ▸ sees_lit w (vB [38, 35]) _ _
    have hsW := hs.below hb0
    have htW : TabC W := ht.below hb0
    have HW := Lib.hid hW
    clear hW
    by_cases hjn : j = n
    · have hv : chV l j = noC 7 := by rw [chV, if_neg (by omega), Int.toNat_natCast, if_pos (.inl (by omega))]
      have H0 := Lib.hid (fun (A' : Option Addr) (c' : Nat) => hasPre_any [] [38, 35] A' (some ⟨w.heap.size, 0, none⟩) 0 2 c' 2 W rfl (by omega) (by omega) rfl (by omega) (by omega) (sees_nil _ _) hsC)
      rw [hv]
      clear hv hs hsW hsC
      unfold noC
      subst hjn
      by_cases hcj : c = j
      all_goals
        go_enter Tryd.func125, Tryd.ntmps125
        go_wp2_with fail
        go_step3
        go_wp2_with fail
        rw [HW.out]
        refine (H0.out _ _).mono ?_
        rintro e w1 ⟨rfl, rfl⟩
        go_wp2_with fail
        try rw [Exit.noGoto_ret]
        go_ret3
        exact ⟨rfl, hb0⟩
    · have hjl : j < n := by omega
      obtain ⟨ad, rfl, hcell⟩ := hs.byte (k := j) (by omega)
      have hcj : ¬ c = j := by omega
      have hsd : Sees W (some (ad.add j)) (vB (l.drop j)) := by
        have h1 := hsW.drop (k := j) (cap := c) (by rw [vB_len]; omega)
        rw [if_neg hcj, ← vB_drop] at h1
        exact h1
      have hp := hasPre_any (l.drop j) [38, 35] (some (ad.add j)) (some ⟨w.heap.size, 0, none⟩) (n - j) 2 (c - j) 2 W (by rw [List.length_drop, hn]) (by omega) (by omega) rfl (by omega) (by omega) hsd hsC
      have hpi := pre2_iff l j
      cases hq : ((l.drop j).take 2 == [38, 35]) with
      | false =>
        rw [hq] at hp hpi
        have HP := Lib.hid hp
        have hv : chV l j = noC 7 := by
          rw [chV, if_neg (by omega), Int.toNat_natCast, if_pos]
          by_cases h1 : l.length < j + 3
          · exact .inl h1
          · by_cases h2 : byteAt l j = 38
            · exact .inr (.inr fun h3 => absurd (hpi.2 ⟨by omega, h2, h3⟩) (by simp))
            · exact .inr (.inl h2)
        rw [hv]
        clear hv hs hsW hsC hsd hp hpi hq hcell
        unfold noC
        go_enter Tryd.func125, Tryd.ntmps125
        go_wp2_with fail
        go_step3
        go_wp2_with fail
        rw [HW.out]
        refine HP.out.mono ?_
        rintro e w1 ⟨rfl, rfl⟩
        go_wp2_with fail
        try rw [Exit.noGoto_ret]
        go_ret3
        exact ⟨rfl, hb0⟩
      | true =>
        rw [hq] at hp hpi
        have HP := Lib.hid hp
        obtain ⟨hj2, hb38, hb35⟩ := hpi.1 rfl
        rw [hn] at hj2
        have HN := Lib.hid hn
        have HS := Lib.hid hsW
        have HT := Lib.hid htW
        by_cases hend : n = j + 2
        · have hv : chV l j = noC 7 := by rw [chV, if_neg (by omega), Int.toNat_natCast, if_pos (.inl (by omega))]
          rw [hv]
          exact cchar_two l ad n c j w W HN hnc hm hn9 hj2 hcj HW hb0 HS HT HP (by omega)
        · obtain ⟨b2, hb2⟩ : ∃ b2, byteAt l (j + 2) = b2 := ⟨_, rfl⟩
          obtain ⟨ad2, e2, hcell2⟩ := hsW.byte (k := j + 2) (by omega)
          injection e2 with e2
          subst e2
          have hb2l := byteAt_lt l (j + 2)
          rw [hb2] at hcell2 hb2l
          have hv : chV l j = if b2 = 120 then crefD l 16 (j + 3) else crefD l 10 (j + 2) := by
            rw [chV, if_neg (by omega), Int.toNat_natCast, if_neg (by rw [hb38, hb35]; omega), hb2]
          rw [hv]
          by_cases hx : b2 = 120
          · rw [if_pos hx]
            exact cchar_16 l ad n c j w W HN hnc hm hn9 hj2 hcj HW hb0 HS HT HP (by omega) b2 hb2l hcell2 hx
          · rw [if_neg hx]
            exact cchar_10 l ad n c j w W HN hnc hm hn9 hj2 hcj HW hb0 HS HT HP (by omega) b2 hb2l hcell2 hx
end Go.Proofs.YtdmfladcldkmeaaDoor
