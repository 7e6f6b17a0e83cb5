/- References: Char, by the document. -/
import Derived.Test.YtdmfladcldkmeaaDoorCrf
namespace Go.Proofs.YtdmfladcldkmeaaDoor
open Go.ChangeShapes Go.WideShapes Go.ChangeAt Go.RowKit
set_option linter.unusedVariables false
set_option maxRecDepth 100000

theorem cap10d {T x d : Nat} (h : x = min T 2000000) : min (x * 10 + d) 2000000 = min (T * 10 + d) 2000000 := cap10 _ h
theorem cap16d {T x d : Nat} (h : x = min T 2000000) : min (x * 16 + d) 2000000 = min (T * 16 + d) 2000000 := cap16 _ h
theorem add1_at (ad : Addr) (j : Nat) : ad.add (j + 1) = { block := ad.block, off := ad.off + (j + 1) } := by unfold Addr.add; rw [if_neg (by omega)]
theorem add2_at (ad : Addr) (j : Nat) : ad.add (j + 2) = { block := ad.block, off := ad.off + (j + 1 + 1) } := by unfold Addr.add; rw [if_neg (by omega)]

set_option maxHeartbeats 4000000 in
theorem rchar_16 (l : List UInt8) (ad : Addr) (n c j : Nat) (w : World)
    (HN : Hid (l.length = n)) (hnc : n ≤ c) (hm : c ≤ 9223372036854775807) (hn9 : n ≤ 1000000) (HS : Hid (Sees w (some ad) (vB l))) (hj3 : j + 2 < n)
    (h0 : w.cell? (ad.add j) = some (.int .u8 38)) (h1 : w.cell? { block := ad.block, off := ad.off + (j + 1) } = some (.int .u8 35))
    (b2 : Nat) (hb2l : b2 < 256) (h2 : w.cell? { block := ad.block, off := ad.off + (j + 1 + 1) } = some (.int .u8 b2)) (hx : b2 = 120) :
    Calls Tryd.prog 90 #[.slice (some ad) n c, .int .i64 (j : Int)] w fun e w' => e = .returned (crefD l 16 (j + 3)) ∧ w = w' := by
  have t1 : ((b2 : Int) == 120) = true := by simp; omega
  have t0 : decide ((n : Int) - (j : Int) < 3) = false := by simp; omega
  have HA1 := Lib.hid (add1_at ad j)
  have HA2 := Lib.hid (add2_at ad j)
  obtain ⟨V, hV⟩ : ∃ V, crefD l 16 (j + 3) = V := ⟨_, rfl⟩
  rw [hV]
  have HV := Lib.hid hV
  clear hV hx
  have hz0 : Hid (digZ l 16 n (j + 3) = digZ l 16 l.length (j + 3)) := by unfold Hid; rw [HN.out]
  have ht0 : Hid (digT l 16 n (j + 3) 0 = digT l 16 l.length (j + 3) 0) := by unfold Hid; rw [HN.out]
  go_enter Tryd.func90, Tryd.ntmps90
  go_wp2_with fail
  try rw [HA1.out]
  try rw [HA2.out]
  have d2 : decide (n < j) = false := by simp; omega
  simp only [d2, Bool.or_false]
  clear d2
  go_loop [9, 10] (fun r p => DigRel l 16 n (j + 3) 2000000 r p) (fun _ p => n - (intOf p).toNat)
  case atStart => exact digRel_mk (j + 3) n 0 0 (by omega) (Nat.le_refl _) (by omega) rfl (by omega) hz0.out ht0.out (by simp)
  case round =>
    obtain ⟨kk, f, T, x, hnf, hks, hkn, hx9, rfl, rfl, hZ, hTT, hX⟩ := hrel
    have HZ := Lib.hid hZ
    have HTT := Lib.hid hTT
    have HX := Lib.hid hX
    clear hZ hTT hX
    by_cases hlt : kk < n
    · obtain ⟨ad3, e3, hcell4⟩ := HS.out.byte (k := kk) (by rw [HN.out]; exact hlt)
      injection e3 with e3
      subst e3
      obtain ⟨b, hb⟩ : ∃ b, byteAt l kk = b := ⟨_, rfl⟩
      have hb256 := byteAt_lt l kk
      rw [hb] at hcell4 hb256
      obtain ⟨d, hd⟩ : ∃ d, digN (b : Int) 16 = d := ⟨_, rfl⟩
      have hdl : d < 16 := hd ▸ digN_le b 16 (by omega)
      have HD := Lib.hid (fun w => hd ▸ rdigit_any (b : Int) 16 w)
      have HBB := Lib.hid hb
      have HDD := Lib.hid hd
      clear hb hd
      by_cases hneg : d < 0
      · have hz1 := HZ.out
        have ht1 := HTT.out
        rw [digZ_out f kk (.inr (by rw [HBB.out, HDD.out]; exact hneg))] at hz1
        rw [digT_out f kk T (.inr (by rw [HBB.out, HDD.out]; exact hneg))] at ht1
        have Hz := Lib.hid hz1
        have Ht := Lib.hid ht1
        clear hz1 ht1
        by_cases hfirst : kk = j + 3
        · have HE := Lib.hid (crefD_7 Hz.out (.inl hfirst))
          have t3 : ((kk : Int) == (j : Int) + 3) = true := by simp; omega
          clear hfirst
          go_wp2_with fail
          refine (HD.out _).mono ?_
          rintro e w1 ⟨rfl, rfl⟩
          go_wp2_with fail
          go_ret3
          exact ⟨ret_v (HE.out.trans HV.out), rfl⟩
        · have t3 : ((kk : Int) == (j : Int) + 3) = false := by simp; omega
          by_cases h59 : b = 59
          · have hno : ¬ (kk = j + 3 ∨ kk = l.length ∨ byteAt l kk ≠ 59) := by rw [HN.out, HBB.out]; omega
            have hcc := char_cap 2000000 (by omega) HX.out
            have HC := rchar3_any (x : Int) w
            have t2 : ((b : Int) != 59) = false := by rw [h59]; rfl
            cases hq : hasT charT (x : Int) with
            | false =>
              rw [hq] at HC hcc
              have HE := Lib.hid (crefD_6 Hz.out Ht.out hno hcc.symm)
              have HCC := Lib.hid HC
              clear hno hcc HC hq h59
              go_wp2_with fail
              refine (HD.out _).mono ?_
              rintro e w1 ⟨rfl, rfl⟩
              go_wp2_with fail
              refine HCC.out.mono ?_
              rintro e w1 ⟨rfl, rfl⟩
              go_wp2_with fail
              go_ret3
              exact ⟨ret_v (HE.out.trans HV.out), rfl⟩
            | true =>
              have hxT := char_low 2000000 (by omega) HX.out hq
              rw [hq] at HC hcc
              have HE := Lib.hid (crefD_ok Hz.out Ht.out hno hcc.symm)
              rw [← hxT] at HE
              have HCC := Lib.hid HC
              clear hno hcc HC hq h59 hxT
              go_wp2_with fail
              refine (HD.out _).mono ?_
              rintro e w1 ⟨rfl, rfl⟩
              go_wp2_with fail
              refine HCC.out.mono ?_
              rintro e w1 ⟨rfl, rfl⟩
              go_wp2_with fail
              go_ret3
              exact ⟨ret_v (HE.out.trans HV.out), rfl⟩
          · have HE := Lib.hid (crefD_7 Hz.out (.inr (.inr (by rw [HBB.out]; exact h59))))
            have t2 : ((b : Int) != 59) = true := by simp; omega
            clear h59
            go_wp2_with fail
            refine (HD.out _).mono ?_
            rintro e w1 ⟨rfl, rfl⟩
            go_wp2_with fail
            go_ret3
            exact ⟨ret_v (HE.out.trans HV.out), rfl⟩
      · obtain ⟨g, rfl⟩ : ∃ g, f = g + 1 := ⟨f - 1, by omega⟩
        obtain ⟨dn, rfl⟩ : ∃ dn : Nat, d = dn := ⟨d.toNat, by omega⟩
        have hz1 := HZ.out
        have ht1 := HTT.out
        rw [digZ_on g kk (by rw [HN.out]; exact hlt) (by rw [HBB.out, HDD.out]; omega)] at hz1
        rw [digT_on g kk T (by rw [HN.out]; exact hlt) (by rw [HBB.out, HDD.out]; omega), HBB.out, HDD.out, Int.toNat_natCast] at ht1
        have Hz := Lib.hid hz1
        have Ht := Lib.hid ht1
        have HXX := Lib.hid (cap16d (d := dn) HX.out)
        clear hz1 ht1
        by_cases hcap : x * 16 + dn ≤ 2000000
        · go_wp2_with fail
          refine (HD.out _).mono ?_
          rintro e w1 ⟨rfl, rfl⟩
          go_wp2_with fail
          refine (HD.out _).mono ?_
          rintro e w1 ⟨rfl, rfl⟩
          go_wp2_with fail
          all_goals
            first
            | (exfalso; omega)
            | (go_round
               case rel =>
                 refine digRel_mk (kk + 1) g (T * (16 : Int).toNat + dn) (x * 16 + dn) ?_ ?_ ?_ ?_ ?_ Hz.out Ht.out ?_
                 · omega
                 · omega
                 · omega
                 · omega
                 · omega
                 · have h := HXX.out
                   simp at h ⊢
                   omega
               case measure => simp [intOf]; omega)
        · go_wp2_with fail
          refine (HD.out _).mono ?_
          rintro e w1 ⟨rfl, rfl⟩
          go_wp2_with fail
          refine (HD.out _).mono ?_
          rintro e w1 ⟨rfl, rfl⟩
          go_wp2_with fail
          all_goals
            first
            | (exfalso; omega)
            | (go_round
               case rel =>
                 refine digRel_mk (kk + 1) g (T * (16 : Int).toNat + dn) 2000000 ?_ ?_ ?_ ?_ ?_ Hz.out Ht.out ?_
                 · omega
                 · omega
                 · omega
                 · omega
                 · omega
                 · have h := HXX.out
                   simp at h ⊢
                   omega
               case measure => simp [intOf]; omega)
    · obtain rfl : kk = n := by omega
      have hz1 := HZ.out
      rw [digZ_out f kk (.inl (by rw [HN.out]; exact Nat.le_refl _))] at hz1
      have HE := Lib.hid (crefD_7 hz1 (.inr (.inl HN.out.symm)))
      clear hz1
      by_cases hfirst : kk = j + 3
      · have t3 : ((kk : Int) == (j : Int) + 3) = true := by simp; omega
        clear hfirst
        go_wp2_with fail
        go_ret3
        exact ⟨ret_v (HE.out.trans HV.out), rfl⟩
      · have t3 : ((kk : Int) == (j : Int) + 3) = false := by simp; omega
        clear hfirst
        go_wp2_with fail
        go_ret3
        exact ⟨ret_v (HE.out.trans HV.out), rfl⟩

set_option maxHeartbeats 4000000 in
theorem rchar_10 (l : List UInt8) (ad : Addr) (n c j : Nat) (w : World)
    (HN : Hid (l.length = n)) (hnc : n ≤ c) (hm : c ≤ 9223372036854775807) (hn9 : n ≤ 1000000) (HS : Hid (Sees w (some ad) (vB l))) (hj3 : j + 2 < n)
    (h0 : w.cell? (ad.add j) = some (.int .u8 38)) (h1 : w.cell? { block := ad.block, off := ad.off + (j + 1) } = some (.int .u8 35))
    (b2 : Nat) (hb2l : b2 < 256) (h2 : w.cell? { block := ad.block, off := ad.off + (j + 1 + 1) } = some (.int .u8 b2)) (hx : ¬ b2 = 120) :
    Calls Tryd.prog 90 #[.slice (some ad) n c, .int .i64 (j : Int)] w fun e w' => e = .returned (crefD l 10 (j + 2)) ∧ w = w' := by
  have t1 : ((b2 : Int) == 120) = false := by simp; omega
  have t0 : decide ((n : Int) - (j : Int) < 3) = false := by simp; omega
  have HA1 := Lib.hid (add1_at ad j)
  have HA2 := Lib.hid (add2_at ad j)
  obtain ⟨V, hV⟩ : ∃ V, crefD l 10 (j + 2) = V := ⟨_, rfl⟩
  rw [hV]
  have HV := Lib.hid hV
  clear hV hx
  have hz0 : Hid (digZ l 10 n (j + 2) = digZ l 10 l.length (j + 2)) := by unfold Hid; rw [HN.out]
  have ht0 : Hid (digT l 10 n (j + 2) 0 = digT l 10 l.length (j + 2) 0) := by unfold Hid; rw [HN.out]
  go_enter Tryd.func90, Tryd.ntmps90
  go_wp2_with fail
  try rw [HA1.out]
  try rw [HA2.out]
  have d2 : decide (n < j) = false := by simp; omega
  simp only [d2, Bool.or_false]
  clear d2
  go_loop [9, 10] (fun r p => DigRel l 10 n (j + 2) 2000000 r p) (fun _ p => n - (intOf p).toNat)
  case atStart => exact digRel_mk (j + 2) n 0 0 (by omega) (Nat.le_refl _) (by omega) rfl (by omega) hz0.out ht0.out (by simp)
  case round =>
    obtain ⟨kk, f, T, x, hnf, hks, hkn, hx9, rfl, rfl, hZ, hTT, hX⟩ := hrel
    have HZ := Lib.hid hZ
    have HTT := Lib.hid hTT
    have HX := Lib.hid hX
    clear hZ hTT hX
    by_cases hlt : kk < n
    · obtain ⟨ad3, e3, hcell4⟩ := HS.out.byte (k := kk) (by rw [HN.out]; exact hlt)
      injection e3 with e3
      subst e3
      obtain ⟨b, hb⟩ : ∃ b, byteAt l kk = b := ⟨_, rfl⟩
      have hb256 := byteAt_lt l kk
      rw [hb] at hcell4 hb256
      obtain ⟨d, hd⟩ : ∃ d, digN (b : Int) 10 = d := ⟨_, rfl⟩
      have hdl : d < 10 := hd ▸ digN_le b 10 (by omega)
      have HD := Lib.hid (fun w => hd ▸ rdigit_any (b : Int) 10 w)
      have HBB := Lib.hid hb
      have HDD := Lib.hid hd
      clear hb hd
      by_cases hneg : d < 0
      · have hz1 := HZ.out
        have ht1 := HTT.out
        rw [digZ_out f kk (.inr (by rw [HBB.out, HDD.out]; exact hneg))] at hz1
        rw [digT_out f kk T (.inr (by rw [HBB.out, HDD.out]; exact hneg))] at ht1
        have Hz := Lib.hid hz1
        have Ht := Lib.hid ht1
        clear hz1 ht1
        by_cases hfirst : kk = j + 2
        · have HE := Lib.hid (crefD_7 Hz.out (.inl hfirst))
          have t3 : ((kk : Int) == (j : Int) + 2) = true := by simp; omega
          clear hfirst
          go_wp2_with fail
          refine (HD.out _).mono ?_
          rintro e w1 ⟨rfl, rfl⟩
          go_wp2_with fail
          go_ret3
          exact ⟨ret_v (HE.out.trans HV.out), rfl⟩
        · have t3 : ((kk : Int) == (j : Int) + 2) = false := by simp; omega
          by_cases h59 : b = 59
          · have hno : ¬ (kk = j + 2 ∨ kk = l.length ∨ byteAt l kk ≠ 59) := by rw [HN.out, HBB.out]; omega
            have hcc := char_cap 2000000 (by omega) HX.out
            have HC := rchar3_any (x : Int) w
            have t2 : ((b : Int) != 59) = false := by rw [h59]; rfl
            cases hq : hasT charT (x : Int) with
            | false =>
              rw [hq] at HC hcc
              have HE := Lib.hid (crefD_6 Hz.out Ht.out hno hcc.symm)
              have HCC := Lib.hid HC
              clear hno hcc HC hq h59
              go_wp2_with fail
              refine (HD.out _).mono ?_
              rintro e w1 ⟨rfl, rfl⟩
              go_wp2_with fail
              refine HCC.out.mono ?_
              rintro e w1 ⟨rfl, rfl⟩
              go_wp2_with fail
              go_ret3
              exact ⟨ret_v (HE.out.trans HV.out), rfl⟩
            | true =>
              have hxT := char_low 2000000 (by omega) HX.out hq
              rw [hq] at HC hcc
              have HE := Lib.hid (crefD_ok Hz.out Ht.out hno hcc.symm)
              rw [← hxT] at HE
              have HCC := Lib.hid HC
              clear hno hcc HC hq h59 hxT
              go_wp2_with fail
              refine (HD.out _).mono ?_
              rintro e w1 ⟨rfl, rfl⟩
              go_wp2_with fail
              refine HCC.out.mono ?_
              rintro e w1 ⟨rfl, rfl⟩
              go_wp2_with fail
              go_ret3
              exact ⟨ret_v (HE.out.trans HV.out), rfl⟩
          · have HE := Lib.hid (crefD_7 Hz.out (.inr (.inr (by rw [HBB.out]; exact h59))))
            have t2 : ((b : Int) != 59) = true := by simp; omega
            clear h59
            go_wp2_with fail
            refine (HD.out _).mono ?_
            rintro e w1 ⟨rfl, rfl⟩
            go_wp2_with fail
            go_ret3
            exact ⟨ret_v (HE.out.trans HV.out), rfl⟩
      · obtain ⟨g, rfl⟩ : ∃ g, f = g + 1 := ⟨f - 1, by omega⟩
        obtain ⟨dn, rfl⟩ : ∃ dn : Nat, d = dn := ⟨d.toNat, by omega⟩
        have hz1 := HZ.out
        have ht1 := HTT.out
        rw [digZ_on g kk (by rw [HN.out]; exact hlt) (by rw [HBB.out, HDD.out]; omega)] at hz1
        rw [digT_on g kk T (by rw [HN.out]; exact hlt) (by rw [HBB.out, HDD.out]; omega), HBB.out, HDD.out, Int.toNat_natCast] at ht1
        have Hz := Lib.hid hz1
        have Ht := Lib.hid ht1
        have HXX := Lib.hid (cap10d (d := dn) HX.out)
        clear hz1 ht1
        by_cases hcap : x * 10 + dn ≤ 2000000
        · go_wp2_with fail
          refine (HD.out _).mono ?_
          rintro e w1 ⟨rfl, rfl⟩
          go_wp2_with fail
          refine (HD.out _).mono ?_
          rintro e w1 ⟨rfl, rfl⟩
          go_wp2_with fail
          all_goals
            first
            | (exfalso; omega)
            | (go_round
               case rel =>
                 refine digRel_mk (kk + 1) g (T * (10 : Int).toNat + dn) (x * 10 + dn) ?_ ?_ ?_ ?_ ?_ Hz.out Ht.out ?_
                 · omega
                 · omega
                 · omega
                 · omega
                 · omega
                 · have h := HXX.out
                   simp at h ⊢
                   omega
               case measure => simp [intOf]; omega)
        · go_wp2_with fail
          refine (HD.out _).mono ?_
          rintro e w1 ⟨rfl, rfl⟩
          go_wp2_with fail
          refine (HD.out _).mono ?_
          rintro e w1 ⟨rfl, rfl⟩
          go_wp2_with fail
          all_goals
            first
            | (exfalso; omega)
            | (go_round
               case rel =>
                 refine digRel_mk (kk + 1) g (T * (10 : Int).toNat + dn) 2000000 ?_ ?_ ?_ ?_ ?_ Hz.out Ht.out ?_
                 · omega
                 · omega
                 · omega
                 · omega
                 · omega
                 · have h := HXX.out
                   simp at h ⊢
                   omega
               case measure => simp [intOf]; omega)
    · obtain rfl : kk = n := by omega
      have hz1 := HZ.out
      rw [digZ_out f kk (.inl (by rw [HN.out]; exact Nat.le_refl _))] at hz1
      have HE := Lib.hid (crefD_7 hz1 (.inr (.inl HN.out.symm)))
      clear hz1
      by_cases hfirst : kk = j + 2
      · have t3 : ((kk : Int) == (j : Int) + 2) = true := by simp; omega
        clear hfirst
        go_wp2_with fail
        go_ret3
        exact ⟨ret_v (HE.out.trans HV.out), rfl⟩
      · have t3 : ((kk : Int) == (j : Int) + 2) = false := by simp; omega
        clear hfirst
        go_wp2_with fail
        go_ret3
        exact ⟨ret_v (HE.out.trans HV.out), rfl⟩

set_option maxHeartbeats 4000000 in
theorem rchar6_any (l : List UInt8) (A : Option Addr) (n c : Nat) (k : Int) (w : World)
    (hn : l.length = n) (hnc : n ≤ c) (hm : c ≤ 9223372036854775807) (hk : I64 k) (hn9 : n ≤ 1000000) (hs : Sees w A (vB l)) :
    Calls Tryd.prog 90 #[.slice A n c, .int .i64 k] w fun e w' => e = .returned (chV l k) ∧ w = w' := by
  have hkl := hk.1
  have hkh := hk.2
  by_cases hout : k < 0 ∨ (n : Int) < k
  · have hv : chV l k = noC 3 := by rw [chV, if_pos (by rw [hn]; exact hout)]
    rw [hv]
    clear hv
    unfold noC
    rcases hout with h0 | h0
    all_goals
      go_enter Tryd.func90, Tryd.ntmps90
      go_wp2_with fail
      go_ret3
      exact ⟨rfl, rfl⟩
  · obtain ⟨j, rfl⟩ : ∃ j : Nat, k = j := ⟨k.toNat, by omega⟩
    have hj : j ≤ n := by omega
    by_cases hshort : n < j + 3
    · have hv : chV l j = noC 7 := by rw [chV, if_neg (by omega), Int.toNat_natCast, if_pos (.inl (by omega))]
      have t0 : decide ((n : Int) - (j : Int) < 3) = true := by simp; omega
      rw [hv]
      clear hv hs hn
      unfold noC
      go_enter Tryd.func90, Tryd.ntmps90
      go_wp2_with fail
      go_ret3
      exact ⟨rfl, rfl⟩
    · have t0 : decide ((n : Int) - (j : Int) < 3) = false := by simp; omega
      have hjl : j < n := by omega
      obtain ⟨ad, rfl, h0⟩ := hs.byte (k := j) (by omega)
      obtain ⟨ad1, e1, h1⟩ := hs.byte (k := j + 1) (by omega)
      injection e1 with e1
      subst e1
      obtain ⟨ad2, e2, h2⟩ := hs.byte (k := j + 2) (by omega)
      injection e2 with e2
      subst e2
      rw [add1_at] at h1
      rw [add2_at] at h2
      obtain ⟨b0, hb0⟩ : ∃ b0, byteAt l j = b0 := ⟨_, rfl⟩
      obtain ⟨b1, hb1⟩ : ∃ b1, byteAt l (j + 1) = b1 := ⟨_, rfl⟩
      obtain ⟨b2, hb2⟩ : ∃ b2, byteAt l (j + 2) = b2 := ⟨_, rfl⟩
      have g0 := byteAt_lt l j
      have g1 := byteAt_lt l (j + 1)
      have g2 := byteAt_lt l (j + 2)
      rw [hb0] at h0 g0
      rw [hb1] at h1 g1
      rw [hb2] at h2 g2
      have hv : chV l j = if b0 ≠ 38 ∨ b1 ≠ 35 then noC 7 else if b2 = 120 then crefD l 16 (j + 3) else crefD l 10 (j + 2) := by
        rw [chV, if_neg (by omega), Int.toNat_natCast, hb0, hb1, hb2]
        by_cases hh : b0 ≠ 38 ∨ b1 ≠ 35
        · rw [if_pos (.inr hh), if_pos hh]
        · rw [if_neg (by omega), if_neg hh]
      rw [hv]
      clear hv hb0 hb1 hb2
      by_cases q0 : b0 = 38
      · by_cases q1 : b1 = 35
        · subst q0 q1
          rw [if_neg (by omega)]
          have HN := Lib.hid hn
          have HS := Lib.hid hs
          by_cases q2 : b2 = 120
          · rw [if_pos q2]
            exact rchar_16 l ad n c j w HN hnc hm hn9 HS (by omega) h0 h1 b2 g2 h2 q2
          · rw [if_neg q2]
            exact rchar_10 l ad n c j w HN hnc hm hn9 HS (by omega) h0 h1 b2 g2 h2 q2
        · rw [if_pos (.inr q1)]
          subst q0
          have t1 : ((b1 : Int) != 35) = true := by simp; omega
          clear hs hn q1
          unfold noC
          go_enter Tryd.func90, Tryd.ntmps90
          go_wp2_with fail
          go_ret3
          exact ⟨rfl, rfl⟩
      · rw [if_pos (.inl q0)]
        have t1 : ((b0 : Int) != 38) = true := by simp; omega
        clear hs hn q0
        unfold noC
        go_enter Tryd.func90, Tryd.ntmps90
        go_wp2_with fail
        go_ret3
        exact ⟨rfl, rfl⟩
end Go.Proofs.YtdmfladcldkmeaaDoor
