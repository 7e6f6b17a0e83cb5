/- References: Char, by the program. Escaped texts, taken apart: what a reference to a character or to an entity is in the middle of a text. References: Entity and Param; which names are always known, by the document. Escaped texts: what stands at the place to which a byte comes. References: Char, by the document. -/
import Derived.Lib.BufferRead
import Derived.Lib.SlBytesConst
import Derived.Test.YtdmfladcldkmeaaDoorPkae
import Derived.Test.YtdmfladcldkmeaaDoorPkaf
import Derived.Test.YtdmfladcldkmeaaDoorPkag
namespace Go.Proofs.YtdmfladcldkmeaaDoor
open Go.ChangeShapes Go.WideShapes Go.ChangeAt Go.RowKit
set_option linter.unusedVariables false
set_option maxRecDepth 100000

theorem pre2_iff (l : List UInt8) (j : Nat) : ((l.drop j).take 2 == [38, 35]) = true ↔ j + 2 ≤ l.length ∧ byteAt l j = 38 ∧ byteAt l (j + 1) = 35 := by
  rw [beq_iff_eq]
  have e0 : byteAt l j = ((l.drop j)[0]?.getD 0).toNat := by rw [List.getElem?_drop]; rfl
  have e1 : byteAt l (j + 1) = ((l.drop j)[1]?.getD 0).toNat := by rw [List.getElem?_drop]; rfl
  have eL : (l.drop j).length = l.length - j := List.length_drop
  rw [e0, e1]
  rcases hd : l.drop j with _ | ⟨x, _ | ⟨y, r⟩⟩
  · simp
  · rw [hd] at eL
    simp at eL ⊢
    try omega
  · rw [hd] at eL
    simp at eL ⊢
    constructor
    · rintro ⟨rfl, rfl⟩; exact ⟨by omega, rfl, rfl⟩
    · rintro ⟨_, h1, h2⟩; exact ⟨UInt8.toNat_inj.1 h1, UInt8.toNat_inj.1 h2⟩
theorem crefD_7 {l : List UInt8} {b : Int} {s z : Nat} (hz : z = digZ l b l.length s) (h : z = s ∨ z = l.length ∨ byteAt l z ≠ 59) : noC 7 = crefD l b s := by
  rw [crefD, if_pos (by rw [← hz]; exact h)]
theorem crefD_6 {l : List UInt8} {b : Int} {s z T : Nat} (hz : z = digZ l b l.length s) (hT : T = digT l b l.length s 0) (h : ¬ (z = s ∨ z = l.length ∨ byteAt l z ≠ 59)) (hc : hasT charT (T : Int) = false) : noC 6 = crefD l b s := by
  rw [crefD, if_neg (by rw [← hz]; exact h), if_pos (by rw [← hT]; exact hc)]
theorem crefD_ok {l : List UInt8} {b : Int} {s z T : Nat} (hz : z = digZ l b l.length s) (hT : T = digT l b l.length s 0) (h : ¬ (z = s ∨ z = l.length ∨ byteAt l z ≠ 59)) (hc : hasT charT (T : Int) = true) :
    .tuple #[.int .i64 (T : Int), .int .i64 ((z : Nat) + 1), .int .i64 0] = crefD l b s := by
  rw [crefD, if_neg (by rw [← hz]; exact h), if_neg (by rw [← hT, hc]; simp), ← hz, ← hT]
theorem ret_v {a b : Value} (h : a = b) : Ending.returned a = .returned b := by rw [h]

/-- At a loop's head: the number that is held, and the place. -/
def DigRel (l : List UInt8) (b : Int) (n s M : Nat) (r p : Value) : Prop :=
  ∃ kk f T x : Nat, n ≤ kk + f ∧ s ≤ kk ∧ kk ≤ n ∧ x ≤ M ∧ r = .int .i64 x ∧ p = .int .i64 kk ∧ digZ l b f kk = digZ l b l.length s ∧ digT l b f kk T = digT l b l.length s 0 ∧ x = min T M
theorem digRel_mk {l : List UInt8} {b : Int} {n s M : Nat} {r p : Int} (kk f T x : Nat) (h1 : n ≤ kk + f) (h2 : s ≤ kk) (h3 : kk ≤ n) (h5 : r = x) (h6 : p = kk)
    (h7 : digZ l b f kk = digZ l b l.length s) (h8 : digT l b f kk T = digT l b l.length s 0) (h9 : x = min T M) : DigRel l b n s M (.int .i64 r) (.int .i64 p) :=
  ⟨kk, f, T, x, h1, h2, h3, by omega, by rw [h5], by rw [h6], h7, h8, h9⟩

set_option maxHeartbeats 4000000 in
theorem cchar_two (l : List UInt8) (ad : Addr) (n c j : Nat) (w W : World)
    (HN : Hid (l.length = n)) (hnc : n ≤ c) (hm : c ≤ 9223372036854775807) (hn9 : n ≤ 1000000) (hj2 : j + 2 ≤ n) (hcj : ¬ c = j)
    (HW : Hid (w.alloc (.cells #[.int .u8 38, .int .u8 35] 5 (2, 3)) = W)) (hb0 : Below w.heap.size w W) (HS : Hid (Sees W (some ad) (vB l))) (HT : Hid (TabC W))
    (HP : Hid (Calls Tryd.prog 66 #[.slice (some (ad.add j)) (n - j) (c - j), .slice (some ⟨w.heap.size, 0, none⟩) 2 2] W fun e w' => e = .returned (.bool true) ∧ W = w'))
    (hend : n ≤ j + 2) :
    Calls Tryd.prog 125 #[.slice (some ad) n c, .int .i64 (j : Int)] w fun e w' => e = .returned (noC 7) ∧ Below w.heap.size w w' := by
  have kc := fun (w : World) (C : Array Value) (n c : Nat) => Lib.run_convert_bytes_const (P := Tryd.prog) w 36 5 C n c Tryd.underlying36 Tryd.underlying5
  unfold noC
  have hno : ¬ (j + 2 < n) := by omega
  go_enter Tryd.func125, Tryd.ntmps125
  go_wp2_with fail
  go_step3
  go_wp2_with fail
  rw [HW.out]
  refine HP.out.mono ?_
  rintro e w1 ⟨rfl, rfl⟩
  go_wp2_with fail
  go_step3
  go_wp2_with fail
  go_loop [4, 9] (fun r p => r = .int .i64 0 ∧ p = .int .i64 ((j + 2 : Nat) : Int)) (fun _ _ => 0)
  case atStart => exact ⟨rfl, by go_num⟩
  case round =>
    obtain ⟨rfl, rfl⟩ := hrel
    go_wp2_with fail
    try rw [Exit.noGoto_ret]
    go_ret3
    exact ⟨rfl, hb0⟩

set_option maxHeartbeats 4000000 in
theorem cchar_16 (l : List UInt8) (ad : Addr) (n c j : Nat) (w W : World)
    (HN : Hid (l.length = n)) (hnc : n ≤ c) (hm : c ≤ 9223372036854775807) (hn9 : n ≤ 1000000) (hj2 : j + 2 ≤ n) (hcj : ¬ c = j)
    (HW : Hid (w.alloc (.cells #[.int .u8 38, .int .u8 35] 5 (2, 3)) = W)) (hb0 : Below w.heap.size w W) (HS : Hid (Sees W (some ad) (vB l))) (HT : Hid (TabC W))
    (HP : Hid (Calls Tryd.prog 66 #[.slice (some (ad.add j)) (n - j) (c - j), .slice (some ⟨w.heap.size, 0, none⟩) 2 2] W fun e w' => e = .returned (.bool true) ∧ W = w'))
    (hj3 : j + 2 < n) (b2 : Nat) (hb2l : b2 < 256) (hcell2 : W.cell? (ad.add (j + 2)) = some (.int .u8 b2)) (hx : b2 = 120) :
    Calls Tryd.prog 125 #[.slice (some ad) n c, .int .i64 (j : Int)] w fun e w' => e = .returned (crefD l 16 (j + 3)) ∧ Below w.heap.size w w' := by
  have kc := fun (w : World) (C : Array Value) (n c : Nat) => Lib.run_convert_bytes_const (P := Tryd.prog) w 36 5 C n c Tryd.underlying36 Tryd.underlying5
  have hcell3 : W.cell? { block := ad.block, off := ad.off + (j + 1 + 1) } = some (.int .u8 b2) := by
    have h := hcell2
    unfold Addr.add at h
    rw [if_neg (by omega)] at h
    exact h
  have HADD : Hid (ad.add (j + 2) = { block := ad.block, off := ad.off + (j + 1 + 1) }) := by unfold Hid Addr.add; rw [if_neg (by omega)]
  clear hcell2
  have t1 : ((b2 : Int) == 120) = true := by simp; omega
  obtain ⟨V, hV⟩ : ∃ V, crefD l 16 (j + 3) = V := ⟨_, rfl⟩
  rw [hV]
  have HV := Lib.hid hV
  clear hV hx
  have hz0 : Hid (digZ l 16 n (j + 3) = digZ l 16 l.length (j + 3)) := by unfold Hid; rw [HN.out]
  have ht0 : Hid (digT l 16 n (j + 3) 0 = digT l 16 l.length (j + 3) 0) := by unfold Hid; rw [HN.out]
  go_enter Tryd.func125, Tryd.ntmps125
  go_wp2_with fail
  go_step3
  go_wp2_with fail
  rw [HW.out]
  refine HP.out.mono ?_
  rintro e w1 ⟨rfl, rfl⟩
  go_wp2_with fail
  go_step3
  go_wp2_with fail
  rw [HADD.out]
  go_loop [4, 9] (fun r p => DigRel l 16 n (j + 3) 1114112 r p) (fun _ p => n - (intOf p).toNat)
  case atStart => exact digRel_mk (j + 3) n 0 0 (by omega) (Nat.le_refl _) (by omega) rfl (by omega) hz0.out ht0.out (by simp)
  case round =>
    obtain ⟨kk, f, T, x, hnf, hks, hkn, hx9, rfl, rfl, hZ, hTT, hX⟩ := hrel
    have HZ := Lib.hid hZ
    have HTT := Lib.hid hTT
    have HX := Lib.hid hX
    clear hZ hTT hX
    by_cases hlt : kk < n
    · obtain ⟨ad3, e3, hcell4⟩ := HS.out.byte (k := kk) (by rw [HN.out]; exact hlt)
      injection e3 with e3
      subst e3
      obtain ⟨b, hb⟩ : ∃ b, byteAt l kk = b := ⟨_, rfl⟩
      have hb256 := byteAt_lt l kk
      rw [hb] at hcell4 hb256
      obtain ⟨d, hd⟩ : ∃ d, digN (b : Int) 16 = d := ⟨_, rfl⟩
      have hdl : d < 16 := hd ▸ digN_le b 16 (by omega)
      have HD := Lib.hid (fun w => hd ▸ digit_any (b : Int) 16 w)
      have HBB := Lib.hid hb
      have HDD := Lib.hid hd
      clear hb hd
      by_cases hneg : d < 0
      · have hz1 := HZ.out
        have ht1 := HTT.out
        rw [digZ_out f kk (.inr (by rw [HBB.out, HDD.out]; exact hneg))] at hz1
        rw [digT_out f kk T (.inr (by rw [HBB.out, HDD.out]; exact hneg))] at ht1
        have Hz := Lib.hid hz1
        have Ht := Lib.hid ht1
        clear hz1 ht1
        by_cases hfirst : kk = j + 3
        · have HE := Lib.hid (crefD_7 Hz.out (.inl hfirst))
          have t3 : ((kk : Int) == (j : Int) + 2 + 1) = true := by simp; omega
          clear hfirst
          go_wp2_with fail
          refine (HD.out _).mono ?_
          rintro e w1 ⟨rfl, rfl⟩
          go_wp2_with fail
          try rw [Exit.noGoto_ret]
          go_ret3
          exact ⟨ret_v (HE.out.trans HV.out), hb0⟩
        · have t3 : ((kk : Int) == (j : Int) + 2 + 1) = false := by simp; omega
          by_cases h59 : b = 59
          · have hno : ¬ (kk = j + 3 ∨ kk = l.length ∨ byteAt l kk ≠ 59) := by rw [HN.out, HBB.out]; omega
            have hcc := char_cap 1114112 (by omega) HX.out
            have HC := fun w' (hb : Below W.heap.size W w') => char_c (x : Int) w' (HT.out.below hb)
            have t2 : ((b : Int) != 59) = false := by rw [h59]; rfl
            cases hq : hasT charT (x : Int) with
            | false =>
              rw [hq] at HC hcc
              have HE := Lib.hid (crefD_6 Hz.out Ht.out hno hcc.symm)
              have HCC := Lib.hid (HC W (Below.refl _ _))
              clear hno hcc HC hq h59
              go_wp2_with fail
              refine (HD.out _).mono ?_
              rintro e w1 ⟨rfl, rfl⟩
              go_wp2_with fail
              refine HCC.out.mono ?_
              rintro e w1 ⟨rfl, hb1⟩
              go_wp2_with fail
              try rw [Exit.noGoto_ret]
              go_ret3
              exact ⟨ret_v (HE.out.trans HV.out), hb0.trans (hb1.mono hb0.size)⟩
            | true =>
              have hxT := char_low 1114112 (by omega) HX.out hq
              rw [hq] at HC hcc
              have HE := Lib.hid (crefD_ok Hz.out Ht.out hno hcc.symm)
              rw [← hxT] at HE
              have HCC := Lib.hid (HC W (Below.refl _ _))
              clear hno hcc HC hq h59 hxT
              go_wp2_with fail
              refine (HD.out _).mono ?_
              rintro e w1 ⟨rfl, rfl⟩
              go_wp2_with fail
              refine HCC.out.mono ?_
              rintro e w1 ⟨rfl, hb1⟩
              go_wp2_with fail
              try rw [Exit.noGoto_ret]
              go_ret3
              exact ⟨ret_v (HE.out.trans HV.out), hb0.trans (hb1.mono hb0.size)⟩
          · have HE := Lib.hid (crefD_7 Hz.out (.inr (.inr (by rw [HBB.out]; exact h59))))
            have t2 : ((b : Int) != 59) = true := by simp; omega
            clear h59
            go_wp2_with fail
            refine (HD.out _).mono ?_
            rintro e w1 ⟨rfl, rfl⟩
            go_wp2_with fail
            try rw [Exit.noGoto_ret]
            go_ret3
            exact ⟨ret_v (HE.out.trans HV.out), hb0⟩
      · obtain ⟨g, rfl⟩ : ∃ g, f = g + 1 := ⟨f - 1, by omega⟩
        obtain ⟨dn, rfl⟩ : ∃ dn : Nat, d = dn := ⟨d.toNat, by omega⟩
        have hz1 := HZ.out
        have ht1 := HTT.out
        rw [digZ_on g kk (by rw [HN.out]; exact hlt) (by rw [HBB.out, HDD.out]; omega)] at hz1
        rw [digT_on g kk T (by rw [HN.out]; exact hlt) (by rw [HBB.out, HDD.out]; omega), HBB.out, HDD.out, Int.toNat_natCast] at ht1
        have Hz := Lib.hid hz1
        have Ht := Lib.hid ht1
        have HXX := Lib.hid (cap16 (d := dn) 1114112 HX.out)
        clear hz1 ht1
        by_cases hcap : x * 16 + dn ≤ 1114112
        · go_wp2_with fail
          refine (HD.out _).mono ?_
          rintro e w1 ⟨rfl, rfl⟩
          go_wp2_with fail
          all_goals
            first
            | (exfalso; omega)
            | (go_round
               case rel =>
                 refine digRel_mk (kk + 1) g (T * (16 : Int).toNat + dn) ((x * 16 + dn)) ?_ ?_ ?_ ?_ ?_ Hz.out Ht.out ?_
                 · omega
                 · omega
                 · omega
                 · omega
                 · omega
                 · have h := HXX.out
                   simp at h ⊢
                   omega
               case measure => simp [intOf]; omega)
        · go_wp2_with fail
          refine (HD.out _).mono ?_
          rintro e w1 ⟨rfl, rfl⟩
          go_wp2_with fail
          all_goals
            first
            | (exfalso; omega)
            | (go_round
               case rel =>
                 refine digRel_mk (kk + 1) g (T * (16 : Int).toNat + dn) (1114112) ?_ ?_ ?_ ?_ ?_ Hz.out Ht.out ?_
                 · omega
                 · omega
                 · omega
                 · omega
                 · omega
                 · have h := HXX.out
                   simp at h ⊢
                   omega
               case measure => simp [intOf]; omega)
    · obtain rfl : kk = n := by omega
      have hz1 := HZ.out
      rw [digZ_out f kk (.inl (by rw [HN.out]; exact Nat.le_refl _))] at hz1
      have HE := Lib.hid (crefD_7 hz1 (.inr (.inl HN.out.symm)))
      clear hz1
      by_cases hfirst : kk = j + 3
      · have t3 : ((kk : Int) == (j : Int) + 2 + 1) = true := by simp; omega
        clear hfirst
        go_wp2_with fail
        try rw [Exit.noGoto_ret]
        go_ret3
        exact ⟨ret_v (HE.out.trans HV.out), hb0⟩
      · have t3 : ((kk : Int) == (j : Int) + 2 + 1) = false := by simp; omega
        clear hfirst
        go_wp2_with fail
        try rw [Exit.noGoto_ret]
        go_ret3
        exact ⟨ret_v (HE.out.trans HV.out), hb0⟩

set_option maxHeartbeats 4000000 in
theorem cchar_10 (l : List UInt8) (ad : Addr) (n c j : Nat) (w W : World)
    (HN : Hid (l.length = n)) (hnc : n ≤ c) (hm : c ≤ 9223372036854775807) (hn9 : n ≤ 1000000) (hj2 : j + 2 ≤ n) (hcj : ¬ c = j)
    (HW : Hid (w.alloc (.cells #[.int .u8 38, .int .u8 35] 5 (2, 3)) = W)) (hb0 : Below w.heap.size w W) (HS : Hid (Sees W (some ad) (vB l))) (HT : Hid (TabC W))
    (HP : Hid (Calls Tryd.prog 66 #[.slice (some (ad.add j)) (n - j) (c - j), .slice (some ⟨w.heap.size, 0, none⟩) 2 2] W fun e w' => e = .returned (.bool true) ∧ W = w'))
    (hj3 : j + 2 < n) (b2 : Nat) (hb2l : b2 < 256) (hcell2 : W.cell? (ad.add (j + 2)) = some (.int .u8 b2)) (hx : ¬ b2 = 120) :
    Calls Tryd.prog 125 #[.slice (some ad) n c, .int .i64 (j : Int)] w fun e w' => e = .returned (crefD l 10 (j + 2)) ∧ Below w.heap.size w w' := by
  have kc := fun (w : World) (C : Array Value) (n c : Nat) => Lib.run_convert_bytes_const (P := Tryd.prog) w 36 5 C n c Tryd.underlying36 Tryd.underlying5
  have hcell3 : W.cell? { block := ad.block, off := ad.off + (j + 1 + 1) } = some (.int .u8 b2) := by
    have h := hcell2
    unfold Addr.add at h
    rw [if_neg (by omega)] at h
    exact h
  have HADD : Hid (ad.add (j + 2) = { block := ad.block, off := ad.off + (j + 1 + 1) }) := by unfold Hid Addr.add; rw [if_neg (by omega)]
  clear hcell2
  have t1 : ((b2 : Int) == 120) = false := by simp; omega
  obtain ⟨V, hV⟩ : ∃ V, crefD l 10 (j + 2) = V := ⟨_, rfl⟩
  rw [hV]
  have HV := Lib.hid hV
  clear hV hx
  have hz0 : Hid (digZ l 10 n (j + 2) = digZ l 10 l.length (j + 2)) := by unfold Hid; rw [HN.out]
  have ht0 : Hid (digT l 10 n (j + 2) 0 = digT l 10 l.length (j + 2) 0) := by unfold Hid; rw [HN.out]
  go_enter Tryd.func125, Tryd.ntmps125
  go_wp2_with fail
  go_step3
  go_wp2_with fail
  rw [HW.out]
  refine HP.out.mono ?_
  rintro e w1 ⟨rfl, rfl⟩
  go_wp2_with fail
  go_step3
  go_wp2_with fail
  rw [HADD.out]
  go_loop [4, 9] (fun r p => DigRel l 10 n (j + 2) 1114112 r p) (fun _ p => n - (intOf p).toNat)
  case atStart => exact digRel_mk (j + 2) n 0 0 (by omega) (Nat.le_refl _) (by omega) rfl (by omega) hz0.out ht0.out (by simp)
  case round =>
    obtain ⟨kk, f, T, x, hnf, hks, hkn, hx9, rfl, rfl, hZ, hTT, hX⟩ := hrel
    have HZ := Lib.hid hZ
    have HTT := Lib.hid hTT
    have HX := Lib.hid hX
    clear hZ hTT hX
    by_cases hlt : kk < n
    · obtain ⟨ad3, e3, hcell4⟩ := HS.out.byte (k := kk) (by rw [HN.out]; exact hlt)
      injection e3 with e3
      subst e3
      obtain ⟨b, hb⟩ : ∃ b, byteAt l kk = b := ⟨_, rfl⟩
      have hb256 := byteAt_lt l kk
      rw [hb] at hcell4 hb256
      obtain ⟨d, hd⟩ : ∃ d, digN (b : Int) 10 = d := ⟨_, rfl⟩
      have hdl : d < 10 := hd ▸ digN_le b 10 (by omega)
      have HD := Lib.hid (fun w => hd ▸ digit_any (b : Int) 10 w)
      have HBB := Lib.hid hb
      have HDD := Lib.hid hd
      clear hb hd
      by_cases hneg : d < 0
      · have hz1 := HZ.out
        have ht1 := HTT.out
        rw [digZ_out f kk (.inr (by rw [HBB.out, HDD.out]; exact hneg))] at hz1
        rw [digT_out f kk T (.inr (by rw [HBB.out, HDD.out]; exact hneg))] at ht1
        have Hz := Lib.hid hz1
        have Ht := Lib.hid ht1
        clear hz1 ht1
        by_cases hfirst : kk = j + 2
        · have HE := Lib.hid (crefD_7 Hz.out (.inl hfirst))
          have t3 : ((kk : Int) == (j : Int) + 2) = true := by simp; omega
          clear hfirst
          go_wp2_with fail
          refine (HD.out _).mono ?_
          rintro e w1 ⟨rfl, rfl⟩
          go_wp2_with fail
          try rw [Exit.noGoto_ret]
          go_ret3
          exact ⟨ret_v (HE.out.trans HV.out), hb0⟩
        · have t3 : ((kk : Int) == (j : Int) + 2) = false := by simp; omega
          by_cases h59 : b = 59
          · have hno : ¬ (kk = j + 2 ∨ kk = l.length ∨ byteAt l kk ≠ 59) := by rw [HN.out, HBB.out]; omega
            have hcc := char_cap 1114112 (by omega) HX.out
            have HC := fun w' (hb : Below W.heap.size W w') => char_c (x : Int) w' (HT.out.below hb)
            have t2 : ((b : Int) != 59) = false := by rw [h59]; rfl
            cases hq : hasT charT (x : Int) with
            | false =>
              rw [hq] at HC hcc
              have HE := Lib.hid (crefD_6 Hz.out Ht.out hno hcc.symm)
              have HCC := Lib.hid (HC W (Below.refl _ _))
              clear hno hcc HC hq h59
              go_wp2_with fail
              refine (HD.out _).mono ?_
              rintro e w1 ⟨rfl, rfl⟩
              go_wp2_with fail
              refine HCC.out.mono ?_
              rintro e w1 ⟨rfl, hb1⟩
              go_wp2_with fail
              try rw [Exit.noGoto_ret]
              go_ret3
              exact ⟨ret_v (HE.out.trans HV.out), hb0.trans (hb1.mono hb0.size)⟩
            | true =>
              have hxT := char_low 1114112 (by omega) HX.out hq
              rw [hq] at HC hcc
              have HE := Lib.hid (crefD_ok Hz.out Ht.out hno hcc.symm)
              rw [← hxT] at HE
              have HCC := Lib.hid (HC W (Below.refl _ _))
              clear hno hcc HC hq h59 hxT
              go_wp2_with fail
              refine (HD.out _).mono ?_
              rintro e w1 ⟨rfl, rfl⟩
              go_wp2_with fail
              refine HCC.out.mono ?_
              rintro e w1 ⟨rfl, hb1⟩
              go_wp2_with fail
              try rw [Exit.noGoto_ret]
              go_ret3
              exact ⟨ret_v (HE.out.trans HV.out), hb0.trans (hb1.mono hb0.size)⟩
          · have HE := Lib.hid (crefD_7 Hz.out (.inr (.inr (by rw [HBB.out]; exact h59))))
            have t2 : ((b : Int) != 59) = true := by simp; omega
            clear h59
            go_wp2_with fail
            refine (HD.out _).mono ?_
            rintro e w1 ⟨rfl, rfl⟩
            go_wp2_with fail
            try rw [Exit.noGoto_ret]
            go_ret3
            exact ⟨ret_v (HE.out.trans HV.out), hb0⟩
      · obtain ⟨g, rfl⟩ : ∃ g, f = g + 1 := ⟨f - 1, by omega⟩
        obtain ⟨dn, rfl⟩ : ∃ dn : Nat, d = dn := ⟨d.toNat, by omega⟩
        have hz1 := HZ.out
        have ht1 := HTT.out
        rw [digZ_on g kk (by rw [HN.out]; exact hlt) (by rw [HBB.out, HDD.out]; omega)] at hz1
        rw [digT_on g kk T (by rw [HN.out]; exact hlt) (by rw [HBB.out, HDD.out]; omega), HBB.out, HDD.out, Int.toNat_natCast] at ht1
        have Hz := Lib.hid hz1
        have Ht := Lib.hid ht1
        have HXX := Lib.hid (cap10 (d := dn) 1114112 HX.out)
        clear hz1 ht1
        by_cases hcap : x * 10 + dn ≤ 1114112
        · go_wp2_with fail
          refine (HD.out _).mono ?_
          rintro e w1 ⟨rfl, rfl⟩
          go_wp2_with fail
          all_goals
            first
            | (exfalso; omega)
            | (go_round
               case rel =>
                 refine digRel_mk (kk + 1) g (T * (10 : Int).toNat + dn) ((x * 10 + dn)) ?_ ?_ ?_ ?_ ?_ Hz.out Ht.out ?_
                 · omega
                 · omega
                 · omega
                 · omega
                 · omega
                 · have h := HXX.out
                   simp at h ⊢
                   omega
               case measure => simp [intOf]; omega)
        · go_wp2_with fail
          refine (HD.out _).mono ?_
          rintro e w1 ⟨rfl, rfl⟩
          go_wp2_with fail
          all_goals
            first
            | (exfalso; omega)
            | (go_round
               case rel =>
                 refine digRel_mk (kk + 1) g (T * (10 : Int).toNat + dn) (1114112) ?_ ?_ ?_ ?_ ?_ Hz.out Ht.out ?_
                 · omega
                 · omega
                 · omega
                 · omega
                 · omega
                 · have h := HXX.out
                   simp at h ⊢
                   omega
               case measure => simp [intOf]; omega)
    · obtain rfl : kk = n := by omega
      have hz1 := HZ.out
      rw [digZ_out f kk (.inl (by rw [HN.out]; exact Nat.le_refl _))] at hz1
      have HE := Lib.hid (crefD_7 hz1 (.inr (.inl HN.out.symm)))
      clear hz1
      by_cases hfirst : kk = j + 2
      · have t3 : ((kk : Int) == (j : Int) + 2) = true := by simp; omega
        clear hfirst
        go_wp2_with fail
        try rw [Exit.noGoto_ret]
        go_ret3
        exact ⟨ret_v (HE.out.trans HV.out), hb0⟩
      · have t3 : ((kk : Int) == (j : Int) + 2) = false := by simp; omega
        clear hfirst
        go_wp2_with fail
        try rw [Exit.noGoto_ret]
        go_ret3
        exact ⟨ret_v (HE.out.trans HV.out), hb0⟩

set_option maxHeartbeats 4000000 in
theorem cchar_any (l : List UInt8) (A : Option Addr) (n c : Nat) (k : Int) (w : World)
    (hn : l.length = n) (hnc : n ≤ c) (hm : c ≤ 9223372036854775807) (hk : I64 k) (hn9 : n ≤ 1000000) (hs : Sees w A (vB l)) (ht : TabC w) :
    Calls Tryd.prog 125 #[.slice A n c, .int .i64 k] w fun e w' => e = .returned (chV l k) ∧ Below w.heap.size w w' := by
  have hkl := hk.1
  have hkh := hk.2
  by_cases hout : k < 0 ∨ (n : Int) < k
  · have hv : chV l k = noC 3 := by rw [chV, if_pos (by rw [hn]; exact hout)]
    rw [hv]
    clear hv
    unfold noC
    rcases hout with h0 | h0
    all_goals
      go_enter Tryd.func125, Tryd.ntmps125
      go_wp2_with fail
      go_step3
      go_wp2_with fail
      try rw [Exit.noGoto_ret]
      go_ret3
      exact ⟨rfl, Below.refl _ _⟩
  · obtain ⟨j, rfl⟩ : ∃ j : Nat, k = j := ⟨k.toNat, by omega⟩
    have hj : j ≤ n := by omega
    have kc := fun (w : World) (C : Array Value) (n c : Nat) => Lib.run_convert_bytes_const (P := Tryd.prog) w 36 5 C n c Tryd.underlying36 Tryd.underlying5
    obtain ⟨W, hW⟩ : ∃ W, w.alloc (.cells #[.int .u8 38, .int .u8 35] 5 (2, 3)) = W := ⟨_, rfl⟩
    have hb0 : Below w.heap.size w W := hW ▸ (Below.refl _ w).alloc (Nat.le_refl _) _
    have hsC : Sees W (some ⟨w.heap.size, 0, none⟩) (vB [38, 35]) := hW ▸ sees_lit w (vB [38, 35]) _ _
    have hsW := hs.below hb0
    have htW : TabC W := ht.below hb0
    have HW := Lib.hid hW
    clear hW
    by_cases hjn : j = n
    · have hv : chV l j = noC 7 := by rw [chV, if_neg (by omega), Int.toNat_natCast, if_pos (.inl (by omega))]
      have H0 := Lib.hid (fun (A' : Option Addr) (c' : Nat) => hasPre_any [] [38, 35] A' (some ⟨w.heap.size, 0, none⟩) 0 2 c' 2 W rfl (by omega) (by omega) rfl (by omega) (by omega) (sees_nil _ _) hsC)
      rw [hv]
      clear hv hs hsW hsC
      unfold noC
      subst hjn
      by_cases hcj : c = j
      all_goals
        go_enter Tryd.func125, Tryd.ntmps125
        go_wp2_with fail
        go_step3
        go_wp2_with fail
        rw [HW.out]
        refine (H0.out _ _).mono ?_
        rintro e w1 ⟨rfl, rfl⟩
        go_wp2_with fail
        try rw [Exit.noGoto_ret]
        go_ret3
        exact ⟨rfl, hb0⟩
    · have hjl : j < n := by omega
      obtain ⟨ad, rfl, hcell⟩ := hs.byte (k := j) (by omega)
      have hcj : ¬ c = j := by omega
      have hsd : Sees W (some (ad.add j)) (vB (l.drop j)) := by
        have h1 := hsW.drop (k := j) (cap := c) (by rw [vB_len]; omega)
        rw [if_neg hcj, ← vB_drop] at h1
        exact h1
      have hp := hasPre_any (l.drop j) [38, 35] (some (ad.add j)) (some ⟨w.heap.size, 0, none⟩) (n - j) 2 (c - j) 2 W (by rw [List.length_drop, hn]) (by omega) (by omega) rfl (by omega) (by omega) hsd hsC
      have hpi := pre2_iff l j
      cases hq : ((l.drop j).take 2 == [38, 35]) with
      | false =>
        rw [hq] at hp hpi
        have HP := Lib.hid hp
        have hv : chV l j = noC 7 := by
          rw [chV, if_neg (by omega), Int.toNat_natCast, if_pos]
          by_cases h1 : l.length < j + 3
          · exact .inl h1
          · by_cases h2 : byteAt l j = 38
            · exact .inr (.inr fun h3 => absurd (hpi.2 ⟨by omega, h2, h3⟩) (by simp))
            · exact .inr (.inl h2)
        rw [hv]
        clear hv hs hsW hsC hsd hp hpi hq hcell
        unfold noC
        go_enter Tryd.func125, Tryd.ntmps125
        go_wp2_with fail
        go_step3
        go_wp2_with fail
        rw [HW.out]
        refine HP.out.mono ?_
        rintro e w1 ⟨rfl, rfl⟩
        go_wp2_with fail
        try rw [Exit.noGoto_ret]
        go_ret3
        exact ⟨rfl, hb0⟩
      | true =>
        rw [hq] at hp hpi
        have HP := Lib.hid hp
        obtain ⟨hj2, hb38, hb35⟩ := hpi.1 rfl
        rw [hn] at hj2
        have HN := Lib.hid hn
        have HS := Lib.hid hsW
        have HT := Lib.hid htW
        by_cases hend : n = j + 2
        · have hv : chV l j = noC 7 := by rw [chV, if_neg (by omega), Int.toNat_natCast, if_pos (.inl (by omega))]
          rw [hv]
          exact cchar_two l ad n c j w W HN hnc hm hn9 hj2 hcj HW hb0 HS HT HP (by omega)
        · obtain ⟨b2, hb2⟩ : ∃ b2, byteAt l (j + 2) = b2 := ⟨_, rfl⟩
          obtain ⟨ad2, e2, hcell2⟩ := hsW.byte (k := j + 2) (by omega)
          injection e2 with e2
          subst e2
          have hb2l := byteAt_lt l (j + 2)
          rw [hb2] at hcell2 hb2l
          have hv : chV l j = if b2 = 120 then crefD l 16 (j + 3) else crefD l 10 (j + 2) := by
            rw [chV, if_neg (by omega), Int.toNat_natCast, if_neg (by rw [hb38, hb35]; omega), hb2]
          rw [hv]
          by_cases hx : b2 = 120
          · rw [if_pos hx]
            exact cchar_16 l ad n c j w W HN hnc hm hn9 hj2 hcj HW hb0 HS HT HP (by omega) b2 hb2l hcell2 hx
          · rw [if_neg hx]
            exact cchar_10 l ad n c j w W HN hnc hm hn9 hj2 hcj HW hb0 HS HT HP (by omega) b2 hb2l hcell2 hx
end Go.Proofs.YtdmfladcldkmeaaDoor
namespace Go.Proofs.YtdmfladcldkmeaaDoor
open Go.ChangeShapes Go.WideShapes Go.ChangeAt Go.RowKit
set_option linter.unusedVariables false
set_option maxRecDepth 100000

theorem chr_ascii {l : List UInt8} {k b : Nat} (h : byteAt l k = b) (hb : b < 128) : chrAt l k = ((b : Int), 1) := by
  unfold chrAt
  simp only []
  rw [rawS_1 (by omega), h, if_neg]
  rintro (h1 | h1 | h1)
  · cases h1
  · unfold isR at h1
    simp at h1
    omega
  · simp only [Int.toNat_natCast] at h1
    unfold encLen at h1
    rw [if_pos hb] at h1
    exact h1 rfl
/-- A byte in the middle. -/
theorem byte_mid (pre X post : List UInt8) (j : Nat) (hj : j < X.length) : byteAt (pre ++ X ++ post) (pre.length + j) = byteAt X j := by
  unfold byteAt
  rw [List.append_assoc, List.getElem?_append_right (by omega), Nat.add_sub_cancel_left, List.getElem?_append_left hj]
theorem byte_head (X post : List UInt8) (j : Nat) (hj : j < X.length) : byteAt (X ++ post) j = byteAt X j := by
  unfold byteAt
  rw [List.getElem?_append_left hj]
theorem mid_len (pre X post : List UInt8) : (pre ++ X ++ post).length = pre.length + X.length + post.length := by simp [Nat.add_assoc]
theorem mid_piece (pre X post : List UInt8) (a m : Nat) (h : a + m ≤ X.length) : ((pre ++ X ++ post).drop (pre.length + a)).take m = (X.drop a).take m := by
  rw [List.append_assoc, ← List.drop_drop, List.drop_left, List.drop_append_of_le_length (by omega), List.take_append_of_le_length (by rw [List.length_drop]; omega)]

theorem low_start {b : Nat} (h1 : 97 ≤ b) (h2 : b ≤ 122) : plainP startN (b : Int) = true := by
  refine plain_yes ?_ (by omega)
  unfold startN
  rw [startT_iff]
  omega
theorem low_char {b : Nat} (h1 : 97 ≤ b) (h2 : b ≤ 122) : plainP charN (b : Int) = true := by
  refine plain_yes ?_ (by omega)
  unfold charN
  rw [Bool.or_eq_true]
  right
  rw [startT_iff]
  omega
theorem start_59 : plainP startN 59 = false := by kernel_rfl
theorem char_59 : plainP charN 59 = false := by kernel_rfl
theorem start_35 : plainP startN 35 = false := by kernel_rfl
/-- A row of small letters up to a ";". -/
theorem end_low {l : List UInt8} (m : Nat) : ∀ (f k : Nat) (p : Int → Bool) (hp : p = plainP startN ∨ p = plainP charN) (hl : ∀ j, j < m → 97 ≤ byteAt l (k + j) ∧ byteAt l (k + j) ≤ 122) (h59 : byteAt l (k + m) = 59) (hlen : k + m < l.length) (hf : m ≤ f),
    endN l (plainP charN) f p k = k + m := by
  induction m with
  | zero =>
    intro f k p hp _ h59 hlen _
    rw [Nat.add_zero] at h59 ⊢
    refine endN_out f k (.inr (.inr ?_))
    rw [chr_ascii (b := 59) h59 (by omega)]
    rcases hp with rfl | rfl
    · exact start_59
    · exact char_59
  | succ m ih =>
    intro f k p hp hl h59 hlen hf
    obtain ⟨g, rfl⟩ : ∃ g, f = g + 1 := ⟨f - 1, by omega⟩
    have h0 := hl 0 (by omega)
    rw [Nat.add_zero] at h0
    rw [endN_on g k (by omega) (chr_ascii rfl (by omega)) (by omega) (by rcases hp with rfl | rfl <;> first | exact low_start h0.1 h0.2 | exact low_char h0.1 h0.2)]
    rw [ih g (k + 1) _ (.inr rfl) (fun j hj => by have := hl (j + 1) (by omega); rwa [show k + 1 + j = k + (j + 1) by omega]) (by rw [← h59]; congr 1; omega) (by omega) (by omega)]
    omega

/-- A reference to an entity whose name is of small letters, in the middle of a text. -/
theorem ent_mid (pre post nm : List UInt8) (h0 : nm ≠ []) (h1 : nm.length ≤ 1024) (hl : ∀ j, j < nm.length → 97 ≤ byteAt nm j ∧ byteAt nm j ≤ 122) :
    entV (pre ++ (38 :: nm ++ [59]) ++ post) (pre.length : Int) 38 = .tuple #[strV nm, .int .i64 ((pre.length + nm.length + 2 : Nat) : Int), .int .i64 0] := by
  obtain ⟨o, ho⟩ : ∃ o, pre ++ (38 :: nm ++ [59]) ++ post = o := ⟨_, rfl⟩
  have hX : (38 :: nm ++ [59] : List UInt8).length = nm.length + 2 := by simp
  have hlen : o.length = pre.length + (nm.length + 2) + post.length := by rw [← ho, mid_len, hX]
  have hb : ∀ j, j < nm.length + 2 → byteAt o (pre.length + j) = byteAt (38 :: nm ++ [59]) j := fun j hj => by rw [← ho]; exact byte_mid pre _ post j (by rw [hX]; exact hj)
  have hb0 : byteAt o pre.length = 38 := by have := hb 0 (by omega); rw [Nat.add_zero] at this; rw [this]; rfl
  have hbn : ∀ j, j < nm.length → byteAt o (pre.length + 1 + j) = byteAt nm j := fun j hj => by
    have := hb (1 + j) (by omega)
    rw [← Nat.add_assoc] at this
    rw [this, byte_head _ _ _ (by simp; omega)]
    unfold byteAt
    rw [Nat.add_comm 1 j, List.getElem?_cons_succ]
  have hb59 : byteAt o (pre.length + 1 + nm.length) = 59 := by
    have := hb (1 + nm.length) (by omega)
    rw [← Nat.add_assoc] at this
    rw [this]
    unfold byteAt
    rw [List.getElem?_append_right (by simp; omega)]
    simp only [List.length_cons]
    rw [show 1 + nm.length - (nm.length + 1) = 0 by omega]
    rfl
  have hn0 : 0 < nm.length := List.length_pos_iff.2 h0
  have hz : entZ o pre.length = pre.length + 1 + nm.length := by
    unfold entZ
    exact end_low nm.length o.length (pre.length + 1) _ (.inl rfl) (fun j hj => by rw [hbn j hj]; exact hl j hj) hb59 (by omega) (by omega)
  rw [ho, entV, if_neg (by omega), Int.toNat_natCast, if_neg (by rw [hb0]; omega), hz, if_neg (by omega), if_neg (by omega), if_neg (by rw [hb59]; omega)]
  have hp : (o.drop (pre.length + 1)).take (pre.length + 1 + nm.length - (pre.length + 1)) = nm := by
    rw [← ho, mid_piece pre _ post 1 _ (by rw [hX]; omega)]
    rw [show pre.length + 1 + nm.length - (pre.length + 1) = nm.length by omega]
    simp
  have e : ((pre.length + 1 + nm.length : Nat) : Int) + 1 = ((pre.length + nm.length + 2 : Nat) : Int) := by omega
  rw [hp, e]
/-- No reference to a character where no "#" stands behind the mark. -/
theorem ch_none {o : List UInt8} {k : Nat} (hk : k ≤ o.length) (h : byteAt o k ≠ 38 ∨ byteAt o (k + 1) ≠ 35) : chV o (k : Int) = noC 7 := by
  rw [chV, if_neg (by omega), Int.toNat_natCast, if_pos (.inr h)]
theorem ent_none {o : List UInt8} {k : Nat} (hk : k ≤ o.length) (h : byteAt o k ≠ 38) : entV o (k : Int) 38 = noV 7 := by
  rw [entV, if_neg (by omega), Int.toNat_natCast, if_pos (.inr h)]
/-- No reference to an entity where a "#" stands behind the mark. -/
theorem ent_num {o : List UInt8} {k : Nat} (hk : k + 1 < o.length) (h1 : byteAt o k = 38) (h2 : byteAt o (k + 1) = 35) : entV o (k : Int) 38 = noV 7 := by
  have hz : entZ o k = k + 1 := by
    unfold entZ
    refine endN_out _ _ (.inr (.inr ?_))
    rw [chr_ascii (b := 35) h2 (by omega)]
    exact start_35
  rw [entV, if_neg (by omega), Int.toNat_natCast, if_neg (by rw [h1]; omega), hz, if_pos rfl]

/-- The number that decimal digits say. -/
def dec10 (ds : List UInt8) (T : Nat) : Nat := ds.foldl (fun T d => T * 10 + (d.toNat - 48)) T
theorem dig_dec {b : Nat} (h1 : 48 ≤ b) (h2 : b ≤ 57) : digN (b : Int) 10 = ((b - 48 : Nat) : Int) := by
  have e : digV (b : Int) = (b : Int) - 48 := by unfold digV; rw [if_pos (by omega)]
  unfold digN
  rw [if_pos (.inl rfl), e, if_neg (by omega)]
  omega
theorem dig_59 : digN 59 10 = -1 := by kernel_rfl
/-- A row of decimal digits up to a ";". -/
theorem dig_row {l : List UInt8} (ds : List UInt8) : ∀ (f k T : Nat) (hl : ∀ j, j < ds.length → byteAt l (k + j) = byteAt ds j ∧ 48 ≤ byteAt ds j ∧ byteAt ds j ≤ 57) (h59 : byteAt l (k + ds.length) = 59) (hlen : k + ds.length < l.length) (hf : ds.length ≤ f),
    digZ l 10 f k = k + ds.length ∧ digT l 10 f k T = dec10 ds T := by
  induction ds with
  | nil =>
    intro f k T _ h59 _ _
    have hd : digN (byteAt l k : Int) 10 < 0 := by
      rw [List.length_nil, Nat.add_zero] at h59
      rw [h59]
      exact (show digN 59 10 < 0 by rw [dig_59]; omega)
    exact ⟨digZ_out f k (.inr hd), digT_out f k T (.inr hd)⟩
  | cons d ds ih =>
    intro f k T hl h59 hlen hf
    rw [List.length_cons] at h59 hlen hf
    obtain ⟨g, rfl⟩ : ∃ g, f = g + 1 := ⟨f - 1, by omega⟩
    obtain ⟨e0, e1, e2⟩ := hl 0 (by simp)
    rw [Nat.add_zero] at e0
    have eb : byteAt (d :: ds) 0 = d.toNat := rfl
    rw [eb] at e0 e1 e2
    have hd := dig_dec e1 e2
    have hk : k < l.length := by omega
    obtain ⟨i1, i2⟩ := ih g (k + 1) (T * 10 + (d.toNat - 48)) (fun j hj => by
      have := hl (j + 1) (by simp; omega)
      rw [show k + 1 + j = k + (j + 1) by omega]
      exact this) (by rw [← h59]; congr 1; omega) (by omega) (by omega)
    constructor
    · rw [digZ_on g k hk (by rw [e0, hd]; omega), i1, List.length_cons]
      omega
    · rw [digT_on g k T hk (by rw [e0, hd]; omega), e0, hd, show ((10 : Int)).toNat = 10 from rfl, Int.toNat_natCast, i2]
      rfl
/-- A reference to a character in decimal digits, in the middle of a text. -/
theorem ch_mid (pre post ds : List UInt8) (h0 : ds ≠ []) (hl : ∀ j, j < ds.length → 48 ≤ byteAt ds j ∧ byteAt ds j ≤ 57) (hc : hasT charT ((dec10 ds 0 : Nat) : Int) = true) :
    chV (pre ++ (38 :: 35 :: ds ++ [59]) ++ post) (pre.length : Int) = .tuple #[.int .i64 ((dec10 ds 0 : Nat) : Int), .int .i64 ((pre.length + ds.length + 3 : Nat) : Int), .int .i64 0] := by
  obtain ⟨o, ho⟩ : ∃ o, pre ++ (38 :: 35 :: ds ++ [59]) ++ post = o := ⟨_, rfl⟩
  have hX : (38 :: 35 :: ds ++ [59] : List UInt8).length = ds.length + 3 := by simp
  have hlen : o.length = pre.length + (ds.length + 3) + post.length := by rw [← ho, mid_len, hX]
  have hb : ∀ j, j < ds.length + 3 → byteAt o (pre.length + j) = byteAt (38 :: 35 :: ds ++ [59]) j := fun j hj => by rw [← ho]; exact byte_mid pre _ post j (by rw [hX]; exact hj)
  have hb0 : byteAt o pre.length = 38 := by have := hb 0 (by omega); rw [Nat.add_zero] at this; rw [this]; rfl
  have hb1 : byteAt o (pre.length + 1) = 35 := by rw [hb 1 (by omega)]; rfl
  have hbn : ∀ j, j < ds.length → byteAt o (pre.length + 2 + j) = byteAt ds j := fun j hj => by
    have := hb (2 + j) (by omega)
    rw [← Nat.add_assoc] at this
    rw [this, byte_head _ _ _ (by simp; omega)]
    unfold byteAt
    rw [show 2 + j = (j + 1) + 1 by omega, List.getElem?_cons_succ, List.getElem?_cons_succ]
  have hb59 : byteAt o (pre.length + 2 + ds.length) = 59 := by
    have := hb (2 + ds.length) (by omega)
    rw [← Nat.add_assoc] at this
    rw [this]
    unfold byteAt
    rw [List.getElem?_append_right (by simp; omega)]
    simp only [List.length_cons]
    rw [show 2 + ds.length - (ds.length + 1 + 1) = 0 by omega]
    rfl
  have hn0 : 0 < ds.length := List.length_pos_iff.2 h0
  have hx : byteAt o (pre.length + 2) ≠ 120 := by
    have h1 := hbn 0 hn0
    have h2 := hl 0 hn0
    rw [Nat.add_zero] at h1
    omega
  obtain ⟨hz, hT⟩ := dig_row (l := o) ds o.length (pre.length + 2) 0 (fun j hj => ⟨hbn j hj, hl j hj⟩) hb59 (by omega) (by omega)
  rw [ho, chV, if_neg (by omega), Int.toNat_natCast, if_neg (by rw [hb0, hb1]; omega), if_neg hx]
  have e : ((pre.length + 2 + ds.length : Nat) : Int) + 1 = ((pre.length + ds.length + 3 : Nat) : Int) := by omega
  rw [← crefD_ok hz.symm hT.symm (by rw [hb59]; omega) hc, e]
end Go.Proofs.YtdmfladcldkmeaaDoor
namespace Go.Proofs.YtdmfladcldkmeaaDoor
open Go.ChangeShapes Go.WideShapes Go.ChangeAt Go.RowKit
set_option linter.unusedVariables false
set_option maxRecDepth 100000

theorem entV_tup (l : List UInt8) (k : Int) (mark : Nat) : ∃ s z e, entV l k mark = .tuple #[.string s, .int .i64 z, .int .i64 e] := by
  unfold entV noV
  split
  · exact ⟨_, _, _, rfl⟩
  · split
    · exact ⟨_, _, _, rfl⟩
    · split
      · exact ⟨_, _, _, rfl⟩
      · split
        · exact ⟨_, _, _, rfl⟩
        · split <;> exact ⟨_, _, _, rfl⟩

set_option maxHeartbeats 1000000 in
theorem entity_any (l : List UInt8) (A : Option Addr) (n c : Nat) (k : Int) (w : World)
    (hn : l.length = n) (hnc : n ≤ c) (hm : c ≤ 9223372036854775807) (hk : I64 k) (hn9 : n ≤ 1000000) (hs : Sees w A (vB l)) (ht : TabN w) :
    Calls Tryd.prog 164 #[.slice A n c, .int .i64 k] w fun e w' => e = .returned (entV l k 38) ∧ Below w.heap.size w w' := by
  have H := cread_any l A n c k 38 w hn hnc hm hk hn9 (by omega) hs ht
  obtain ⟨x, y, z, hv⟩ := entV_tup l k 38
  rw [hv] at H ⊢
  have HH := Lib.hid H
  clear H hv
  go_enter Tryd.func164, Tryd.ntmps164
  go_wp2_with fail
  refine HH.out.mono ?_
  rintro e w1 ⟨rfl, hb⟩
  go_wp2_with fail
  go_ret3
  exact ⟨rfl, hb⟩


def knownN (l : List UInt8) : Int := if l = [108, 116] then 60 else if l = [103, 116] then 62 else if l = [97, 109, 112] then 38 else if l = [97, 112, 111, 115] then 39 else if l = [113, 117, 111, 116] then 34 else 0
end Go.Proofs.YtdmfladcldkmeaaDoor
namespace Go.Proofs.YtdmfladcldkmeaaDoor
open Go.ChangeShapes Go.WideShapes Go.ChangeAt Go.RowKit
set_option linter.unusedVariables false
set_option maxRecDepth 100000

/-- The place to which byte k comes. -/
def posE (s : List UInt8) (k : Nat) : Nat := (escL (s.take k)).length
theorem esc_parts (s : List UInt8) (k : Nat) (hk : k < s.length) : escL s = escL (s.take k) ++ escB (byteAt s k) ++ escL (s.drop (k + 1)) := by
  rw [← escL_snoc s k hk, ← escL_app, List.take_append_drop]
theorem pos_zero (s : List UInt8) : posE s 0 = 0 := rfl
theorem pos_end (s : List UInt8) : posE s s.length = (escL s).length := by unfold posE; rw [List.take_length]
theorem pos_succ (s : List UInt8) (k : Nat) (hk : k < s.length) : posE s (k + 1) = posE s k + (escB (byteAt s k)).length := by
  unfold posE
  rw [escL_snoc s k hk, List.length_append]
theorem pos_le (s : List UInt8) (k : Nat) (hk : k < s.length) : posE s (k + 1) ≤ (escL s).length := by
  rw [pos_succ s k hk, esc_parts s k hk]
  simp only [List.length_append]
  unfold posE
  omega

theorem at_named (s : List UInt8) (k n : Nat) (nm : List UInt8) (hk : k < s.length) (hb : byteAt s k = n) (hn : escB n = 38 :: nm ++ [59]) (h0 : nm ≠ []) (h1 : nm.length ≤ 1024)
    (hl : ∀ j, j < nm.length → 97 ≤ byteAt nm j ∧ byteAt nm j ≤ 122) :
    byteAt (escL s) (posE s k) = 38 ∧ byteAt (escL s) (posE s k + 1) ≠ 35 ∧ entV (escL s) (posE s k : Nat) 38 = .tuple #[strV nm, .int .i64 (posE s (k + 1) : Nat), .int .i64 0] ∧ chV (escL s) (posE s k : Nat) = noC 7 := by
  have hX : (38 :: nm ++ [59] : List UInt8).length = nm.length + 2 := by simp
  have hp := esc_parts s k hk
  rw [hb, hn] at hp
  have hs := pos_succ s k hk
  rw [hb, hn, hX] at hs
  have h38 : byteAt (escL s) (posE s k) = 38 := by
    have := byte_mid (escL (s.take k)) (38 :: nm ++ [59]) (escL (s.drop (k + 1))) 0 (by rw [hX]; omega)
    rw [← hp, Nat.add_zero] at this
    rw [show posE s k = (escL (s.take k)).length from rfl, this]
    rfl
  have hn0 : 0 < nm.length := List.length_pos_iff.2 h0
  have h35 : byteAt (escL s) (posE s k + 1) ≠ 35 := by
    have h2 := byte_mid (escL (s.take k)) (38 :: nm ++ [59]) (escL (s.drop (k + 1))) 1 (by rw [hX]; omega)
    rw [← hp] at h2
    rw [show posE s k = (escL (s.take k)).length from rfl, h2, byte_head _ _ _ (by simp; omega)]
    have h3 := hl 0 hn0
    have h4 : byteAt (38 :: nm) 1 = byteAt nm 0 := rfl
    rw [h4]
    omega
  have hle : posE s k ≤ (escL s).length := by have := pos_le s k hk; omega
  refine ⟨h38, h35, ?_, ch_none hle (.inr h35)⟩
  have := ent_mid (escL (s.take k)) (escL (s.drop (k + 1))) nm h0 h1 hl
  rw [← hp] at this
  rw [hs]
  exact this

theorem at_num (s : List UInt8) (k n : Nat) (ds : List UInt8) (hk : k < s.length) (hb : byteAt s k = n) (hn : escB n = 38 :: 35 :: ds ++ [59]) (h0 : ds ≠ [])
    (hl : ∀ j, j < ds.length → 48 ≤ byteAt ds j ∧ byteAt ds j ≤ 57) (hd : dec10 ds 0 = n) (hc : hasT charT (n : Int) = true) :
    byteAt (escL s) (posE s k) = 38 ∧ byteAt (escL s) (posE s k + 1) = 35 ∧ chV (escL s) (posE s k : Nat) = .tuple #[.int .i64 (n : Nat), .int .i64 (posE s (k + 1) : Nat), .int .i64 0] ∧ entV (escL s) (posE s k : Nat) 38 = noV 7 := by
  have hX : (38 :: 35 :: ds ++ [59] : List UInt8).length = ds.length + 3 := by simp
  have hp := esc_parts s k hk
  rw [hb, hn] at hp
  have hs := pos_succ s k hk
  rw [hb, hn, hX] at hs
  have hlen := pos_le s k hk
  have h38 : byteAt (escL s) (posE s k) = 38 := by
    have := byte_mid (escL (s.take k)) (38 :: 35 :: ds ++ [59]) (escL (s.drop (k + 1))) 0 (by rw [hX]; omega)
    rw [← hp, Nat.add_zero] at this
    rw [show posE s k = (escL (s.take k)).length from rfl, this]
    rfl
  have h35 : byteAt (escL s) (posE s k + 1) = 35 := by
    have := byte_mid (escL (s.take k)) (38 :: 35 :: ds ++ [59]) (escL (s.drop (k + 1))) 1 (by rw [hX]; omega)
    rw [← hp] at this
    rw [show posE s k = (escL (s.take k)).length from rfl, this]
    rfl
  refine ⟨h38, h35, ?_, ent_num (by omega) h38 h35⟩
  have := ch_mid (escL (s.take k)) (escL (s.drop (k + 1))) ds h0 hl (by rw [hd]; exact hc)
  rw [← hp, hd] at this
  rw [hs]
  exact this

theorem at_plain (s : List UInt8) (k n : Nat) (hk : k < s.length) (hb : byteAt s k = n) (hn : escB n = [UInt8.ofNat n]) (h38 : n ≠ 38) :
    byteAt (escL s) (posE s k) = n ∧ posE s (k + 1) = posE s k + 1 ∧ chV (escL s) (posE s k : Nat) = noC 7 ∧ entV (escL s) (posE s k : Nat) 38 = noV 7 := by
  have hp := esc_parts s k hk
  rw [hb, hn] at hp
  have hs := pos_succ s k hk
  rw [hb, hn] at hs
  have hn9 : n < 256 := hb ▸ byteAt_lt s k
  have hle := pos_le s k hk
  have h1 : byteAt (escL s) (posE s k) = n := by
    have := byte_mid (escL (s.take k)) [UInt8.ofNat n] (escL (s.drop (k + 1))) 0 (by simp)
    rw [← hp, Nat.add_zero] at this
    rw [show posE s k = (escL (s.take k)).length from rfl, this]
    show (UInt8.ofNat n).toNat = n
    simp
    omega
  exact ⟨h1, hs, ch_none (by omega) (.inl (by rw [h1]; exact h38)), ent_none (by omega) (by rw [h1]; exact h38)⟩

/-- What stands where a byte has come to: an entity that is always known, a number, or the byte. -/
theorem esc_at (s : List UInt8) (k : Nat) (hk : k < s.length) :
    (byteAt (escL s) (posE s k) = 38 ∧ byteAt (escL s) (posE s k + 1) ≠ 35 ∧ chV (escL s) (posE s k : Nat) = noC 7 ∧
      ∃ nm, entV (escL s) (posE s k : Nat) 38 = .tuple #[strV nm, .int .i64 (posE s (k + 1) : Nat), .int .i64 0] ∧ knownN nm = (byteAt s k : Int)) ∨
    (byteAt (escL s) (posE s k) = 38 ∧ byteAt (escL s) (posE s k + 1) = 35 ∧ entV (escL s) (posE s k : Nat) 38 = noV 7 ∧
      chV (escL s) (posE s k : Nat) = .tuple #[.int .i64 (byteAt s k : Nat), .int .i64 (posE s (k + 1) : Nat), .int .i64 0]) ∨
    (byteAt (escL s) (posE s k) = byteAt s k ∧ (byteAt s k ≠ 38 ∧ byteAt s k ≠ 60 ∧ byteAt s k ≠ 62 ∧ byteAt s k ≠ 34 ∧ byteAt s k ≠ 13 ∧ byteAt s k ≠ 10 ∧ byteAt s k ≠ 9) ∧ posE s (k + 1) = posE s k + 1 ∧
      chV (escL s) (posE s k : Nat) = noC 7 ∧ entV (escL s) (posE s k : Nat) 38 = noV 7) := by
  by_cases h38 : byteAt s k = 38
  · obtain ⟨h1, h2, h3, h4⟩ := at_named s k 38 [97, 109, 112] hk h38 rfl (by simp) (by simp) (by decide)
    exact .inl ⟨h1, h2, h4, _, h3, by rw [h38]; kernel_rfl⟩
  by_cases h60 : byteAt s k = 60
  · obtain ⟨h1, h2, h3, h4⟩ := at_named s k 60 [108, 116] hk h60 rfl (by simp) (by simp) (by decide)
    exact .inl ⟨h1, h2, h4, _, h3, by rw [h60]; kernel_rfl⟩
  by_cases h62 : byteAt s k = 62
  · obtain ⟨h1, h2, h3, h4⟩ := at_named s k 62 [103, 116] hk h62 rfl (by simp) (by simp) (by decide)
    exact .inl ⟨h1, h2, h4, _, h3, by rw [h62]; kernel_rfl⟩
  by_cases h34 : byteAt s k = 34
  · obtain ⟨h1, h2, h3, h4⟩ := at_named s k 34 [113, 117, 111, 116] hk h34 rfl (by simp) (by simp) (by decide)
    exact .inl ⟨h1, h2, h4, _, h3, by rw [h34]; kernel_rfl⟩
  by_cases h13 : byteAt s k = 13
  · obtain ⟨h1, h2, h3, h4⟩ := at_num s k 13 [49, 51] hk h13 rfl (by simp) (by decide) rfl (by kernel_rfl)
    exact .inr (.inl ⟨h1, h2, h4, by rw [h13]; exact h3⟩)
  by_cases h10 : byteAt s k = 10
  · obtain ⟨h1, h2, h3, h4⟩ := at_num s k 10 [49, 48] hk h10 rfl (by simp) (by decide) rfl (by kernel_rfl)
    exact .inr (.inl ⟨h1, h2, h4, by rw [h10]; exact h3⟩)
  by_cases h9 : byteAt s k = 9
  · obtain ⟨h1, h2, h3, h4⟩ := at_num s k 9 [57] hk h9 rfl (by simp) (by decide) rfl (by kernel_rfl)
    exact .inr (.inl ⟨h1, h2, h4, by rw [h9]; exact h3⟩)
  obtain ⟨h1, h2, h3, h4⟩ := at_plain s k _ hk rfl (by unfold escB; rw [if_neg h38, if_neg h60, if_neg h62, if_neg h34, if_neg h13, if_neg h10, if_neg h9]) h38
  exact .inr (.inr ⟨h1, ⟨h38, h60, h62, h34, h13, h10, h9⟩, h2, h3, h4⟩)
end Go.Proofs.YtdmfladcldkmeaaDoor
namespace Go.Proofs.YtdmfladcldkmeaaDoor
open Go.ChangeShapes Go.WideShapes Go.ChangeAt Go.RowKit
set_option linter.unusedVariables false
set_option maxRecDepth 100000

theorem cap10d {T x d : Nat} (h : x = min T 2000000) : min (x * 10 + d) 2000000 = min (T * 10 + d) 2000000 := cap10 _ h
theorem cap16d {T x d : Nat} (h : x = min T 2000000) : min (x * 16 + d) 2000000 = min (T * 16 + d) 2000000 := cap16 _ h
theorem add1_at (ad : Addr) (j : Nat) : ad.add (j + 1) = { block := ad.block, off := ad.off + (j + 1) } := by unfold Addr.add; rw [if_neg (by omega)]
theorem add2_at (ad : Addr) (j : Nat) : ad.add (j + 2) = { block := ad.block, off := ad.off + (j + 1 + 1) } := by unfold Addr.add; rw [if_neg (by omega)]

set_option maxHeartbeats 4000000 in
theorem rchar_16 (l : List UInt8) (ad : Addr) (n c j : Nat) (w : World)
    (HN : Hid (l.length = n)) (hnc : n ≤ c) (hm : c ≤ 9223372036854775807) (hn9 : n ≤ 1000000) (HS : Hid (Sees w (some ad) (vB l))) (hj3 : j + 2 < n)
    (h0 : w.cell? (ad.add j) = some (.int .u8 38)) (h1 : w.cell? { block := ad.block, off := ad.off + (j + 1) } = some (.int .u8 35))
    (b2 : Nat) (hb2l : b2 < 256) (h2 : w.cell? { block := ad.block, off := ad.off + (j + 1 + 1) } = some (.int .u8 b2)) (hx : b2 = 120) :
    Calls Tryd.prog 90 #[.slice (some ad) n c, .int .i64 (j : Int)] w fun e w' => e = .returned (crefD l 16 (j + 3)) ∧ w = w' := by
  have t1 : ((b2 : Int) == 120) = true := by simp; omega
  have t0 : decide ((n : Int) - (j : Int) < 3) = false := by simp; omega
  have HA1 := Lib.hid (add1_at ad j)
  have HA2 := Lib.hid (add2_at ad j)
  obtain ⟨V, hV⟩ : ∃ V, crefD l 16 (j + 3) = V := ⟨_, rfl⟩
  rw [hV]
  have HV := Lib.hid hV
  clear hV hx
  have hz0 : Hid (digZ l 16 n (j + 3) = digZ l 16 l.length (j + 3)) := by unfold Hid; rw [HN.out]
  have ht0 : Hid (digT l 16 n (j + 3) 0 = digT l 16 l.length (j + 3) 0) := by unfold Hid; rw [HN.out]
  go_enter Tryd.func90, Tryd.ntmps90
  go_wp2_with fail
  try rw [HA1.out]
  try rw [HA2.out]
  have d2 : decide (n < j) = false := by simp; omega
  simp only [d2, Bool.or_false]
  clear d2
  go_loop [9, 10] (fun r p => DigRel l 16 n (j + 3) 2000000 r p) (fun _ p => n - (intOf p).toNat)
  case atStart => exact digRel_mk (j + 3) n 0 0 (by omega) (Nat.le_refl _) (by omega) rfl (by omega) hz0.out ht0.out (by simp)
  case round =>
    obtain ⟨kk, f, T, x, hnf, hks, hkn, hx9, rfl, rfl, hZ, hTT, hX⟩ := hrel
    have HZ := Lib.hid hZ
    have HTT := Lib.hid hTT
    have HX := Lib.hid hX
    clear hZ hTT hX
    by_cases hlt : kk < n
    · obtain ⟨ad3, e3, hcell4⟩ := HS.out.byte (k := kk) (by rw [HN.out]; exact hlt)
      injection e3 with e3
      subst e3
      obtain ⟨b, hb⟩ : ∃ b, byteAt l kk = b := ⟨_, rfl⟩
      have hb256 := byteAt_lt l kk
      rw [hb] at hcell4 hb256
      obtain ⟨d, hd⟩ : ∃ d, digN (b : Int) 16 = d := ⟨_, rfl⟩
      have hdl : d < 16 := hd ▸ digN_le b 16 (by omega)
      have HD := Lib.hid (fun w => hd ▸ rdigit_any (b : Int) 16 w)
      have HBB := Lib.hid hb
      have HDD := Lib.hid hd
      clear hb hd
      by_cases hneg : d < 0
      · have hz1 := HZ.out
        have ht1 := HTT.out
        rw [digZ_out f kk (.inr (by rw [HBB.out, HDD.out]; exact hneg))] at hz1
        rw [digT_out f kk T (.inr (by rw [HBB.out, HDD.out]; exact hneg))] at ht1
        have Hz := Lib.hid hz1
        have Ht := Lib.hid ht1
        clear hz1 ht1
        by_cases hfirst : kk = j + 3
        · have HE := Lib.hid (crefD_7 Hz.out (.inl hfirst))
          have t3 : ((kk : Int) == (j : Int) + 3) = true := by simp; omega
          clear hfirst
          go_wp2_with fail
          refine (HD.out _).mono ?_
          rintro e w1 ⟨rfl, rfl⟩
          go_wp2_with fail
          go_ret3
          exact ⟨ret_v (HE.out.trans HV.out), rfl⟩
        · have t3 : ((kk : Int) == (j : Int) + 3) = false := by simp; omega
          by_cases h59 : b = 59
          · have hno : ¬ (kk = j + 3 ∨ kk = l.length ∨ byteAt l kk ≠ 59) := by rw [HN.out, HBB.out]; omega
            have hcc := char_cap 2000000 (by omega) HX.out
            have HC := rchar3_any (x : Int) w
            have t2 : ((b : Int) != 59) = false := by rw [h59]; rfl
            cases hq : hasT charT (x : Int) with
            | false =>
              rw [hq] at HC hcc
              have HE := Lib.hid (crefD_6 Hz.out Ht.out hno hcc.symm)
              have HCC := Lib.hid HC
              clear hno hcc HC hq h59
              go_wp2_with fail
              refine (HD.out _).mono ?_
              rintro e w1 ⟨rfl, rfl⟩
              go_wp2_with fail
              refine HCC.out.mono ?_
              rintro e w1 ⟨rfl, rfl⟩
              go_wp2_with fail
              go_ret3
              exact ⟨ret_v (HE.out.trans HV.out), rfl⟩
            | true =>
              have hxT := char_low 2000000 (by omega) HX.out hq
              rw [hq] at HC hcc
              have HE := Lib.hid (crefD_ok Hz.out Ht.out hno hcc.symm)
              rw [← hxT] at HE
              have HCC := Lib.hid HC
              clear hno hcc HC hq h59 hxT
              go_wp2_with fail
              refine (HD.out _).mono ?_
              rintro e w1 ⟨rfl, rfl⟩
              go_wp2_with fail
              refine HCC.out.mono ?_
              rintro e w1 ⟨rfl, rfl⟩
              go_wp2_with fail
              go_ret3
              exact ⟨ret_v (HE.out.trans HV.out), rfl⟩
          · have HE := Lib.hid (crefD_7 Hz.out (.inr (.inr (by rw [HBB.out]; exact h59))))
            have t2 : ((b : Int) != 59) = true := by simp; omega
            clear h59
            go_wp2_with fail
            refine (HD.out _).mono ?_
            rintro e w1 ⟨rfl, rfl⟩
            go_wp2_with fail
            go_ret3
            exact ⟨ret_v (HE.out.trans HV.out), rfl⟩
      · obtain ⟨g, rfl⟩ : ∃ g, f = g + 1 := ⟨f - 1, by omega⟩
        obtain ⟨dn, rfl⟩ : ∃ dn : Nat, d = dn := ⟨d.toNat, by omega⟩
        have hz1 := HZ.out
        have ht1 := HTT.out
        rw [digZ_on g kk (by rw [HN.out]; exact hlt) (by rw [HBB.out, HDD.out]; omega)] at hz1
        rw [digT_on g kk T (by rw [HN.out]; exact hlt) (by rw [HBB.out, HDD.out]; omega), HBB.out, HDD.out, Int.toNat_natCast] at ht1
        have Hz := Lib.hid hz1
        have Ht := Lib.hid ht1
        have HXX := Lib.hid (cap16d (d := dn) HX.out)
        clear hz1 ht1
        by_cases hcap : x * 16 + dn ≤ 2000000
        · go_wp2_with fail
          refine (HD.out _).mono ?_
          rintro e w1 ⟨rfl, rfl⟩
          go_wp2_with fail
          refine (HD.out _).mono ?_
          rintro e w1 ⟨rfl, rfl⟩
          go_wp2_with fail
          all_goals
            first
            | (exfalso; omega)
            | (go_round
               case rel =>
                 refine digRel_mk (kk + 1) g (T * (16 : Int).toNat + dn) (x * 16 + dn) ?_ ?_ ?_ ?_ ?_ Hz.out Ht.out ?_
                 · omega
                 · omega
                 · omega
                 · omega
                 · omega
                 · have h := HXX.out
                   simp at h ⊢
                   omega
               case measure => simp [intOf]; omega)
        · go_wp2_with fail
          refine (HD.out _).mono ?_
          rintro e w1 ⟨rfl, rfl⟩
          go_wp2_with fail
          refine (HD.out _).mono ?_
          rintro e w1 ⟨rfl, rfl⟩
          go_wp2_with fail
          all_goals
            first
            | (exfalso; omega)
            | (go_round
               case rel =>
                 refine digRel_mk (kk + 1) g (T * (16 : Int).toNat + dn) 2000000 ?_ ?_ ?_ ?_ ?_ Hz.out Ht.out ?_
                 · omega
                 · omega
                 · omega
                 · omega
                 · omega
                 · have h := HXX.out
                   simp at h ⊢
                   omega
               case measure => simp [intOf]; omega)
    · obtain rfl : kk = n := by omega
      have hz1 := HZ.out
      rw [digZ_out f kk (.inl (by rw [HN.out]; exact Nat.le_refl _))] at hz1
      have HE := Lib.hid (crefD_7 hz1 (.inr (.inl HN.out.symm)))
      clear hz1
      by_cases hfirst : kk = j + 3
      · have t3 : ((kk : Int) == (j : Int) + 3) = true := by simp; omega
        clear hfirst
        go_wp2_with fail
        go_ret3
        exact ⟨ret_v (HE.out.trans HV.out), rfl⟩
      · have t3 : ((kk : Int) == (j : Int) + 3) = false := by simp; omega
        clear hfirst
        go_wp2_with fail
        go_ret3
        exact ⟨ret_v (HE.out.trans HV.out), rfl⟩

set_option maxHeartbeats 4000000 in
theorem rchar_10 (l : List UInt8) (ad : Addr) (n c j : Nat) (w : World)
    (HN : Hid (l.length = n)) (hnc : n ≤ c) (hm : c ≤ 9223372036854775807) (hn9 : n ≤ 1000000) (HS : Hid (Sees w (some ad) (vB l))) (hj3 : j + 2 < n)
    (h0 : w.cell? (ad.add j) = some (.int .u8 38)) (h1 : w.cell? { block := ad.block, off := ad.off + (j + 1) } = some (.int .u8 35))
    (b2 : Nat) (hb2l : b2 < 256) (h2 : w.cell? { block := ad.block, off := ad.off + (j + 1 + 1) } = some (.int .u8 b2)) (hx : ¬ b2 = 120) :
    Calls Tryd.prog 90 #[.slice (some ad) n c, .int .i64 (j : Int)] w fun e w' => e = .returned (crefD l 10 (j + 2)) ∧ w = w' := by
  have t1 : ((b2 : Int) == 120) = false := by simp; omega
  have t0 : decide ((n : Int) - (j : Int) < 3) = false := by simp; omega
  have HA1 := Lib.hid (add1_at ad j)
  have HA2 := Lib.hid (add2_at ad j)
  obtain ⟨V, hV⟩ : ∃ V, crefD l 10 (j + 2) = V := ⟨_, rfl⟩
  rw [hV]
  have HV := Lib.hid hV
  clear hV hx
  have hz0 : Hid (digZ l 10 n (j + 2) = digZ l 10 l.length (j + 2)) := by unfold Hid; rw [HN.out]
  have ht0 : Hid (digT l 10 n (j + 2) 0 = digT l 10 l.length (j + 2) 0) := by unfold Hid; rw [HN.out]
  go_enter Tryd.func90, Tryd.ntmps90
  go_wp2_with fail
  try rw [HA1.out]
  try rw [HA2.out]
  have d2 : decide (n < j) = false := by simp; omega
  simp only [d2, Bool.or_false]
  clear d2
  go_loop [9, 10] (fun r p => DigRel l 10 n (j + 2) 2000000 r p) (fun _ p => n - (intOf p).toNat)
  case atStart => exact digRel_mk (j + 2) n 0 0 (by omega) (Nat.le_refl _) (by omega) rfl (by omega) hz0.out ht0.out (by simp)
  case round =>
    obtain ⟨kk, f, T, x, hnf, hks, hkn, hx9, rfl, rfl, hZ, hTT, hX⟩ := hrel
    have HZ := Lib.hid hZ
    have HTT := Lib.hid hTT
    have HX := Lib.hid hX
    clear hZ hTT hX
    by_cases hlt : kk < n
    · obtain ⟨ad3, e3, hcell4⟩ := HS.out.byte (k := kk) (by rw [HN.out]; exact hlt)
      injection e3 with e3
      subst e3
      obtain ⟨b, hb⟩ : ∃ b, byteAt l kk = b := ⟨_, rfl⟩
      have hb256 := byteAt_lt l kk
      rw [hb] at hcell4 hb256
      obtain ⟨d, hd⟩ : ∃ d, digN (b : Int) 10 = d := ⟨_, rfl⟩
      have hdl : d < 10 := hd ▸ digN_le b 10 (by omega)
      have HD := Lib.hid (fun w => hd ▸ rdigit_any (b : Int) 10 w)
      have HBB := Lib.hid hb
      have HDD := Lib.hid hd
      clear hb hd
      by_cases hneg : d < 0
      · have hz1 := HZ.out
        have ht1 := HTT.out
        rw [digZ_out f kk (.inr (by rw [HBB.out, HDD.out]; exact hneg))] at hz1
        rw [digT_out f kk T (.inr (by rw [HBB.out, HDD.out]; exact hneg))] at ht1
        have Hz := Lib.hid hz1
        have Ht := Lib.hid ht1
        clear hz1 ht1
        by_cases hfirst : kk = j + 2
        · have HE := Lib.hid (crefD_7 Hz.out (.inl hfirst))
          have t3 : ((kk : Int) == (j : Int) + 2) = true := by simp; omega
          clear hfirst
          go_wp2_with fail
          refine (HD.out _).mono ?_
          rintro e w1 ⟨rfl, rfl⟩
          go_wp2_with fail
          go_ret3
          exact ⟨ret_v (HE.out.trans HV.out), rfl⟩
        · have t3 : ((kk : Int) == (j : Int) + 2) = false := by simp; omega
          by_cases h59 : b = 59
          · have hno : ¬ (kk = j + 2 ∨ kk = l.length ∨ byteAt l kk ≠ 59) := by rw [HN.out, HBB.out]; omega
            have hcc := char_cap 2000000 (by omega) HX.out
            have HC := rchar3_any (x : Int) w
            have t2 : ((b : Int) != 59) = false := by rw [h59]; rfl
            cases hq : hasT charT (x : Int) with
            | false =>
              rw [hq] at HC hcc
              have HE := Lib.hid (crefD_6 Hz.out Ht.out hno hcc.symm)
              have HCC := Lib.hid HC
              clear hno hcc HC hq h59
              go_wp2_with fail
              refine (HD.out _).mono ?_
              rintro e w1 ⟨rfl, rfl⟩
              go_wp2_with fail
              refine HCC.out.mono ?_
              rintro e w1 ⟨rfl, rfl⟩
              go_wp2_with fail
              go_ret3
              exact ⟨ret_v (HE.out.trans HV.out), rfl⟩
            | true =>
              have hxT := char_low 2000000 (by omega) HX.out hq
              rw [hq] at HC hcc
              have HE := Lib.hid (crefD_ok Hz.out Ht.out hno hcc.symm)
              rw [← hxT] at HE
              have HCC := Lib.hid HC
              clear hno hcc HC hq h59 hxT
              go_wp2_with fail
              refine (HD.out _).mono ?_
              rintro e w1 ⟨rfl, rfl⟩
              go_wp2_with fail
              refine HCC.out.mono ?_
              rintro e w1 ⟨rfl, rfl⟩
              go_wp2_with fail
              go_ret3
              exact ⟨ret_v (HE.out.trans HV.out), rfl⟩
          · have HE := Lib.hid (crefD_7 Hz.out (.inr (.inr (by rw [HBB.out]; exact h59))))
            have t2 : ((b : Int) != 59) = true := by simp; omega
            clear h59
            go_wp2_with fail
            refine (HD.out _).mono ?_
            rintro e w1 ⟨rfl, rfl⟩
            go_wp2_with fail
            go_ret3
            exact ⟨ret_v (HE.out.trans HV.out), rfl⟩
      · obtain ⟨g, rfl⟩ : ∃ g, f = g + 1 := ⟨f - 1, by omega⟩
        obtain ⟨dn, rfl⟩ : ∃ dn : Nat, d = dn := ⟨d.toNat, by omega⟩
        have hz1 := HZ.out
        have ht1 := HTT.out
        rw [digZ_on g kk (by rw [HN.out]; exact hlt) (by rw [HBB.out, HDD.out]; omega)] at hz1
        rw [digT_on g kk T (by rw [HN.out]; exact hlt) (by rw [HBB.out, HDD.out]; omega), HBB.out, HDD.out, Int.toNat_natCast] at ht1
        have Hz := Lib.hid hz1
        have Ht := Lib.hid ht1
        have HXX := Lib.hid (cap10d (d := dn) HX.out)
        clear hz1 ht1
        by_cases hcap : x * 10 + dn ≤ 2000000
        · go_wp2_with fail
          refine (HD.out _).mono ?_
          rintro e w1 ⟨rfl, rfl⟩
          go_wp2_with fail
          refine (HD.out _).mono ?_
          rintro e w1 ⟨rfl, rfl⟩
          go_wp2_with fail
          all_goals
            first
            | (exfalso; omega)
            | (go_round
               case rel =>
                 refine digRel_mk (kk + 1) g (T * (10 : Int).toNat + dn) (x * 10 + dn) ?_ ?_ ?_ ?_ ?_ Hz.out Ht.out ?_
                 · omega
                 · omega
                 · omega
                 · omega
                 · omega
                 · have h := HXX.out
                   simp at h ⊢
                   omega
               case measure => simp [intOf]; omega)
        · go_wp2_with fail
          refine (HD.out _).mono ?_
          rintro e w1 ⟨rfl, rfl⟩
          go_wp2_with fail
          refine (HD.out _).mono ?_
          rintro e w1 ⟨rfl, rfl⟩
          go_wp2_with fail
          all_goals
            first
            | (exfalso; omega)
            | (go_round
               case rel =>
                 refine digRel_mk (kk + 1) g (T * (10 : Int).toNat + dn) 2000000 ?_ ?_ ?_ ?_ ?_ Hz.out Ht.out ?_
                 · omega
                 · omega
                 · omega
                 · omega
                 · omega
                 · have h := HXX.out
                   simp at h ⊢
                   omega
               case measure => simp [intOf]; omega)
    · obtain rfl : kk = n := by omega
      have hz1 := HZ.out
      rw [digZ_out f kk (.inl (by rw [HN.out]; exact Nat.le_refl _))] at hz1
      have HE := Lib.hid (crefD_7 hz1 (.inr (.inl HN.out.symm)))
      clear hz1
      by_cases hfirst : kk = j + 2
      · have t3 : ((kk : Int) == (j : Int) + 2) = true := by simp; omega
        clear hfirst
        go_wp2_with fail
        go_ret3
        exact ⟨ret_v (HE.out.trans HV.out), rfl⟩
      · have t3 : ((kk : Int) == (j : Int) + 2) = false := by simp; omega
        clear hfirst
        go_wp2_with fail
        go_ret3
        exact ⟨ret_v (HE.out.trans HV.out), rfl⟩

set_option maxHeartbeats 4000000 in
theorem rchar6_any (l : List UInt8) (A : Option Addr) (n c : Nat) (k : Int) (w : World)
    (hn : l.length = n) (hnc : n ≤ c) (hm : c ≤ 9223372036854775807) (hk : I64 k) (hn9 : n ≤ 1000000) (hs : Sees w A (vB l)) :
    Calls Tryd.prog 90 #[.slice A n c, .int .i64 k] w fun e w' => e = .returned (chV l k) ∧ w = w' := by
  have hkl := hk.1
  have hkh := hk.2
  by_cases hout : k < 0 ∨ (n : Int) < k
  · have hv : chV l k = noC 3 := by rw [chV, if_pos (by rw [hn]; exact hout)]
    rw [hv]
    clear hv
    unfold noC
    rcases hout with h0 | h0
    all_goals
      go_enter Tryd.func90, Tryd.ntmps90
      go_wp2_with fail
      go_ret3
      exact ⟨rfl, rfl⟩
  · obtain ⟨j, rfl⟩ : ∃ j : Nat, k = j := ⟨k.toNat, by omega⟩
    have hj : j ≤ n := by omega
    by_cases hshort : n < j + 3
    · have hv : chV l j = noC 7 := by rw [chV, if_neg (by omega), Int.toNat_natCast, if_pos (.inl (by omega))]
      have t0 : decide ((n : Int) - (j : Int) < 3) = true := by simp; omega
      rw [hv]
      clear hv hs hn
      unfold noC
      go_enter Tryd.func90, Tryd.ntmps90
      go_wp2_with fail
      go_ret3
      exact ⟨rfl, rfl⟩
    · have t0 : decide ((n : Int) - (j : Int) < 3) = false := by simp; omega
      have hjl : j < n := by omega
      obtain ⟨ad, rfl, h0⟩ := hs.byte (k := j) (by omega)
      obtain ⟨ad1, e1, h1⟩ := hs.byte (k := j + 1) (by omega)
      injection e1 with e1
      subst e1
      obtain ⟨ad2, e2, h2⟩ := hs.byte (k := j + 2) (by omega)
      injection e2 with e2
      subst e2
      rw [add1_at] at h1
      rw [add2_at] at h2
      obtain ⟨b0, hb0⟩ : ∃ b0, byteAt l j = b0 := ⟨_, rfl⟩
      obtain ⟨b1, hb1⟩ : ∃ b1, byteAt l (j + 1) = b1 := ⟨_, rfl⟩
      obtain ⟨b2, hb2⟩ : ∃ b2, byteAt l (j + 2) = b2 := ⟨_, rfl⟩
      have g0 := byteAt_lt l j
      have g1 := byteAt_lt l (j + 1)
      have g2 := byteAt_lt l (j + 2)
      rw [hb0] at h0 g0
      rw [hb1] at h1 g1
      rw [hb2] at h2 g2
      have hv : chV l j = if b0 ≠ 38 ∨ b1 ≠ 35 then noC 7 else if b2 = 120 then crefD l 16 (j + 3) else crefD l 10 (j + 2) := by
        rw [chV, if_neg (by omega), Int.toNat_natCast, hb0, hb1, hb2]
        by_cases hh : b0 ≠ 38 ∨ b1 ≠ 35
        · rw [if_pos (.inr hh), if_pos hh]
        · rw [if_neg (by omega), if_neg hh]
      rw [hv]
      clear hv hb0 hb1 hb2
      by_cases q0 : b0 = 38
      · by_cases q1 : b1 = 35
        · subst q0 q1
          rw [if_neg (by omega)]
          have HN := Lib.hid hn
          have HS := Lib.hid hs
          by_cases q2 : b2 = 120
          · rw [if_pos q2]
            exact rchar_16 l ad n c j w HN hnc hm hn9 HS (by omega) h0 h1 b2 g2 h2 q2
          · rw [if_neg q2]
            exact rchar_10 l ad n c j w HN hnc hm hn9 HS (by omega) h0 h1 b2 g2 h2 q2
        · rw [if_pos (.inr q1)]
          subst q0
          have t1 : ((b1 : Int) != 35) = true := by simp; omega
          clear hs hn q1
          unfold noC
          go_enter Tryd.func90, Tryd.ntmps90
          go_wp2_with fail
          go_ret3
          exact ⟨rfl, rfl⟩
      · rw [if_pos (.inl q0)]
        have t1 : ((b0 : Int) != 38) = true := by simp; omega
        clear hs hn q0
        unfold noC
        go_enter Tryd.func90, Tryd.ntmps90
        go_wp2_with fail
        go_ret3
        exact ⟨rfl, rfl⟩
end Go.Proofs.YtdmfladcldkmeaaDoor
