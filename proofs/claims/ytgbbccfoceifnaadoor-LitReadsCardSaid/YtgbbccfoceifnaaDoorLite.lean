/- References of a text, by the document; a byte in a text; what stands between quotes, by the document. -/
import Derived.Test.YtgbbccfoceifnaaDoorLitc
import Derived.Test.YtgbbccfoceifnaaDoorLitd
namespace Go.Proofs.YtgbbccfoceifnaaDoor
open Go.ChangeShapes Go.WideShapes Go.ChangeAt Go.RowKit
set_option linter.unusedVariables false
set_option maxRecDepth 100000

set_option maxHeartbeats 4000000 in
theorem rrefs_any (l : List UInt8) (w : World) (hl : l.length ≤ 1000000) (ht : TabN w) :
    Calls Tryd.prog 24 #[strV l] w fun e w' => e = .returned (refsV l) ∧ Below w.heap.size w w' := by
  obtain ⟨B, cap, W1, hrun, hc1, hc2, hb1, hBl, hBw, hs1⟩ := bytes_made l w hl
  have ht1 := ht.below hb1
  have HS := Lib.hid hs1
  have HT := Lib.hid ht1
  have hsz1 := hb1.size
  unfold refsV
  obtain ⟨R, hR⟩ : ∃ R, refsN l l.length 0 = R := ⟨_, rfl⟩
  have HR0 := Lib.hid hR
  rw [hR]
  clear hs1 ht1 ht hR
  go_enter Tryd.func24, Tryd.ntmps24
  go_wp2_with fail
  go_loopw [5] (fun i wr => RefRel l R W1 i wr) (fun i _ => l.length - (intOf i).toNat)
  case atStart => exact refRel_mk 0 l.length (by omega) (by omega) rfl HR0.out (Below.refl _ _)
  case round =>
    obtain ⟨k, f, hk, hf, rfl, hr, hB⟩ := hrel
    have HR := Lib.hid hr
    clear hr
    by_cases hlt : k < l.length
    · have hcell := cell_off (HS.out.below hB) hlt
      obtain ⟨b, hb⟩ : ∃ b, byteAt l k = b := ⟨_, rfl⟩
      have hb9 := byteAt_lt l k
      rw [hb] at hcell hb9
      obtain ⟨g, rfl⟩ : ∃ g, f = g + 1 := ⟨f - 1, by omega⟩
      by_cases h38 : b = 38
      · have h38' : byteAt l k = 38 := by rw [hb, h38]
        have t0 : ((b : Int) != 38) = false := by rw [h38]; rfl
        have HC := rchar6_any l (some ⟨B, 0, none⟩) l.length cap k wr rfl hc1 hc2 ⟨by omega, by omega⟩ hl (HS.out.below hB)
        have HE := rent_any l (some ⟨B, 0, none⟩) l.length cap k 38 wr rfl hc1 hc2 ⟨by omega, by omega⟩ hl (by omega) (HS.out.below hB) (HT.out.below hB)
        obtain ⟨x1, x2, x3, hv⟩ := chV_tup l k
        obtain ⟨y1, y2, y3, hv2⟩ := entV_tup l k 38
        rw [hv] at HC
        rw [hv2] at HE
        have KC := Lib.hid HC
        have KE := Lib.hid HE
        clear HC HE
        by_cases h1 : k + 1 < l.length
        · have hcell2 := cell_off (HS.out.below hB) h1
          obtain ⟨d, hd⟩ : ∃ d, byteAt l (k + 1) = d := ⟨_, rfl⟩
          have hd9 := byteAt_lt l (k + 1)
          rw [hd] at hcell2 hd9
          by_cases h35 : d = 35
          · have hbh : bhN l k = (x2, x3) := by unfold bhN; rw [if_pos ⟨h1, by rw [hd]; exact h35⟩, hv]; rfl
            have t1 : ((d : Int) == 35) = true := by rw [h35]; rfl
            by_cases he : x3 = 0
            · obtain ⟨m, hm1, hm2, hm3⟩ := bh_go (l := l) (k := k) hlt (by rw [hbh]; exact he)
              have hon := refs_on (l := l) g k m hlt h38' (by rw [hbh]; exact he) hm1
              rw [hbh] at hm1
              simp only at hm1
              subst hm1 he
              have HN := Lib.hid (hon.symm.trans HR.out)
              clear hv hv2 hb hd h38 h35 h38' hbh hon
              go_wp2_with fail
              refine KC.out.mono ?_
              rintro e w2 ⟨rfl, rfl⟩
              go_wp2_with fail
              go_roundw
              case rel => exact refRel_mk m g hm3 (by omega) rfl HN.out hB
              case measure => simp [intOf]; omega
            · have her := refs_err (l := l) g k hlt h38' (by rw [hbh]; exact he)
              rw [hbh] at her
              have t2 : (x3 != 0) = true := by simpa using he
              have HN := Lib.hid (her.symm.trans HR.out)
              clear hv hv2 hb hd h38 h35 h38' hbh her he
              go_wp2_with fail
              refine KC.out.mono ?_
              rintro e w2 ⟨rfl, rfl⟩
              go_wp2_with fail
              go_ret2
              exact ⟨ret_ii (congrArg Prod.fst HN.out) (congrArg Prod.snd HN.out), hb1.trans (hB.mono hsz1)⟩
          · have hbh : bhN l k = (y2, y3) := by unfold bhN; rw [if_neg (by rintro ⟨_, h⟩; rw [hd] at h; exact h35 h), hv2]; rfl
            have t1 : ((d : Int) == 35) = false := by simp; omega
            by_cases he : y3 = 0
            · obtain ⟨m, hm1, hm2, hm3⟩ := bh_go (l := l) (k := k) hlt (by rw [hbh]; exact he)
              have hon := refs_on (l := l) g k m hlt h38' (by rw [hbh]; exact he) hm1
              rw [hbh] at hm1
              simp only at hm1
              subst hm1 he
              have HN := Lib.hid (hon.symm.trans HR.out)
              clear hv hv2 hb hd h38 h35 h38' hbh hon
              go_wp2_with fail
              refine KE.out.mono ?_
              rintro e w2 ⟨rfl, hb2⟩
              have hB2 := hB.trans (hb2.mono hB.size)
              clear hb2
              go_wp2_with fail
              go_roundw
              case rel => exact refRel_mk m g hm3 (by omega) rfl HN.out hB2
              case measure => simp [intOf]; omega
            · have her := refs_err (l := l) g k hlt h38' (by rw [hbh]; exact he)
              rw [hbh] at her
              have t2 : (y3 != 0) = true := by simpa using he
              have HN := Lib.hid (her.symm.trans HR.out)
              clear hv hv2 hb hd h38 h35 h38' hbh her he
              go_wp2_with fail
              refine KE.out.mono ?_
              rintro e w2 ⟨rfl, hb2⟩
              have hB2 := hB.trans (hb2.mono hB.size)
              clear hb2
              go_wp2_with fail
              go_ret2
              exact ⟨ret_ii (congrArg Prod.fst HN.out) (congrArg Prod.snd HN.out), hb1.trans (hB2.mono hsz1)⟩
        · have hbh : bhN l k = (y2, y3) := by unfold bhN; rw [if_neg (by rintro ⟨h, _⟩; exact h1 h), hv2]; rfl
          by_cases he : y3 = 0
          · obtain ⟨m, hm1, hm2, hm3⟩ := bh_go (l := l) (k := k) hlt (by rw [hbh]; exact he)
            have hon := refs_on (l := l) g k m hlt h38' (by rw [hbh]; exact he) hm1
            rw [hbh] at hm1
            simp only at hm1
            subst hm1 he
            have HN := Lib.hid (hon.symm.trans HR.out)
            clear hv hv2 hb h38 h38' hbh hon
            go_wp2_with fail
            refine KE.out.mono ?_
            rintro e w2 ⟨rfl, hb2⟩
            have hB2 := hB.trans (hb2.mono hB.size)
            clear hb2
            go_wp2_with fail
            go_roundw
            case rel => exact refRel_mk m g hm3 (by omega) rfl HN.out hB2
            case measure => simp [intOf]; omega
          · have her := refs_err (l := l) g k hlt h38' (by rw [hbh]; exact he)
            rw [hbh] at her
            have t2 : (y3 != 0) = true := by simpa using he
            have HN := Lib.hid (her.symm.trans HR.out)
            clear hv hv2 hb h38 h38' hbh her he
            go_wp2_with fail
            refine KE.out.mono ?_
            rintro e w2 ⟨rfl, hb2⟩
            have hB2 := hB.trans (hb2.mono hB.size)
            clear hb2
            go_wp2_with fail
            go_ret2
            exact ⟨ret_ii (congrArg Prod.fst HN.out) (congrArg Prod.snd HN.out), hb1.trans (hB2.mono hsz1)⟩
      · have t0 : ((b : Int) != 38) = true := by simp; omega
        have HN := Lib.hid ((refs_one (l := l) g k hlt (by rw [hb]; exact h38)).symm.trans HR.out)
        clear hb h38
        go_wp2_with fail
        go_roundw
        case rel => exact refRel_mk (k + 1) g (by omega) (by omega) (by omega) HN.out hB
        case measure => simp [intOf]; omega
    · obtain rfl : k = l.length := by omega
      have HE := Lib.hid (refs_end (l := l) f l.length (Nat.le_refl _))
      go_wp2_with fail
      go_ret2
      exact ⟨ret_ii (by rw [← HR.out, HE.out]) (by rw [← HR.out, HE.out]), hb1.trans (hB.mono hsz1)⟩

set_option maxHeartbeats 1000000 in
theorem rhas_any (l : List UInt8) (b : Nat) (w : World) (hl : l.length ≤ 1000000) (hb : b < 256) :
    Calls Tryd.prog 67 #[strV l, .int .u8 (b : Int)] w fun e w' => e = .returned (.bool (decide (0 ≤ Lib.indexByte l (UInt8.ofNat b)))) ∧ w = w' := by
  have hsc := scan_ix (l := l) (b := b) (a := 0) hb (by omega)
  rw [List.drop_zero] at hsc
  obtain ⟨q, hq⟩ : ∃ q, decide (0 ≤ Lib.indexByte l (UInt8.ofNat b)) = q := ⟨_, rfl⟩
  have HY : Hid (scanN l b l.length 0 < l.length → true = q) := by
    unfold Hid
    intro h
    rcases hsc with ⟨_, h2⟩ | ⟨i, h1, _, _, _⟩
    · omega
    · rw [← hq, h1]; symm; rw [decide_eq_true_eq]; omega
  have HX : Hid (scanN l b l.length 0 = l.length → false = q) := by
    unfold Hid
    intro h
    rcases hsc with ⟨h1, _⟩ | ⟨i, h1, h2, h3, _⟩
    · rw [← hq, h1]; rfl
    · omega
  rw [hq]
  have HSZ := str_size l
  clear hq hsc
  go_enter Tryd.func67, Tryd.ntmps67
  go_wp2_with fail
  go_loop [5] (fun i => ∃ kk f : Nat, l.length ≤ kk + f ∧ kk ≤ l.length ∧ i = .int .i64 kk ∧ Hid (scanN l b f kk = scanN l b l.length 0)) (fun i => l.length - (intOf i).toNat)
  case atStart => exact ⟨0, l.length, by omega, by omega, rfl, rfl⟩
  case round =>
    obtain ⟨kk, f, hnf, hkn, rfl, HZ⟩ := hrel
    by_cases hlt : kk < l.length
    · have hix := str_idx l kk hlt
      obtain ⟨d, hd⟩ : ∃ d, byteAt l kk = d := ⟨_, rfl⟩
      have hd9 := byteAt_lt l kk
      rw [hd] at hix hd9
      by_cases hdb : d = b
      · have t1 : ((d : Int) == (b : Int)) = true := by rw [hdb]; simp
        have hz := HZ.out
        rw [scan_out f kk (.inr (by rw [hd]; exact hdb))] at hz
        have HR := Lib.hid (HY.out (by rw [← hz]; exact hlt))
        clear hd hdb hz
        go_wp2_with fail
        go_ret
        exact ⟨ret_bool HR.out, rfl⟩
      · have t1 : ((d : Int) == (b : Int)) = false := by simp; omega
        obtain ⟨g, rfl⟩ : ∃ g, f = g + 1 := ⟨f - 1, by omega⟩
        have hz := HZ.out
        rw [scan_on g kk hlt (by rw [hd]; exact hdb)] at hz
        have Hz := Lib.hid hz
        clear hd hdb hz
        go_wp2_with fail
        go_round
        case rel => exact ⟨kk + 1, g, by omega, by omega, by go_num, Hz⟩
        case measure => simp [intOf]; omega
    · obtain rfl : kk = l.length := by omega
      have hz := HZ.out
      rw [scan_out f l.length (.inl (Nat.le_refl _))] at hz
      have HR := Lib.hid (HX.out hz.symm)
      clear hz
      go_wp2_with fail
      go_ret
      exact ⟨ret_bool HR.out, rfl⟩
end Go.Proofs.YtgbbccfoceifnaaDoor
