/- The walk of StackTurns. -/
import Derived.Test.YtpgpniemkmiljaaStkC
namespace Go.Proofs.Ytpgpniemkmiljaa
open Go.ChangeShapes Go.WideShapes Go.ChangeAt Go.RowKit
set_option linter.unusedVariables false

theorem take_snoc (l : List Int) (k : Nat) (h : k < l.length) : l.take (k + 1) = l.take k ++ [l[k]] := by
  rw [List.take_succ_eq_append_getElem h]
theorem Sees.num {w : World} {A : Option Addr} {l : List Int} (h : Sees w A (vK l)) {k : Nat} (hk : k < l.length) :
    ∃ ad, A = some ad ∧ w.cell? (ad.add k) = some (.int .i64 l[k]) := by
  obtain ⟨ad, u, e, hu, hc⟩ := h.at (k := k) (by rw [vK_len]; exact hk)
  unfold vK at hu
  rw [List.getElem?_map, List.getElem?_eq_getElem hk] at hu
  injection hu with hu
  exact ⟨ad, e, by rw [hc, ← hu]⟩

theorem Sees.num2 {w : World} {A : Option Addr} {l : List Int} (h : Sees w A (vK l)) {k : Nat} (hk : k < l.length) :
    ∃ ad x, A = some ad ∧ l.take (k + 1) = l.take k ++ [x] ∧ w.cell? (ad.add k) = some (.int .i64 x) ∧ l[k]? = some x := by
  obtain ⟨ad, e, hc⟩ := h.num hk
  exact ⟨ad, l[k], e, take_snoc l k hk, hc, List.getElem?_eq_getElem hk⟩

set_option maxRecDepth 100000 in
set_option maxHeartbeats 4000000 in
theorem stackTurns_any (l : List Int) (A : Option Addr) (len cap r : Nat) (w : World) (hlen : l.length = len) (hlc : len ≤ cap) (hcap : cap ≤ 9223372036854775807) (hs : Sees w A (vK l)) (hr : r < 256) :
    Calls Try.prog 8 #[.slice A len cap, .int .u8 r] w fun e w' => e = .returned (.bool true) ∧ Below w.heap.size w w' := by
  by_cases hl : 300 < len
  · go_enter Try.func8, Try.ntmps8
    go_wp2_with (go_at_call 29; refine (live12_any _).mono ?_; rintro e w3 ⟨rfl, hb3⟩)
    go_ret
    exact ⟨rfl, hb3⟩
  · have HL := Lib.hid hlen
    have HS := Lib.hid hs
    clear hlen hs
    go_enter Try.func8, Try.ntmps8
    go_wp2_with fail
    refine (stkNew_any r _ (by omega) (by omega)).mono ?_
    rintro e w1 ⟨rfl, hs1, hb1⟩
    have H1 := Lib.hid hs1
    clear hs1
    obtain ⟨p, hp⟩ : ∃ p, w.heap.size = p := ⟨_, rfl⟩
    have HP := Lib.hid hp
    rw [hp] at H1 hb1 ⊢
    clear hp
    go_wp2_with fail
    go_loopw [7, 8] (fun n i wr => ∃ k : Nat, k ≤ len ∧ i = .int .i64 k ∧ n = .int .i64 (min k r : Nat) ∧ Hid (Stk wr p r (l.take (min k r))) ∧ Below p w wr) (fun _ i _ => len - (intOf i).toNat)
    case atStart => exact ⟨0, by omega, rfl, by simp, by simpa using H1, hb1⟩
    case round =>
      obtain ⟨k, hk, rfl, rfl, HK, hB⟩ := hrel
      obtain ⟨j, hj⟩ : ∃ j, min k r = j := ⟨_, rfl⟩
      have hj1 : j ≤ k := by omega
      have hj2 : j ≤ r := by omega
      have HJ := Lib.hid hj
      rw [hj] at HK ⊢
      clear hj
      by_cases hlt : k < len
      · obtain ⟨ad, rfl, hc⟩ := (HS.out.below (HP.out ▸ hB)).num (k := k) (by rw [HL.out]; exact hlt)
        by_cases hkr : k < r
        · obtain rfl : j = k := by have := HJ.out; omega
          go_wp2_with fail
          refine (stkPush_room _ p r _ _ HK.out (by rw [List.length_take, HL.out]; omega) (by rw [List.length_take, HL.out]; omega)).mono ?_
          rintro e w2 ⟨rfl, hs2, hb2⟩
          have H2 := Lib.hid (show Stk w2 p r (l.take (j + 1)) by rw [take_snoc l j (by rw [HL.out]; exact hlt)]; exact hs2)
          clear hs2
          go_wp2_with fail
          go_roundw
          case rel => exact ⟨j + 1, by omega, by go_num, by rw [show min (j + 1) r = j + 1 by omega]; go_num, by rw [show min (j + 1) r = j + 1 by omega]; exact H2, hB.trans hb2⟩
          case measure => simp [intOf]; omega
        · obtain rfl : j = r := by have := HJ.out; omega
          go_wp2_with fail
          refine (stkPush_full _ p j _ _ HK.out (by rw [List.length_take, HL.out]; omega)).mono ?_
          rintro e w2 ⟨rfl, hs2, hb2⟩
          have H2 := Lib.hid hs2
          clear hs2
          have hsz := hB.size
          go_wp2_with fail
          go_roundw
          case rel => exact ⟨k + 1, by omega, by go_num, by rw [show min (k + 1) j = j by omega], by rw [show min (k + 1) j = j by omega]; exact H2, hB.trans (hb2.mono (by have := HP.out; omega))⟩
          case measure => simp [intOf]; omega
      · obtain rfl : k = len := by omega
        have D : (k ≤ r ∧ j = k) ∨ (r < k ∧ j = r) := by have := HJ.out; omega
        have HLn := Lib.hid (stkLen_any wr p r _ HK.out)
        have el : (l.take j).length = j := by rw [List.length_take, HL.out]; omega
        rw [el] at HLn
        clear el
        have hB0 := HP.out
        rcases D with ⟨d1, rfl⟩ | ⟨d1, rfl⟩
        · go_wp2_with (go_at_call 43; refine HLn.out.mono ?_; rintro e w' ⟨rfl, rfl⟩)
          go_loopw [9] (fun i wr => ∃ q : Nat, q ≤ j ∧ i = .int .i64 ((q : Int) - 1) ∧ Hid (Stk wr p r (l.take q)) ∧ Below p w wr) (fun i _ => (intOf i + 1).toNat)
          case atStart => exact ⟨j, Nat.le_refl _, rfl, HK, hB⟩
          case round =>
            obtain ⟨q, hq, rfl, HQ, hBq⟩ := hrel
            cases q with
            | succ q =>
              have hq2 : q < l.length := by rw [HL.out]; omega
              obtain ⟨ad, x, rfl, hx, hc, hxx⟩ := (HS.out.below (HP.out ▸ hBq)).num2 (k := q) hq2
              have HQ2 := Lib.hid (show Stk wr p r (l.take q ++ [x]) by rw [← hx]; exact HQ.out)
              have HL2 := Lib.hid hq2
              have HX := Lib.hid hxx
              clear HQ hc hq2 hx hxx
              have e0 : ((q + 1 : Nat) : Int) - 1 = (q : Int) := by omega
              rw [e0]
              go_wp2_with fail
              refine (stkPop_some _ p r _ _ HQ2.out (by rw [List.length_take]; omega)).mono ?_
              rintro e w2 ⟨rfl, hs2, hb2⟩
              have H2 := Lib.hid hs2
              obtain ⟨ad2, x2, e2, _, hc2, hx2⟩ := (HS.out.below (HP.out ▸ (hBq.trans hb2))).num2 (k := q) HL2.out
              injection e2 with e2
              subst e2
              obtain rfl : x = x2 := Option.some.inj (HX.out.symm.trans hx2)
              clear hx2
              have hqj : q < j := by omega
              clear hs2
              go_wp2_with fail
              go_roundw
              case rel => exact ⟨q, by omega, by go_num, H2, hBq.trans hb2⟩
              case measure => simp [intOf]
            | zero =>
              have hbs := hBq.size
              have hpz := hb1.size
              have HN0 := Lib.hid (stkPop_none _ p r HQ.out)
              go_wp2_with (first | (go_at_call 36; refine HN0.out.mono ?_; rintro e w' ⟨rfl, rfl⟩) | (go_at_call 29; refine (live12_any _).mono ?_; rintro e w3 ⟨rfl, hb3⟩))
              go_ret
              exact ⟨rfl, HP.out ▸ hBq.trans (hb3.mono (by have := hB.size; have := HP.out; have := hb1.size; omega))⟩
        · go_wp2_with (go_at_call 43; refine HLn.out.mono ?_; rintro e w' ⟨rfl, rfl⟩)
          go_loopw [9] (fun i wr => ∃ q : Nat, q ≤ j ∧ i = .int .i64 ((q : Int) - 1) ∧ Hid (Stk wr p j (l.take q)) ∧ Below p w wr) (fun i _ => (intOf i + 1).toNat)
          case atStart => exact ⟨j, Nat.le_refl _, rfl, HK, hB⟩
          case round =>
            obtain ⟨q, hq, rfl, HQ, hBq⟩ := hrel
            cases q with
            | succ q =>
              have hq2 : q < l.length := by rw [HL.out]; omega
              obtain ⟨ad, x, rfl, hx, hc, hxx⟩ := (HS.out.below (HP.out ▸ hBq)).num2 (k := q) hq2
              have HQ2 := Lib.hid (show Stk wr p j (l.take q ++ [x]) by rw [← hx]; exact HQ.out)
              have HL2 := Lib.hid hq2
              have HX := Lib.hid hxx
              clear HQ hc hq2 hx hxx
              have e0 : ((q + 1 : Nat) : Int) - 1 = (q : Int) := by omega
              rw [e0]
              go_wp2_with fail
              refine (stkPop_some _ p j _ _ HQ2.out (by rw [List.length_take]; omega)).mono ?_
              rintro e w2 ⟨rfl, hs2, hb2⟩
              have H2 := Lib.hid hs2
              obtain ⟨ad2, x2, e2, _, hc2, hx2⟩ := (HS.out.below (HP.out ▸ (hBq.trans hb2))).num2 (k := q) HL2.out
              injection e2 with e2
              subst e2
              obtain rfl : x = x2 := Option.some.inj (HX.out.symm.trans hx2)
              clear hx2
              have hqj : q < j := by omega
              clear hs2
              go_wp2_with fail
              go_roundw
              case rel => exact ⟨q, by omega, by go_num, H2, hBq.trans hb2⟩
              case measure => simp [intOf]
            | zero =>
              have hbs := hBq.size
              have hpz := hb1.size
              have HN0 := Lib.hid (stkPop_none _ p j HQ.out)
              go_wp2_with (first | (go_at_call 36; refine HN0.out.mono ?_; rintro e w' ⟨rfl, rfl⟩) | (go_at_call 29; refine (live12_any _).mono ?_; rintro e w3 ⟨rfl, hb3⟩))
              go_ret
              exact ⟨rfl, HP.out ▸ hBq.trans (hb3.mono (by have := hB.size; have := HP.out; have := hb1.size; omega))⟩
end Go.Proofs.Ytpgpniemkmiljaa
