/- The walk of JoinPuts. -/
import Derived.Test.YtoiplpmjocemfaaJpc
import Derived.Test.YtoiplpmjocemfaaJnr
import Derived.Test.YtoiplpmjocemfaaEwc
namespace Go.Proofs.Ytoiplpmjocemfaa
open Go.ChangeShapes Go.WideShapes Go.ChangeAt Go.RowKit
set_option linter.unusedVariables false
set_option maxRecDepth 100000

theorem evs_take {w : World} {A : Option Addr} {o : List Ev} (h : EvsOk w A o) (m : Nat) : EvsOk w A (o.take m) := by
  refine ⟨?_, fun e he => h.each e (List.mem_of_mem_take he)⟩
  have h1 := h.sees.take (evsV (o.take m)).length
  have h2 : evsV o = evsV (o.take m) ++ evsV (o.drop m) := by rw [← evsV_append, List.take_append_drop]
  rw [h2, List.take_left'] at h1
  · exact h1
  · rfl
def PutsRel (l : List Ev) (n m b0 : Nat) (w1 : World) (e i : Value) (wr : World) : Prop :=
  ∃ (j q dq n' d : Nat) (B T : Option Addr) (s : List UInt8) (o : List Ev) (r : Int), j ≤ n ∧ i = .int .i64 j ∧ e = .int .i64 r ∧ Hid (OutAt b0 (b0 + 1) b0 m wr B q dq o) ∧ Hid (PutAt b0 (b0 + 1) b0 (b0 + 2) wr T n' d s) ∧
    ((r = 0 ∧ joinN l j = (o, s) ∧ o.length ≤ m) ∨ (r = 11 ∧ m < (joinA l).length ∧ o = (joinA l).take m)) ∧ Hid (Below b0 w1 wr)

set_option maxHeartbeats 8000000 in
theorem joinPuts_any (l : List Ev) (A : Option Addr) (n c : Nat) (k : Nat) (w : World) (hl : l.length = n) (hnc : n ≤ c) (hc9 : c ≤ 9223372036854775807) (hn9 : n ≤ 400000) (ht : txLen l n ≤ 140737488355328) (hk : k ≤ 255) (hA : EvsOk w A l) :
    Calls Try.prog 7 #[.slice A n c, .int .u8 k] w fun e w' => e = .returned (.bool true) ∧ Below w.heap.size w w' := by
  have G1 := Lib.hid (great26_any l A n c w hl (by omega) hA)
  have HJL := Lib.hid (joinA_len l)
  have HOK := Lib.hid (fun (w' : World) (hb : Below w.heap.size w w') => FromJ.ok ((FromJ.join l l.length).flush : FromJ l (joinA l)) (hA.below hb).each)
  have HL := Lib.hid hl
  have HA := Lib.hid hA
  clear hl hA
  go_enter Try.func7, Try.ntmps7
  go_wp2_with fail
  refine G1.out.mono ?_
  rintro e w1 ⟨b1, rfl, hb1⟩
  cases b1 with
  | true =>
    go_wp2_with fail
    refine (live37_any _).mono ?_
    rintro e w2 ⟨rfl, hb2⟩
    go_wp2_with fail
    go_ret
    exact ⟨rfl, hb1.trans (hb2.mono hb1.size)⟩
  | false =>
  obtain ⟨m, hm⟩ : ∃ m, k % 10 = m := ⟨_, rfl⟩
  have hkm : (k : Int) % 10 = (m : Int) := by omega
  have hm9 : m ≤ 10 := by omega
  clear hm
  go_wp2_with fail
  simp only [hkm]
  refine (new_any _ _ _ _).mono ?_
  rintro e w2 ⟨rfl, hw2⟩
  have hh : ((w1.alloc (.cells #[.int .i64 m] 3)).alloc (.cells #[.slice none 0 0] 66)).heap.size = w1.heap.size + 2 := by simp
  rw [hh]
  have hb2 : Below w1.heap.size w1 w2 := by rw [hw2]; exact (((Below.refl _ _).alloc (Nat.le_refl _) _).alloc (by simp) _).alloc (by simp; omega) _
  have hN : w2.heap[w1.heap.size]? = some (.cells #[.int .i64 m] 3) := by
    rw [hw2]
    exact (Below.heap_alloc _ _ _ (by simp; omega)).trans ((Below.heap_alloc _ _ _ (by simp)).trans (alloc_at w1 _))
  have hC : w2.heap[w1.heap.size + 1]? = some (.cells #[.slice none 0 0] 66) := by
    have h := alloc_at (w1.alloc (.cells #[.int .i64 m] 3)) (.cells #[.slice none 0 0] 66)
    rw [World.size_alloc] at h
    rw [hw2]
    exact (Below.heap_alloc _ _ _ (by simp)).trans h
  have hJ : w2.heap[w1.heap.size + 2]? = some (.cells #[tellF (w1.heap.size + 1) w1.heap.size, .slice none 0 0] 118) := by
    have h := alloc_at ((w1.alloc (.cells #[.int .i64 m] 3)).alloc (.cells #[.slice none 0 0] 66)) (.cells #[tellF (w1.heap.size + 1) w1.heap.size, .slice none 0 0] 118)
    rw [hh] at h
    rw [hw2]
    exact h
  have HOUT : Hid (OutAt w1.heap.size (w1.heap.size + 1) w1.heap.size m w2 none 0 0 []) := ⟨hC, hN, World.ownsRow_nil _ _ _ _, rfl⟩
  have HPUT : Hid (PutAt w1.heap.size (w1.heap.size + 1) w1.heap.size (w1.heap.size + 2) w2 none 0 0 []) := ⟨hJ, World.ownsRow_nil _ _ _ _, rfl⟩
  have HB2 := Lib.hid hb2
  clear hw2 hN hC hJ hb2 hkm hh
  go_wp2_with fail
  go_loopw [8, 9] (fun e i wr => PutsRel l n m w1.heap.size w1 e i wr) (fun _ i _ => n - (intOf i).toNat)
  case atStart => exact ⟨0, 0, 0, 0, 0, none, none, [], [], 0, by omega, rfl, rfl, HOUT, HPUT, .inl ⟨rfl, rfl, by simp⟩, HB2⟩
  case round =>
    clear HOUT HPUT HB2
    obtain ⟨j, q, dq, n', d, B, T, s, o, r, hj, rfl, rfl, HAL, HPU, hr, HBW⟩ := hrel
    obtain ⟨W, hW⟩ : ∃ W, wr = W := ⟨_, rfl⟩
    rw [hW] at HAL HPU HBW ⊢
    clear hW
    rcases hr with ⟨rfl, hJN, hom⟩ | ⟨rfl, hml, ho⟩
    · by_cases hlt : j < n
      · obtain ⟨a, ha⟩ : ∃ a, l[j]? = some a := ⟨_, List.getElem?_eq_getElem (by rw [HL.out]; omega)⟩
        have hbA0 := hb1.trans (HBW.out.mono hb1.size)
        obtain ⟨x, rfl, x0, x1, x2, x3, x4⟩ := (HA.out.below hbA0).sees.ev ha
        have HN := Lib.hid (joinN_at ha)
        rw [hJN] at HN
        have hws := HBW.out.size
        have hbA := (Below.refl W.heap.size W).alloc (Nat.le_refl _) (.cells #[.int .i64 a.kind, .string a.sp, .string a.lo, .slice a.A a.at_.length a.c, .string a.tx] 76)
        have i0 : (0 : Int) ≤ (j : Int) := by omega
        have i1 : (j : Int) < (n : Int) := by omega
        have hqm : q ≤ m := by rw [← HAL.out.len]; exact hom
        by_cases hk3 : a.kind = 3
        · have hS : joinN l (j + 1) = (o, s ++ a.tx.toList) := by rw [HN.out]; unfold stepJ; rw [if_pos hk3]
          have hlen := (joinN_len l (j + 1)).2
          have hmono := txLen_mono l (show j + 1 ≤ n from hlt)
          rw [hS] at hlen
          simp only [List.length_append] at hlen
          have hjl := HPU.out.len
          have KP := Lib.hid (putTextP_any a w1.heap.size (w1.heap.size + 1) w1.heap.size (w1.heap.size + 2) m B T q dq n' d o s a.tx.toList W (by omega) (by omega) HAL.out HPU.out hk3 (str_eta _) (by omega))
          unfold evW at KP
          have HS := Lib.hid hS
          have HOM := Lib.hid hom
          clear ha hk3 hS hlen hmono hjl hJN hom
          go_wp2_with fail
          refine KP.out.mono ?_
          rintro en w3 ⟨rfl, T2, m2, d2, ha2, hj2, hb2⟩
          have HA2 := Lib.hid ha2
          have HJ2 := Lib.hid hj2
          have HB3 := Lib.hid (HBW.out.trans hb2)
          clear ha2 hj2 hb2
          go_wp2_with fail
          go_roundw
          case rel => exact ⟨j + 1, q, dq, m2, d2, B, T2, s ++ a.tx.toList, o, 0, by omega, by go_num, rfl, HA2, HJ2, .inl ⟨rfl, HS.out, HOM.out⟩, HB3⟩
          case measure => simp [intOf]; omega
        · have hS : joinN l (j + 1) = (flushJ (o, s) ++ [a], []) := by rw [HN.out]; unfold stepJ; rw [if_neg hk3]
          have KP' := putElseP_any a w1.heap.size (w1.heap.size + 1) w1.heap.size (w1.heap.size + 2) m B T q dq n' d o s W (by omega) (by omega) hws HAL.out HPU.out hk3 hqm (by omega)
          obtain ⟨r2, hr2⟩ : ∃ r : Int, (if (flushJ (o, s) ++ [a]).length ≤ m then (0 : Int) else 11) = r := ⟨_, rfl⟩
          rw [hr2] at KP'
          obtain ⟨o2, ho2⟩ : ∃ o2, flushJ (o, s) ++ [a] = o2 := ⟨_, rfl⟩
          rw [ho2] at KP' hr2 hS
          have KP := Lib.hid KP'
          unfold evW at KP
          have HR2 := Lib.hid hr2
          have HS := Lib.hid hS
          have HPR : Hid (o2 <+: joinA l) := by
            have h := join_preA l (j := j + 1) (by rw [HL.out]; omega)
            rw [hS] at h
            exact h
          clear ha hk3 hS hJN hom hr2 ho2 KP'
          go_wp2_with fail
          refine KP.out.mono ?_
          rintro en w3 ⟨rfl, hb2, ⟨B2, q2, dq2, ha2⟩, T2, n2, d2, hj2⟩
          have HA2 := Lib.hid ha2
          have HJ2 := Lib.hid hj2
          have HB3 := Lib.hid (HBW.out.trans hb2)
          clear ha2 hj2 hb2
          go_wp2_with fail
          go_roundw
          case rel =>
            refine ⟨j + 1, q2, dq2, n2, d2, B2, T2, [], o2.take m, r2, by omega, by go_num, rfl, HA2, HJ2, ?_, HB3⟩
            have hr := HR2.out
            by_cases hom : o2.length ≤ m
            · rw [if_pos hom] at hr
              exact .inl ⟨hr.symm, by rw [List.take_of_length_le hom]; exact HS.out, by rw [List.take_of_length_le hom]; exact hom⟩
            · rw [if_neg hom] at hr
              exact .inr ⟨hr.symm, by have := HPR.out.length_le; omega, take_pre HPR.out (by omega)⟩
          case measure => simp [intOf]; omega
      · obtain rfl : n = j := by omega
        have hqm : q ≤ m := by rw [← HAL.out.len]; exact hom
        have hFJ : flushJ (o, s) = joinA l := by unfold joinA; rw [HL.out, hJN]
        have KF' := flushP_any w1.heap.size (w1.heap.size + 1) w1.heap.size (w1.heap.size + 2) m B T q dq n' d o s W (by omega) (by omega) HAL.out HPU.out hqm (by omega)
        rw [hFJ] at KF'
        obtain ⟨r2, hr2⟩ : ∃ r : Int, (if (joinA l).length ≤ m then (0 : Int) else 11) = r := ⟨_, rfl⟩
        rw [hr2] at KF'
        have KF := Lib.hid KF'
        have HR2 := Lib.hid hr2
        have hjl := HJL.out
        rw [HL.out] at hjl
        clear hFJ KF' hr2 hJN hom hqm
        go_wp2_with fail
        refine KF.out.mono ?_
        rintro en W2 ⟨rfl, _, hb2, ⟨B2, q2, dq2, ha2⟩, T2, n2, d2, hj2⟩
        have HAL2 := Lib.hid ha2
        have HPU2 := Lib.hid hj2
        have HBW2 := Lib.hid (HBW.out.trans hb2)
        clear ha2 hj2 hb2 KF
        obtain ⟨o2, ho2⟩ : ∃ o2, (joinA l).take m = o2 := ⟨_, rfl⟩
        have HO2 := Lib.hid ho2.symm
        rw [ho2] at HAL2
        clear ho2
        by_cases hml : (joinA l).length ≤ m
        · have hr := HR2.out
          rw [if_pos hml] at hr
          subst hr
          clear HR2
          have R1' := rjoin_any l A n c W2 HL.out hnc hc9 (by omega) (by omega) (HA.out.below (hb1.trans (HBW2.out.mono hb1.size)))
          have R1 := Lib.hid R1'
          have hLq : (joinA l).length = q2 := by rw [← HAL2.out.len, HO2.out, List.length_take]; omega
          clear R1'
          go_wp2_with fail
          refine R1.out.mono ?_
          rintro en w3 ⟨A3, c3, rfl, hok3, hlc3, hc3, b3⟩
          have hal3 := HAL2.out.below b3
          have hpu3 := HPU2.out.below b3
          have hbw3 := HBW2.out.trans (b3.mono HBW2.out.size)
          have hnn : w3.cell? ⟨w1.heap.size, 0, none⟩ = some (.int .i64 m) := cell_at (k := 0) hal3.num rfl
          have hcc : w3.cell? ⟨w1.heap.size + 1, 0, none⟩ = some (.slice B2 q2 dq2) := cell_at (k := 0) hal3.cell rfl
          have KS' := same_any o2 (joinA l) B2 A3 q2 q2 dq2 c3 w3 HAL2.out.len hLq (by omega) (by omega) ⟨own_seesK hal3.row, fun e he => (HOK.out w3 (hb1.trans (hbw3.mono hb1.size))) e (by rw [HO2.out] at he; exact List.mem_of_mem_take he)⟩ hok3
          rw [show rowE evE o2 (joinA l) = true by rw [HO2.out, List.take_of_length_le (by omega)]; exact like_same rfl] at KS'
          have i1 : ¬ ((m : Int) < (q2 : Int)) := by omega
          have KS := Lib.hid KS'
          have HAL3 := Lib.hid hal3
          have HPU3 := Lib.hid hpu3
          have hqm2 : q2 ≤ m := by omega
          simp only [hLq]
          clear KS' hok3 hlc3 hal3 hpu3
          go_wp2_with fail
          refine KS.out.mono ?_
          rintro en w4 ⟨rfl, b4⟩
          have hbw4 := hbw3.trans (b4.mono hbw3.size)
          have KF' := flushP_any w1.heap.size (w1.heap.size + 1) w1.heap.size (w1.heap.size + 2) m B2 T2 q2 dq2 n2 d2 o2 [] w4 (by omega) (by omega) (HAL3.out.below b4) (HPU3.out.below b4) hqm2 (by omega)
          have hfo : flushJ (o2, []) = o2 := by unfold flushJ; rw [if_pos rfl]
          rw [hfo, if_pos (by rw [HAL2.out.len]; exact hqm2), List.take_of_length_le (by rw [HAL2.out.len]; exact hqm2)] at KF'
          have KF := Lib.hid KF'
          clear KF' hfo hcc hnn
          go_wp2_with fail
          refine KF.out.mono ?_
          rintro en w5 ⟨rfl, hf5, hb5, ⟨B5, q5, dq5, ha5⟩, T5, n5, d5, hj5⟩
          have hbw5 := hbw4.trans hb5
          have hq5 : q5 = q2 := by rw [← ha5.len, HAL2.out.len]
          subst hq5
          have hcc5 : w5.cell? ⟨w1.heap.size + 1, 0, none⟩ = some (.slice B5 q5 dq5) := cell_at (k := 0) ha5.cell rfl
          clear hf5 hb5 ha5 hj5
          go_wp2_with fail
          refine (live37_any _).mono ?_
          rintro en w6 ⟨rfl, b6⟩
          go_wp2_with fail
          go_ret
          exact ⟨rfl, hb1.trans ((hbw5.trans (b6.mono hbw5.size)).mono hb1.size)⟩
        · have hr := HR2.out
          rw [if_neg hml] at hr
          subst hr
          clear HR2
          have hqm : m = q2 := by rw [← HAL2.out.len, HO2.out, List.length_take]; omega
          subst hqm
          have R1' := rjoin_any l A n c W2 HL.out hnc hc9 (by omega) (by omega) (HA.out.below (hb1.trans (HBW2.out.mono hb1.size)))
          have R1 := Lib.hid R1'
          clear R1'
          go_wp2_with fail
          refine R1.out.mono ?_
          rintro en w3 ⟨A3, c3, rfl, hok3, hlc3, hc3, b3⟩
          have hal3 := HAL2.out.below b3
          have hbw3 := HBW2.out.trans (b3.mono HBW2.out.size)
          have hnn : w3.cell? ⟨w1.heap.size, 0, none⟩ = some (.int .i64 m) := cell_at (k := 0) hal3.num rfl
          have HC := Lib.hid (fun (w' : World) (hb' : Below w3.heap.size w3 w') => (show w'.cell? ⟨w1.heap.size + 1, 0, none⟩ = some (.slice B2 m dq2) ∧ w'.cell? ⟨w1.heap.size, 0, none⟩ = some (.int .i64 m) from ⟨cell_at (k := 0) (hal3.below hb').cell rfl, cell_at (k := 0) (hal3.below hb').num rfl⟩))
          have KS' := fun (w' : World) (hb : Below w3.heap.size w3 w') => same_any o2 ((joinA l).take m) B2 A3 m m dq2 c3 w' HAL2.out.len (by rw [List.length_take]; omega) (by omega) (by omega) (EvsOk.below ⟨own_seesK hal3.row, fun e he => (HOK.out w3 (hb1.trans (hbw3.mono hb1.size))) e (by rw [HO2.out] at he; exact List.mem_of_mem_take he)⟩ hb) ((evs_take hok3 m).below hb)
          rw [show rowE evE o2 ((joinA l).take m) = true by rw [HO2.out]; exact like_same rfl] at KS'
          have i1 : (m : Int) < ((joinA l).length : Int) := by omega
          have i2 : m ≤ c3 := by omega
          have KS := Lib.hid KS'
          clear KS' hok3 hlc3 hal3
          obtain ⟨L, hL⟩ : ∃ L, (joinA l).length = L := ⟨_, rfl⟩
          rw [hL] at i1 ⊢
          clear hL
          go_wp2_with fail
          go_region_held3 (fun w' => Below w3.heap.size w3 w' ∧ w'.cell? ⟨w1.heap.size + 1, 0, none⟩ = some (.slice B2 m dq2) ∧ w'.cell? ⟨w1.heap.size, 0, none⟩ = some (.int .i64 m))
            (first | exact ⟨(Below.refl _ _).drew, HC.out _ (Below.refl _ _).drew⟩ | exact ⟨by assumption, HC.out _ (by assumption)⟩)
            (first
              | (go_at_call 44; refine (KS.out _ (Below.refl _ _).drew).mono ?_; rintro en w5 ⟨rfl, b5'⟩; have b5 : Below w3.heap.size w3 w5 := (Below.refl _ _).drew.trans b5'; clear b5')
              | (go_at_call 42; refine (live37_any _).mono ?_; rintro en w6 ⟨rfl, b6'⟩; have b6 : Below w3.heap.size w3 w6 := Below.trans (by assumption) (b6'.mono (Below.size (by assumption))); clear b6'))
          all_goals
            go_wp2_with fail
            go_ret
            exact ⟨rfl, hb1.trans ((hbw3.trans (b6.mono hbw3.size)).mono hb1.size)⟩
    · have HO := Lib.hid ho
      have hbA0 := hb1.trans (HBW.out.mono hb1.size)
      have HJ11 : Hid (m < (joinA l).length) := hml
      have hjl := HJL.out
      rw [HL.out] at hjl
      clear ho
      by_cases hlt : j < n
      · have i9 : (j : Int) < (n : Int) := by omega
        have hqm : m = q := by rw [← HAL.out.len, HO.out, List.length_take]; omega
        subst hqm
        have R1' := rjoin_any l A n c W HL.out hnc hc9 (by omega) (by omega) (HA.out.below (hb1.trans (HBW.out.mono hb1.size)))
        have R1 := Lib.hid R1'
        clear R1'
        go_wp2_with fail
        refine R1.out.mono ?_
        rintro en w3 ⟨A3, c3, rfl, hok3, hlc3, hc3, b3⟩
        have hal3 := HAL.out.below b3
        have hbw3 := HBW.out.trans (b3.mono HBW.out.size)
        have hnn : w3.cell? ⟨w1.heap.size, 0, none⟩ = some (.int .i64 m) := cell_at (k := 0) hal3.num rfl
        have HC := Lib.hid (fun (w' : World) (hb' : Below w3.heap.size w3 w') => (show w'.cell? ⟨w1.heap.size + 1, 0, none⟩ = some (.slice B m dq) ∧ w'.cell? ⟨w1.heap.size, 0, none⟩ = some (.int .i64 m) from ⟨cell_at (k := 0) (hal3.below hb').cell rfl, cell_at (k := 0) (hal3.below hb').num rfl⟩))
        have KS' := fun (w' : World) (hb : Below w3.heap.size w3 w') => same_any o ((joinA l).take m) B A3 m m dq c3 w' HAL.out.len (by rw [List.length_take]; omega) (by omega) (by omega) (EvsOk.below ⟨own_seesK hal3.row, fun e he => (HOK.out w3 (hb1.trans (hbw3.mono hb1.size))) e (by rw [HO.out] at he; exact List.mem_of_mem_take he)⟩ hb) ((evs_take hok3 m).below hb)
        rw [show rowE evE o ((joinA l).take m) = true by rw [HO.out]; exact like_same rfl] at KS'
        have i1 : (m : Int) < ((joinA l).length : Int) := by omega
        have i2 : m ≤ c3 := by omega
        have KS := Lib.hid KS'
        clear KS' hok3 hlc3 hal3
        obtain ⟨L, hL⟩ : ∃ L, (joinA l).length = L := ⟨_, rfl⟩
        rw [hL] at i1 ⊢
        clear hL
        go_wp2_with fail
        go_region_held3 (fun w' => Below w3.heap.size w3 w' ∧ w'.cell? ⟨w1.heap.size + 1, 0, none⟩ = some (.slice B m dq) ∧ w'.cell? ⟨w1.heap.size, 0, none⟩ = some (.int .i64 m))
          (first | exact ⟨(Below.refl _ _).drew, HC.out _ (Below.refl _ _).drew⟩ | exact ⟨by assumption, HC.out _ (by assumption)⟩)
          (first
            | (go_at_call 44; refine (KS.out _ (Below.refl _ _).drew).mono ?_; rintro en w5 ⟨rfl, b5'⟩; have b5 : Below w3.heap.size w3 w5 := (Below.refl _ _).drew.trans b5'; clear b5')
            | (go_at_call 42; refine (live37_any _).mono ?_; rintro en w6 ⟨rfl, b6'⟩; have b6 : Below w3.heap.size w3 w6 := Below.trans (by assumption) (b6'.mono (Below.size (by assumption))); clear b6'))
        all_goals
          go_wp2_with fail
          go_ret
          exact ⟨rfl, hb1.trans ((hbw3.trans (b6.mono hbw3.size)).mono hb1.size)⟩
      · obtain rfl : n = j := by omega
        have hqm : m = q := by rw [← HAL.out.len, HO.out, List.length_take]; omega
        subst hqm
        have R1' := rjoin_any l A n c W HL.out hnc hc9 (by omega) (by omega) (HA.out.below (hb1.trans (HBW.out.mono hb1.size)))
        have R1 := Lib.hid R1'
        clear R1'
        go_wp2_with fail
        refine R1.out.mono ?_
        rintro en w3 ⟨A3, c3, rfl, hok3, hlc3, hc3, b3⟩
        have hal3 := HAL.out.below b3
        have hbw3 := HBW.out.trans (b3.mono HBW.out.size)
        have hnn : w3.cell? ⟨w1.heap.size, 0, none⟩ = some (.int .i64 m) := cell_at (k := 0) hal3.num rfl
        have HC := Lib.hid (fun (w' : World) (hb' : Below w3.heap.size w3 w') => (show w'.cell? ⟨w1.heap.size + 1, 0, none⟩ = some (.slice B m dq) ∧ w'.cell? ⟨w1.heap.size, 0, none⟩ = some (.int .i64 m) from ⟨cell_at (k := 0) (hal3.below hb').cell rfl, cell_at (k := 0) (hal3.below hb').num rfl⟩))
        have KS' := fun (w' : World) (hb : Below w3.heap.size w3 w') => same_any o ((joinA l).take m) B A3 m m dq c3 w' HAL.out.len (by rw [List.length_take]; omega) (by omega) (by omega) (EvsOk.below ⟨own_seesK hal3.row, fun e he => (HOK.out w3 (hb1.trans (hbw3.mono hb1.size))) e (by rw [HO.out] at he; exact List.mem_of_mem_take he)⟩ hb) ((evs_take hok3 m).below hb)
        rw [show rowE evE o ((joinA l).take m) = true by rw [HO.out]; exact like_same rfl] at KS'
        have i1 : (m : Int) < ((joinA l).length : Int) := by omega
        have i2 : m ≤ c3 := by omega
        have KS := Lib.hid KS'
        clear KS' hok3 hlc3 hal3
        obtain ⟨L, hL⟩ : ∃ L, (joinA l).length = L := ⟨_, rfl⟩
        rw [hL] at i1 ⊢
        clear hL
        go_wp2_with fail
        go_region_held3 (fun w' => Below w3.heap.size w3 w' ∧ w'.cell? ⟨w1.heap.size + 1, 0, none⟩ = some (.slice B m dq) ∧ w'.cell? ⟨w1.heap.size, 0, none⟩ = some (.int .i64 m))
          (first | exact ⟨(Below.refl _ _).drew, HC.out _ (Below.refl _ _).drew⟩ | exact ⟨by assumption, HC.out _ (by assumption)⟩)
          (first
            | (go_at_call 44; refine (KS.out _ (Below.refl _ _).drew).mono ?_; rintro en w5 ⟨rfl, b5'⟩; have b5 : Below w3.heap.size w3 w5 := (Below.refl _ _).drew.trans b5'; clear b5')
            | (go_at_call 42; refine (live37_any _).mono ?_; rintro en w6 ⟨rfl, b6'⟩; have b6 : Below w3.heap.size w3 w6 := Below.trans (by assumption) (b6'.mono (Below.size (by assumption))); clear b6'))
        all_goals
          go_wp2_with fail
          go_ret
          exact ⟨rfl, hb1.trans ((hbw3.trans (b6.mono hbw3.size)).mono hb1.size)⟩
end Go.Proofs.Ytoiplpmjocemfaa
