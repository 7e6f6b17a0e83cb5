/- The places of all elements that lie on a path, by the document. -/
import Derived.Test.YtoiplpmjocemfaaDpb
namespace Go.Proofs.Ytoiplpmjocemfaa
open Go.ChangeShapes Go.WideShapes Go.ChangeAt Go.RowKit
set_option linter.unusedVariables false
set_option maxRecDepth 100000

def RFindRel (l : List Ev) (p : List ByteArray) (m : Nat) (w : World) (v5 i : Value) (wr : World) : Prop :=
  ∃ (j q : Nat) (B : Option Addr) (d : Nat), j ≤ m ∧ i = .int .i64 j ∧ v5 = .slice B q d ∧ (findN l p j).length = q ∧ wr.ownsRow w.heap.size 3 1 (.slice B q d) q (iV (findN l p j)) ∧ Below w.heap.size w wr

set_option maxHeartbeats 8000000 in
theorem rfind_any (l : List Ev) (p : List ByteArray) (A P : Option Addr) (n c np cp : Nat) (w : World) (hl : l.length = n) (hp : p.length = np) (hnc : n ≤ c) (hc9 : c ≤ 9223372036854775807) (hn9 : n ≤ 1000000) (hp9 : np ≤ 1000000) (hA : EvsOk w A l) (hP : Sees w P (sV p)) :
    Calls Try.prog 58 #[.slice A n c, .slice P np cp] w (FindPost w (findN l p n)) := by
  have HL := Lib.hid hl
  have HPL := Lib.hid hp
  have HA := Lib.hid hA
  have HP := Lib.hid hP
  obtain ⟨i0, hi0, hz0, hz1, hz2⟩ := info_parts intInfo
  clear hl hA hp hP
  go_enter Try.func58, Try.ntmps58
  go_wp2_with fail
  go_loopw [5, 6] (fun v5 i wr => RFindRel l p n w v5 i wr) (fun _ i _ => n - (intOf i).toNat)
  case atStart => exact ⟨0, 0, none, 0, by omega, rfl, rfl, rfl, World.ownsRow_nil _ _ _ _, Below.refl _ _⟩
  case round =>
    obtain ⟨j, qf, B2, d2, hj, rfl, rfl, hqf, hownf, hbw⟩ := hrel
    have hqf9 : qf ≤ j := by rw [← hqf]; exact findN_len l p j
    have HOF := Lib.hid hownf
    have HQF := Lib.hid hqf
    clear hownf hqf
    by_cases hlt : j < n
    · obtain ⟨a, ha⟩ : ∃ a, l[j]? = some a := ⟨_, List.getElem?_eq_getElem (by rw [HL.out]; omega)⟩
      obtain ⟨x, rfl, x0, x1, x2, x3, x4⟩ := (HA.out.below hbw).sees.ev ha
      have HFN := Lib.hid (findN_at (p := p) ha)
      have i0' : (0 : Int) ≤ (j : Int) := by omega
      have i1 : (j : Int) < (n : Int) := by omega
      have hws := hbw.size
      clear ha x1 x2 x3 x4
      by_cases hk1 : a.kind = 1
      · have t1 : (a.kind == 1) = true := by simpa using hk1
        have KP' := rpath_in l (some x) n c (j + 1) wr HL.out hnc hc9 hn9 (HA.out.below hbw) hlt
        rw [show ((j + 1 : Nat) : Int) = (j : Int) + 1 by omega] at KP'
        have KP := Lib.hid KP'
        clear KP'
        go_wp2_with fail
        refine KP.out.mono ?_
        rintro e w3 ⟨A3, c3, rfl, hs3, _, _, b3⟩
        have hb3 := hbw.trans (b3.mono hbw.size)
        have HOF3 := Lib.hid (own_below2 HOF.out b3)
        obtain ⟨q3, hq3⟩ : ∃ q3, (openN l (j + 1)).length = q3 := ⟨_, rfl⟩
        have hq39 : q3 ≤ j + 1 := by rw [← hq3]; exact openN_len l (j + 1)
        have HSR := texts_any (openN l (j + 1)) p A3 P q3 np c3 cp w3 hq3 HPL.out (by omega) (by omega) hs3 (HP.out.below hb3)
        rw [hq3]
        clear hs3 hq3
        cases hr : rowE sE (openN l (j + 1)) p with
        | true =>
          rw [hr] at HSR
          have KS := Lib.hid HSR
          have HF := Lib.hid (show findN l p (j + 1) = findN l p j ++ [(j : Int)] by rw [HFN.out, if_pos ⟨hk1, hr⟩])
          clear HSR hr hk1
          go_wp2_with fail
          refine KS.out.mono ?_
          rintro e w4 ⟨rfl, hb4⟩
          have hbw4 := hb3.trans (hb4.mono hb3.size)
          have hws4 := hbw4.size
          have HOF4 := Lib.hid (own_below2 HOF3.out hb4)
          go_wp2_with (first | (at_builtin; refine wpList_append_own _ rfl _ _ 30 rfl w.heap.size 3 i0 (.int .i64 0) 1 8 Try.underlying30 hi0 hz0 hz1 hz2 rfl (by decide) _ qf (iV (findN l p j)) rfl (HOF4.out.alloc _) ⟨w4.heap.size, 0, none⟩ 1 1 (iV [(j : Int)]) rfl rfl (one_new_at w4 (.int .i64 j) _ _ rfl) (iV_one _) (by unfold maxLen; omega) (by omega) (by simp; omega) ?_; intro v' w5 hown5 hgrow5 _; obtain ⟨B5, d5, rfl⟩ := own_form2 hown5; have HOF5 := Lib.hid hown5; have HG5 := Lib.hid hgrow5; clear hown5 hgrow5))
          have HB5 := Lib.hid ((hbw4.alloc hws4 (.cells #[.int .i64 (j : Int)] 3)).grown HG5.out (by simp; omega) (fun g hg => (HOF4.out.lt g hg).1))
          go_roundw
          case rel => exact ⟨j + 1, qf + 1, B5, d5, by omega, by go_num, rfl, by rw [HF.out, List.length_append, HQF.out]; rfl, by rw [HF.out, iV_append]; exact HOF5.out, HB5.out⟩
          case measure => simp [intOf]; omega
        | false =>
          rw [hr] at HSR
          have KS := Lib.hid HSR
          have HF := Lib.hid (show findN l p (j + 1) = findN l p j by rw [HFN.out, if_neg (by rw [hr]; simp), List.append_nil])
          clear HSR hr hk1
          go_wp2_with fail
          refine KS.out.mono ?_
          rintro e w4 ⟨rfl, hb4⟩
          have hbw4 := hb3.trans (hb4.mono hb3.size)
          have HOF4 := Lib.hid (own_below2 HOF3.out hb4)
          go_wp2_with fail
          go_roundw
          case rel => exact ⟨j + 1, qf, B2, d2, by omega, by go_num, rfl, by rw [HF.out]; exact HQF.out, by rw [HF.out]; exact HOF4.out, hbw4⟩
          case measure => simp [intOf]; omega
      · have t1 : (a.kind == 1) = false := by simpa using hk1
        have HF := Lib.hid (show findN l p (j + 1) = findN l p j by rw [HFN.out, if_neg (by simp [hk1]), List.append_nil])
        clear hk1
        go_wp2_with fail
        go_roundw
        case rel => exact ⟨j + 1, qf, B2, d2, by omega, by go_num, rfl, by rw [HF.out]; exact HQF.out, by rw [HF.out]; exact HOF.out, hbw⟩
        case measure => simp [intOf]; omega
    · obtain rfl : j = n := by omega
      have hcp := own_cap2 HOF.out
      go_wp2_with fail
      go_ret
      have e := HQF.out
      subst e
      exact ⟨B2, d2, rfl, own_sees HOF.out, hcp.1, hcp.2, hbw⟩
end Go.Proofs.Ytoiplpmjocemfaa
