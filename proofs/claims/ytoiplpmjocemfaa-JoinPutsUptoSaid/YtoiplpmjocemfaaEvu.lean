/- Rows of attributes held against each other by package diff. -/
import Derived.Test.YtoiplpmjocemfaaEvt
import Derived.StillTailTactics
import Derived.Deep.RegionHeld3
import Derived.Deep.DeepCutAuto
import Derived.Laws.StructEq
namespace Go.Proofs.Ytoiplpmjocemfaa
open Go.ChangeShapes Go.WideShapes Go.ChangeAt Go.RowKit
set_option linter.unusedVariables false
set_option maxRecDepth 100000

set_option maxHeartbeats 2000000 in
theorem togetherA_any (l m : List Att) (A B : Option Addr) (n k c d : Nat) (w : World) (hl : l.length = n) (hm : m.length = k) (hn9 : n ≤ 9223372036854775807) (hk9 : k ≤ 9223372036854775807) (hA : Sees w A (attsV l)) (hB : Sees w B (attsV m)) :
    Calls Try.prog 88 #[.slice A n c, .slice B k d, .func (.func 78) #[] #[]] w fun e w' => e = .returned (.int .i64 (togA l m : Nat)) ∧ Below w.heap.size w w' := by
  have HL := Lib.hid hl
  have HM := Lib.hid hm
  have HA := Lib.hid hA
  have HB := Lib.hid hB
  obtain ⟨r, hr⟩ : ∃ r, togA l m = r := ⟨_, rfl⟩
  have HR := Lib.hid (show 0 + togA (l.drop 0) (m.drop 0) = r by simpa using hr)
  rw [hr]
  clear hl hm hA hB hr
  rcases Nat.lt_or_ge k n with hnk | hnk
  all_goals
    go_enter Try.func88, Try.ntmps88
    go_wp2_with fail
    go_loopw [13] (fun i wr => ∃ j : Nat, j ≤ n ∧ j ≤ k ∧ i = .int .i64 j ∧ Hid (j + togA (l.drop j) (m.drop j) = r) ∧ Below w.heap.size w wr) (fun i _ => n - (intOf i).toNat)
    case atStart => exact ⟨0, by omega, by omega, rfl, HR, Below.refl _ _⟩
    case round =>
      obtain ⟨j, hj1, hj2, rfl, hj, hbw⟩ := hrel
      by_cases hlt : j < n ∧ j < k
      · obtain ⟨hln, hlk⟩ := hlt
        obtain ⟨a, ha⟩ : ∃ a, l[j]? = some a := ⟨_, List.getElem?_eq_getElem (by rw [HL.out]; exact hln)⟩
        obtain ⟨b, hb⟩ : ∃ b, m[j]? = some b := ⟨_, List.getElem?_eq_getElem (by rw [HM.out]; exact hlk)⟩
        obtain ⟨x, rfl, x0, x1, x2⟩ := (HA.out.below hbw).att ha
        obtain ⟨y, rfl, y0, y1, y2⟩ := (HB.out.below hbw).att hb
        have HS := fun w => sameAttr_any a b w
        have HT := togA_at ha hb
        have i0 : (0 : Int) ≤ (j : Int) := by omega
        have i1 : (j : Int) < (n : Int) := by omega
        have i2 : (j : Int) < (k : Int) := by omega
        clear ha hb
        cases hab : aE a b with
        | true =>
          rw [hab] at HS HT
          rw [if_pos rfl] at HT
          have KS := Lib.hid HS
          have HJ := Lib.hid (show j + 1 + togA (l.drop (j + 1)) (m.drop (j + 1)) = r by rw [← hj.out, HT]; omega)
          clear HS HT hj hab
          go_wp2_with fail
          go_still_tail 9, (by kernel_rfl)
          go_wp2_with fail
          refine (KS.out _).mono ?_
          rintro e w2 ⟨rfl, hb2⟩
          go_wp2_with fail
          go_roundw
          case rel => exact ⟨j + 1, by omega, by omega, by go_num, HJ, hbw.drew.trans (hb2.mono hbw.size)⟩
          case measure => simp [intOf]; omega
        | false =>
          rw [hab] at HS HT
          rw [if_neg (by simp)] at HT
          have KS := Lib.hid HS
          have HJ := Lib.hid (show (j : Int) = (r : Nat) by rw [← hj.out, HT]; omega)
          clear HS HT hj hab
          go_wp2_with fail
          go_still_tail 9, (by kernel_rfl)
          go_wp2_with fail
          refine (KS.out _).mono ?_
          rintro e w2 ⟨rfl, hb2⟩
          go_wp2_with fail
          go_ret
          exact ⟨ret_int HJ.out, hbw.drew.trans (hb2.mono hbw.size)⟩
      · have HE := Lib.hid (show j = r by rw [← hj.out, togA_nil (by rw [HL.out, HM.out]; omega)]; rfl)
        clear hj
        go_wp2_with fail
        go_ret
        exact ⟨ret_int (by have := HE.out; omega), hbw⟩

set_option maxHeartbeats 1000000 in
theorem sameRowA_any (l m : List Att) (A B : Option Addr) (n k c d : Nat) (w : World) (hl : l.length = n) (hm : m.length = k) (hn9 : n ≤ 9223372036854775807) (hk9 : k ≤ 9223372036854775807) (hA : Sees w A (attsV l)) (hB : Sees w B (attsV m)) :
    Calls Try.prog 77 #[.slice A n c, .slice B k d, .func (.func 78) #[] #[]] w fun e w' => e = .returned (.bool (asE l m)) ∧ Below w.heap.size w w' := by
  have HT := Lib.hid (togetherA_any l m A B n k c d w hl hm hn9 hk9 hA hB)
  by_cases hnk : n = k
  · subst hnk
    have ht := (togA_le l m).1
    have he : decide (togA l m = n) = asE l m := by rw [← hl]; exact togA_all (by omega)
    rw [hl] at ht
    obtain ⟨t, htt⟩ : ∃ t, togA l m = t := ⟨_, rfl⟩
    rw [htt] at he HT ht
    have HE := Lib.hid he
    clear he htt hA hB hl hm
    by_cases htn : t = n
    · subst htn
      go_enter Try.func77, Try.ntmps77
      go_wp2_with fail
      refine HT.out.mono ?_
      rintro e w1 ⟨rfl, hb⟩
      go_wp2_with fail
      go_ret
      exact ⟨ret_bool (by rw [← HE.out]; simp), hb⟩
    · have t1 : ((t : Int) == (n : Int)) = false := by simp; omega
      have HTN := Lib.hid htn
      clear htn
      go_enter Try.func77, Try.ntmps77
      go_wp2_with fail
      refine HT.out.mono ?_
      rintro e w1 ⟨rfl, hb⟩
      go_wp2_with fail
      go_ret
      exact ⟨ret_bool (by rw [← HE.out]; have := HTN.out; simp [this]), hb⟩
  · have t1 : ((n : Int) == (k : Int)) = false := by simp; omega
    have HE := Lib.hid (asE_ne (l := l) (m := m) (by omega))
    clear hA hB hl hm hnk
    go_enter Try.func77, Try.ntmps77
    go_wp2_with fail
    go_ret
    exact ⟨ret_bool HE.out.symm, Below.refl _ _⟩

/-- The parts that are not the same. -/
def bitE (b : Bool) (n : Int) : Int := if b = true then 0 else n
def partsE (x y : Ev) : Int := bitE (decide (x.kind = y.kind)) 1 + bitE (nE x y) 2 + bitE (asE x.at_ y.at_) 4 + bitE (sE x.tx y.tx) 8
theorem parts_zero (x y : Ev) : decide (partsE x y = 0) = evE x y := by
  unfold partsE evE bitE
  cases decide (x.kind = y.kind) <;> cases nE x y <;> cases asE x.at_ y.at_ <;> cases sE x.tx y.tx <;> rfl
theorem ev_cells (w : World) (e : Ev) (t : TypeId) : (w.alloc (.cells (evC e).toArray t)).cell? ⟨w.heap.size, 0, none⟩ = some (.int .i64 e.kind) ∧ (w.alloc (.cells (evC e).toArray t)).cell? ⟨w.heap.size, 1, none⟩ = some (.string e.sp) ∧ (w.alloc (.cells (evC e).toArray t)).cell? ⟨w.heap.size, 2, none⟩ = some (.string e.lo) ∧
    (w.alloc (.cells (evC e).toArray t)).cell? ⟨w.heap.size, 3, none⟩ = some (.slice e.A e.at_.length e.c) ∧ (w.alloc (.cells (evC e).toArray t)).cell? ⟨w.heap.size, 4, none⟩ = some (.string e.tx) := by
  unfold evC
  exact ⟨by simp [World.cell?_alloc_new], by simp [World.cell?_alloc_new], by simp [World.cell?_alloc_new], by simp [World.cell?_alloc_new], by simp [World.cell?_alloc_new]⟩

theorem eqlStr (a b : ByteArray) (w : World) : (binOp .eql 9 (.string a) (.string b)).run Try.prog w = .ok (.bool (sE a b)) w := by
  unfold sE
  by_cases h : a.toList = b.toList <;> simp [go_sem, h]
theorem eqlName (a b c d : ByteArray) (w : World) : (binOp .eql 73 (.agg #[.string a, .string b]) (.agg #[.string c, .string d])).run Try.prog w = .ok (.bool (sE a c && sE b d)) w := by
  unfold sE
  by_cases h1 : a.toList = c.toList <;> by_cases h2 : b.toList = d.toList <;> simp [go_sem, h1, h2]
end Go.Proofs.Ytoiplpmjocemfaa
