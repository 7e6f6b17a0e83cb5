/- The walk of DiffFirsts. -/
import Derived.Test.YtoiplpmjocemfaaDff
import Derived.Test.YtoiplpmjocemfaaEwb
import Derived.Test.YtoiplpmjocemfaaEwc
import Derived.Test.YtoiplpmjocemfaaEvo
import Derived.Deep.RegionHeld3
namespace Go.Proofs.Ytoiplpmjocemfaa
open Go.ChangeShapes Go.WideShapes Go.ChangeAt Go.RowKit
set_option linter.unusedVariables false
set_option maxRecDepth 100000

theorem tog_self {α : Type} {f : α → α → Bool} (h : ∀ a, f a a = true) (l : List α) : tog f l l = l.length := by
  have := tog_all (f := f) (l := l) (m := l) rfl
  rw [rowE_self h, decide_eq_true_eq] at this
  exact this
set_option maxHeartbeats 8000000 in
theorem diffFirsts_any (l m : List Ev) (A B : Option Addr) (n k c d : Nat) (w : World) (hl : l.length = n) (hm : m.length = k) (hnc : n ≤ c) (hc9 : c ≤ 9223372036854775807) (hkd : k ≤ d) (hd9 : d ≤ 9223372036854775807) (hA : EvsOk w A l) (hB : EvsOk w B m) :
    Calls Try.prog 9 #[.slice A n c, .slice B k d] w fun e w' => e = .returned (.bool true) ∧ Below w.heap.size w w' := by
  have hn9 : n ≤ 9223372036854775807 := by omega
  have hk9 : k ≤ 9223372036854775807 := by omega
  have G1 := Lib.hid (great26_any l A n c w hl hn9 hA)
  have G2 := Lib.hid (fun (w' : World) (hb : Below w.heap.size w w') => great26_any m B k d w' hm hk9 (hB.below hb))
  have F1 := Lib.hid (fun (w' : World) (hb : Below w.heap.size w w') => first_any l m A B n k c d w' hl hm hn9 hk9 (hA.below hb) (hB.below hb))
  have F2 := Lib.hid (fun (w' : World) (hb : Below w.heap.size w w') => rfirst_any l m A B n k c d w' hl hm hn9 hk9 (hA.below hb) (hB.below hb))
  have F3 := Lib.hid (fun (w' : World) (hb : Below w.heap.size w w') => same_any l m A B n k c d w' hl hm hn9 hk9 (hA.below hb) (hB.below hb))
  have F4' := fun (w' : World) (hb : Below w.heap.size w w') => first_any l l A A n n c c w' hl hl hn9 hn9 (hA.below hb) (hA.below hb)
  rw [tog_self evE_self, rowE_self evE_self, hl] at F4'
  have F4 := Lib.hid F4'
  have HL := Lib.hid hl
  have HM := Lib.hid hm
  have HA := Lib.hid hA
  have HB := Lib.hid hB
  clear hl hm hA hB F4'
  go_enter Try.func9, Try.ntmps9
  go_wp2_with fail
  refine G1.out.mono ?_
  rintro e w1 ⟨b1, rfl, hb1⟩
  cases b1 with
  | true =>
    go_wp2_with fail
    refine (live42_any _).mono ?_
    rintro e w2 ⟨rfl, hb2⟩
    go_wp2_with fail
    go_ret
    exact ⟨rfl, hb1.trans (hb2.mono hb1.size)⟩
  | false =>
  go_wp2_with fail
  refine (G2.out w1 hb1).mono ?_
  rintro e w2 ⟨b2, rfl, b2'⟩
  have hb2 := hb1.trans (b2'.mono hb1.size)
  cases b2 with
  | true =>
    go_wp2_with fail
    refine (live42_any _).mono ?_
    rintro e w3 ⟨rfl, hb3⟩
    go_wp2_with fail
    go_ret
    exact ⟨rfl, hb2.trans (hb3.mono hb2.size)⟩
  | false =>
  obtain ⟨t, ht⟩ : ∃ t, tog evE l m = t := ⟨_, rfl⟩
  obtain ⟨r, hr⟩ : ∃ r, rowE evE l m = r := ⟨_, rfl⟩
  rw [ht, hr] at F1 F2
  rw [hr] at F3
  clear ht hr
  go_wp2_with fail
  refine (F1.out w2 hb2).mono ?_
  rintro e w3 ⟨rfl, b3⟩
  have hb3 := hb2.trans (b3.mono hb2.size)
  go_wp2_with fail
  refine (F2.out w3 hb3).mono ?_
  rintro e w4 ⟨rfl, b4⟩
  have hb4 := hb3.trans (b4.mono hb3.size)
  go_wp2_with fail
  refine (F3.out w4 hb4).mono ?_
  rintro e w5 ⟨rfl, b5⟩
  have hb5 := hb4.trans (b5.mono hb4.size)
  go_wp2_with fail
  go_loopw [9] (fun i wr => ∃ j : Nat, j ≤ n ∧ j ≤ k ∧ i = .int .i64 j ∧ Below w.heap.size w wr) (fun i _ => n - (intOf i).toNat)
  case atStart => exact ⟨0, by omega, by omega, rfl, hb5⟩
  case round =>
    obtain ⟨j, hj1, hj2, rfl, hbw⟩ := hrel
    by_cases hlt : j < n ∧ j < k
    · obtain ⟨hln, hlk⟩ := hlt
      obtain ⟨a, ha⟩ : ∃ a, l[j]? = some a := ⟨_, List.getElem?_eq_getElem (by rw [HL.out]; exact hln)⟩
      obtain ⟨b, hb⟩ : ∃ b, m[j]? = some b := ⟨_, List.getElem?_eq_getElem (by rw [HM.out]; exact hlk)⟩
      obtain ⟨x, rfl, x0, x1, x2, x3, x4⟩ := (HA.out.below hbw).sees.ev ha
      obtain ⟨y, rfl, y0, y1, y2, y3, y4⟩ := (HB.out.below hbw).sees.ev hb
      have i0 : (0 : Int) ≤ (j : Int) := by omega
      have i1 : (j : Int) < (n : Int) := by omega
      have i2 : (j : Int) < (k : Int) := by omega
      have hoa := (HA.out.below hbw).get ha
      have hob := (HB.out.below hbw).get hb
      have P1 := fun (w' : World) (hb' : Below wr.heap.size wr w') => parts_any a b w' (hoa.below hb') (hob.below hb')
      have P2 := fun (w' : World) (hb' : Below wr.heap.size wr w') => rparts_any a b w' (hoa.below hb') (hob.below hb')
      obtain ⟨p, hp⟩ : ∃ p, partsE a b = p := ⟨_, rfl⟩
      rw [hp] at P1 P2
      have K1 := Lib.hid P1
      have K2 := Lib.hid P2
      have HC := Lib.hid (fun (w' : World) (hb' : Below wr.heap.size wr w') => (show w'.cell? (x.add (j * 5)) = some (.int .i64 a.kind) ∧ w'.cell? ⟨(x.add (j * 5)).block, (x.add (j * 5)).off + 1, none⟩ = some (.string a.sp) ∧ w'.cell? ⟨(x.add (j * 5)).block, (x.add (j * 5)).off + 2, none⟩ = some (.string a.lo) ∧ w'.cell? ⟨(x.add (j * 5)).block, (x.add (j * 5)).off + 3, none⟩ = some (.slice a.A a.at_.length a.c) ∧ w'.cell? ⟨(x.add (j * 5)).block, (x.add (j * 5)).off + 4, none⟩ = some (.string a.tx) ∧ w'.cell? (y.add (j * 5)) = some (.int .i64 b.kind) ∧ w'.cell? ⟨(y.add (j * 5)).block, (y.add (j * 5)).off + 1, none⟩ = some (.string b.sp) ∧ w'.cell? ⟨(y.add (j * 5)).block, (y.add (j * 5)).off + 2, none⟩ = some (.string b.lo) ∧ w'.cell? ⟨(y.add (j * 5)).block, (y.add (j * 5)).off + 3, none⟩ = some (.slice b.A b.at_.length b.c) ∧ w'.cell? ⟨(y.add (j * 5)).block, (y.add (j * 5)).off + 4, none⟩ = some (.string b.tx) from ⟨cell_later hb' x0, cell_later hb' x1, cell_later hb' x2, cell_later hb' x3, cell_later hb' x4, cell_later hb' y0, cell_later hb' y1, cell_later hb' y2, cell_later hb' y3, cell_later hb' y4⟩))
      clear P1 P2 hp ha hb hoa hob
      go_wp2_with fail
      go_region_held3 (fun w' => Below wr.heap.size wr w' ∧ w'.cell? (x.add (j * 5)) = some (.int .i64 a.kind) ∧ w'.cell? ⟨(x.add (j * 5)).block, (x.add (j * 5)).off + 1, none⟩ = some (.string a.sp) ∧ w'.cell? ⟨(x.add (j * 5)).block, (x.add (j * 5)).off + 2, none⟩ = some (.string a.lo) ∧ w'.cell? ⟨(x.add (j * 5)).block, (x.add (j * 5)).off + 3, none⟩ = some (.slice a.A a.at_.length a.c) ∧ w'.cell? ⟨(x.add (j * 5)).block, (x.add (j * 5)).off + 4, none⟩ = some (.string a.tx) ∧ w'.cell? (y.add (j * 5)) = some (.int .i64 b.kind) ∧ w'.cell? ⟨(y.add (j * 5)).block, (y.add (j * 5)).off + 1, none⟩ = some (.string b.sp) ∧ w'.cell? ⟨(y.add (j * 5)).block, (y.add (j * 5)).off + 2, none⟩ = some (.string b.lo) ∧ w'.cell? ⟨(y.add (j * 5)).block, (y.add (j * 5)).off + 3, none⟩ = some (.slice b.A b.at_.length b.c) ∧ w'.cell? ⟨(y.add (j * 5)).block, (y.add (j * 5)).off + 4, none⟩ = some (.string b.tx))
        (first | exact ⟨(Below.refl _ _).drew, HC.out _ (Below.refl _ _).drew⟩ | exact ⟨by assumption, HC.out _ (by assumption)⟩)
        (first
          | (go_at_call 53; refine (K1.out _ (Below.refl _ _).drew).mono ?_; rintro e w6 ⟨rfl, hb6'⟩; have hb6 : Below wr.heap.size wr w6 := (Below.refl _ _).drew.trans hb6'; clear hb6')
          | (go_at_call 54; refine (K2.out _ (by assumption)).mono ?_; rintro e w7 ⟨rfl, hb7'⟩; have hb7 : Below wr.heap.size wr w7 := Below.trans (by assumption) (hb7'.mono (Below.size (by assumption))); clear hb7'))
      go_wp2_with fail
      go_roundw
      case rel => exact ⟨j + 1, by omega, by omega, by go_num, hbw.trans (hb7.mono hbw.size)⟩
      case measure => simp [intOf]; omega
    · by_cases hln : j < n
      · have d2 : ¬ j < k := by omega
        go_wp2_with fail
        refine (F4.out wr hbw).mono ?_
        rintro e w6 ⟨rfl, b6⟩
        have hb6 := hbw.trans (b6.mono hbw.size)
        go_wp2_with fail
        refine (live42_any _).mono ?_
        rintro e w7 ⟨rfl, b7⟩
        go_wp2_with fail
        go_ret
        exact ⟨rfl, hb6.trans (b7.mono hb6.size)⟩
      · go_wp2_with fail
        refine (F4.out wr hbw).mono ?_
        rintro e w6 ⟨rfl, b6⟩
        have hb6 := hbw.trans (b6.mono hbw.size)
        go_wp2_with fail
        refine (live42_any _).mono ?_
        rintro e w7 ⟨rfl, b7⟩
        go_wp2_with fail
        go_ret
        exact ⟨rfl, hb6.trans (b7.mono hb6.size)⟩
end Go.Proofs.Ytoiplpmjocemfaa
