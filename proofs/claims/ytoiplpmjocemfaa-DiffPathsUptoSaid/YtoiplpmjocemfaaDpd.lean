/- Where an element ends, by the document. -/
import Derived.Test.YtoiplpmjocemfaaDfc
namespace Go.Proofs.Ytoiplpmjocemfaa
open Go.ChangeShapes Go.WideShapes Go.ChangeAt Go.RowKit
set_option linter.unusedVariables false
set_option maxRecDepth 100000

def RSpanRel (m : List Ev) (j n : Nat) (r : Option Nat) (w : World) (v : Value) (wr : World) : Prop :=
  ∃ (t f : Nat), j < t ∧ t ≤ n ∧ n ≤ t + f ∧ v = .int .i64 t ∧ Hid (spanN m f (t - j) = r) ∧ Below w.heap.size w wr
def RDeepRel (m : List Ev) (j t : Nat) (w : World) (v i : Value) (wr : World) : Prop :=
  ∃ (u : Nat), j ≤ u ∧ u ≤ t + 1 ∧ i = .int .i64 u ∧ v = .int .i64 (deepN m (u - j)) ∧ Below w.heap.size w wr

set_option maxHeartbeats 4000000 in
theorem rspan_any (l : List Ev) (A : Option Addr) (n c : Nat) (k : Int) (w : World) (hl : l.length = n) (hnc : n ≤ c) (hc9 : c ≤ 9223372036854775807) (hn9 : n ≤ 1000000) (hk : I64 k) (hA : EvsOk w A l) :
    Calls Try.prog 56 #[.slice A n c, .int .i64 k] w fun e w' => e = .returned (.tuple #[.int .i64 (spanV l k).1, .int .i64 (spanV l k).2]) ∧ Below w.heap.size w w' := by
  have hkl := hk.1
  have hkh := hk.2
  unfold spanV
  rw [hl]
  by_cases hout : k < 0 ∨ (n : Int) ≤ k
  · rw [if_pos hout]
    clear hA hl
    rcases hout with h | h
    · go_enter Try.func56, Try.ntmps56
      go_wp2_with fail
      go_ret2
      exact ⟨rfl, Below.refl _ _⟩
    · have h0 : ¬ k < 0 := by omega
      go_enter Try.func56, Try.ntmps56
      go_wp2_with fail
      go_ret2
      exact ⟨rfl, Below.refl _ _⟩
  rw [if_neg hout]
  obtain ⟨j, rfl⟩ : ∃ j : Nat, k = j := ⟨k.toNat, by omega⟩
  rw [Int.toNat_natCast]
  have hj : j < n := by omega
  obtain ⟨a, ha⟩ : ∃ a, l[j]? = some a := ⟨_, List.getElem?_eq_getElem (by rw [hl]; exact hj)⟩
  obtain ⟨x, rfl, x0, x1, x2, x3, x4⟩ := hA.sees.ev ha
  rw [ha]
  simp only
  have i0 : (0 : Int) ≤ (j : Int) := by omega
  have i1 : (j : Int) < (n : Int) := by omega
  have d1 : decide ((j : Int) < 0) = false := by simp
  have d2 : decide (n ≤ j) = false := by simp; omega
  by_cases hk1 : a.kind = 1
  rotate_left
  · have t1 : (a.kind != 1) = true := by simpa using hk1
    rw [if_pos hk1]
    clear hA hl ha hk1
    go_enter Try.func56, Try.ntmps56
    go_wp2_with fail
    go_ret2
    exact ⟨rfl, Below.refl _ _⟩
  have t1 : (a.kind != 1) = false := by simpa using hk1
  rw [if_neg (by simpa using hk1)]
  have HM : Hid (∀ u e, j ≤ u → l[u]? = some e → (l.drop j)[u - j]? = some e) := fun u e hu he => by rw [List.getElem?_drop, Nat.add_sub_cancel' hu]; exact he
  have h0m : (l.drop j)[0]? = some a := by rw [List.getElem?_drop]; exact ha
  have hml : (l.drop j).length = n - j := by rw [List.length_drop, hl]
  obtain ⟨m, hm⟩ : ∃ m, l.drop j = m := ⟨_, rfl⟩
  rw [hm] at HM h0m hml ⊢
  obtain ⟨r, hr⟩ : ∃ r, spanN m n 0 = r := ⟨_, rfl⟩
  rw [hr]
  obtain ⟨n', rfl⟩ : ∃ n', n = n' + 1 := ⟨n - 1, by omega⟩
  rw [spanN_miss h0m (by rw [hk1]; omega)] at hr
  have HR := Lib.hid hr
  have HL := Lib.hid hl
  have HA := Lib.hid hA
  have HML := Lib.hid hml
  clear hA hl ha hk1 hml hm hr x1 x2 x3 x4 h0m
  go_enter Try.func56, Try.ntmps56
  go_wp2_with fail
  go_loopw [6] (fun v wr => RSpanRel m j (n' + 1) r w v wr) (fun v _ => (n' + 1) - (intOf v).toNat)
  case atStart => exact ⟨j + 1, n', by omega, by omega, by omega, by go_num, by rw [show j + 1 - j = 0 + 1 by omega]; exact HR, Below.refl _ _⟩
  case round =>
    obtain ⟨t, f, hjt, htn, hf, rfl, hs, hbw⟩ := hrel
    by_cases hlt : t < n' + 1
    · obtain ⟨b, hb⟩ : ∃ b, l[t]? = some b := ⟨_, List.getElem?_eq_getElem (by rw [HL.out]; exact hlt)⟩
      have hbm := HM.out t b (by omega) hb
      obtain ⟨f, rfl⟩ : ∃ f', f = f' + 1 := ⟨f - 1, by omega⟩
      have HB := Lib.hid hb
      have HBM := Lib.hid hbm
      have htn' : (t : Int) < ((n' + 1 : Nat) : Int) := by omega
      clear hb hbm
      go_wp2_with fail
      go_loopw [7, 8] (fun v i wr => RDeepRel m j t w v i wr) (fun _ i _ => t + 1 - (intOf i).toNat)
      case atStart => exact ⟨j, by omega, by omega, rfl, by rw [Nat.sub_self]; rfl, hbw⟩
      case round =>
        obtain ⟨u, hju, hut, rfl, rfl, hbu⟩ := hrel
        by_cases hu : u ≤ t
        · obtain ⟨e, he⟩ : ∃ e, l[u]? = some e := ⟨_, List.getElem?_eq_getElem (by rw [HL.out]; omega)⟩
          have hem := HM.out u e (by omega) he
          obtain ⟨y, hy, y0, _, _, _, _⟩ := (HA.out.below hbu).sees.ev he
          injection hy with hy
          subst hy
          have hdl := deepN_le m (u - j)
          have hdn := deepN_at hem
          rw [show u - j + 1 = u + 1 - j by omega] at hdn
          have i2 : (0 : Int) ≤ (u : Int) := by omega
          have i3 : (u : Int) < ((n' + 1 : Nat) : Int) := by omega
          have i4 : (u : Int) ≤ (t : Int) := by omega
          clear hem he
          by_cases he1 : e.kind = 1
          · have t2 : (e.kind == 1) = true := by simpa using he1
            have t3 : (e.kind == 2) = false := by rw [he1]; rfl
            have HDN := Lib.hid (show deepN m (u - j) + 1 = deepN m (u + 1 - j) by rw [hdn, if_pos he1])
            clear hdn he1
            go_wp2_with fail
            go_roundw
            case rel => exact ⟨u + 1, by omega, by omega, by go_num, by rw [← HDN.out], hbu⟩
            case measure => simp [intOf]; omega
          · have t2 : (e.kind == 1) = false := by simpa using he1
            by_cases he2 : e.kind = 2
            · have t3 : (e.kind == 2) = true := by simpa using he2
              have HDN := Lib.hid (show deepN m (u - j) - 1 = deepN m (u + 1 - j) by rw [hdn, if_neg he1, if_pos he2]; omega)
              clear hdn he1 he2
              go_wp2_with fail
              go_roundw
              case rel => exact ⟨u + 1, by omega, by omega, by go_num, by rw [← HDN.out], hbu⟩
              case measure => simp [intOf]; omega
            · have t3 : (e.kind == 2) = false := by simpa using he2
              have HDN := Lib.hid (show deepN m (u - j) = deepN m (u + 1 - j) by rw [hdn, if_neg he1, if_neg he2]; omega)
              clear hdn he1 he2
              go_wp2_with fail
              go_roundw
              case rel => exact ⟨u + 1, by omega, by omega, by go_num, by rw [← HDN.out], hbu⟩
              case measure => simp [intOf]; omega
        · obtain rfl : u = t + 1 := by omega
          have hbm := HBM.out
          obtain ⟨y, hy, y0, _, _, _, _⟩ := (HA.out.below hbu).sees.ev HB.out
          injection hy with hy
          subst hy
          have i2 : (0 : Int) ≤ (t : Int) := by omega
          have i4 : ¬ ((t : Int) + 1 ≤ (t : Int)) := by omega
          rw [show t + 1 - j = t - j + 1 by omega]
          obtain ⟨d, hd⟩ : ∃ d, deepN m (t - j + 1) = d := ⟨_, rfl⟩
          rw [hd]
          by_cases hd0 : d = 0
          · have t4 : (d == 0) = true := by simpa using hd0
            by_cases hb2 : b.kind = 2
            · have t5 : (b.kind == 2) = true := by simpa using hb2
              have hrk : r = some (t - j) := by rw [← hs.out]; exact spanN_hit hbm hb2 (by rw [hd]; exact hd0)
              clear hs hbm hd hd0 hb2
              subst hrk
              go_wp2_with fail
              go_ret2
              exact ⟨by rw [show (j : Int) + ((t - j : Nat) : Int) = t by omega]; rfl, hbu⟩
            · have t5 : (b.kind == 2) = false := by simpa using hb2
              have HS := Lib.hid (show spanN m f (t + 1 - j) = r by rw [← hs.out, show t + 1 - j = t - j + 1 by omega]; exact (spanN_miss hbm (fun h => hb2 h.1)).symm)
              clear hs hbm hd hd0 hb2
              go_wp2_with fail
              go_roundw
              case rel => exact ⟨t + 1, f, by omega, by omega, by omega, by go_num, HS, hbu⟩
              case measure => simp [intOf]; omega
          · have t4 : (d == 0) = false := by simpa using hd0
            have HS := Lib.hid (show spanN m f (t + 1 - j) = r by rw [← hs.out, show t + 1 - j = t - j + 1 by omega]; exact (spanN_miss hbm (fun h => hd0 (hd ▸ h.2))).symm)
            clear hs hbm hd hd0
            go_wp2_with fail
            go_roundw
            case rel => exact ⟨t + 1, f, by omega, by omega, by omega, by go_num, HS, hbu⟩
            case measure => simp [intOf]; omega
    · have hrk : r = none := by rw [← hs.out]; exact spanN_end f (by rw [HML.out]; omega)
      clear hs
      subst hrk
      go_wp2_with fail
      go_ret2
      exact ⟨rfl, hbw⟩
end Go.Proofs.Ytoiplpmjocemfaa
