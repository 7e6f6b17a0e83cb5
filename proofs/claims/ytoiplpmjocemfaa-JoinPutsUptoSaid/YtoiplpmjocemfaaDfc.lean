/- Where an element ends, by package diff. -/
import Derived.Test.YtoiplpmjocemfaaDfb
namespace Go.Proofs.Ytoiplpmjocemfaa
open Go.ChangeShapes Go.WideShapes Go.ChangeAt Go.RowKit
set_option linter.unusedVariables false
set_option maxRecDepth 100000

theorem evsV_drop : ∀ (l : List Ev) (j : Nat), evsV (l.drop j) = (evsV l).drop (j * 5)
  | l, 0 => by simp
  | [], j + 1 => by simp [evsV]
  | e :: l, j + 1 => by
    have ih := evsV_drop l j
    have e1 : evsV (e :: l) = evC e ++ evsV l := rfl
    rw [List.drop_succ_cons, ih, e1, show (j + 1) * 5 = j * 5 + 5 by omega]
    rfl
theorem EvsOk.drop {w : World} {ad : Addr} {l : List Ev} (h : EvsOk w (some ad) l) (j : Nat) : EvsOk w (some (ad.add (j * 5))) (l.drop j) := by
  refine ⟨fun hne => ?_, fun e he => h.each e (List.mem_of_mem_drop he)⟩
  rw [evsV_drop] at hne ⊢
  obtain ⟨ad', e, hc⟩ := h.sees (by intro h0; rw [h0] at hne; simp at hne)
  injection e with e
  subst e
  refine ⟨_, rfl, fun i u hu => ?_⟩
  rw [addr_add_add]
  rw [List.getElem?_drop] at hu
  exact hc _ u hu
def SpanRel (l : List Ev) (n : Nat) (r : Option Nat) (w : World) (v i : Value) (wr : World) : Prop :=
  ∃ (k f : Nat), k ≤ n ∧ n ≤ k + f ∧ i = .int .i64 k ∧ v = .int .i64 (deepN l k) ∧ Hid (spanN l f k = r) ∧ Below w.heap.size w wr

set_option maxHeartbeats 4000000 in
theorem span_any (l : List Ev) (A : Option Addr) (n c : Nat) (k : Int) (w : World) (hl : l.length = n) (hnc : n ≤ c) (hc9 : c ≤ 9223372036854775807) (hn9 : n ≤ 1000000) (hk : I64 k) (hA : EvsOk w A l) :
    Calls Try.prog 55 #[.slice A n c, .int .i64 k] w fun e w' => e = .returned (.tuple #[.int .i64 (spanV l k).1, .int .i64 (spanV l k).2]) ∧ Below w.heap.size w w' := by
  have hkl := hk.1
  have hkh := hk.2
  unfold spanV
  rw [hl]
  by_cases hout : k < 0 ∨ (n : Int) ≤ k
  · rw [if_pos hout]
    clear hA hl
    rcases hout with h | h
    · go_enter Try.func55, Try.ntmps55
      go_wp2_with fail
      go_ret2
      exact ⟨rfl, Below.refl _ _⟩
    · have h0 : ¬ k < 0 := by omega
      go_enter Try.func55, Try.ntmps55
      go_wp2_with fail
      go_ret2
      exact ⟨rfl, Below.refl _ _⟩
  rw [if_neg hout]
  obtain ⟨j, rfl⟩ : ∃ j : Nat, k = j := ⟨k.toNat, by omega⟩
  rw [Int.toNat_natCast]
  have hj : j < n := by omega
  obtain ⟨a, ha⟩ : ∃ a, l[j]? = some a := ⟨_, List.getElem?_eq_getElem (by rw [hl]; exact hj)⟩
  obtain ⟨x, rfl, x0, x1, x2, x3, x4⟩ := hA.sees.ev ha
  rw [ha]
  simp only
  have i0 : (0 : Int) ≤ (j : Int) := by omega
  have i1 : (j : Int) < (n : Int) := by omega
  have d1 : decide ((j : Int) < 0) = false := by simp
  have d2 : decide (n ≤ j) = false := by simp; omega
  by_cases hk1 : a.kind = 1
  rotate_left
  · have t1 : (a.kind != 1) = true := by simpa using hk1
    rw [if_pos hk1]
    clear hA hl ha hk1
    go_enter Try.func55, Try.ntmps55
    go_wp2_with fail
    go_ret2
    exact ⟨rfl, Below.refl _ _⟩
  have t1 : (a.kind != 1) = false := by simpa using hk1
  rw [if_neg (by simpa using hk1)]
  have hd := hA.drop j
  obtain ⟨m, hm⟩ : ∃ m, l.drop j = m := ⟨_, rfl⟩
  have hml : m.length = n - j := by rw [← hm, List.length_drop, hl]
  rw [hm] at hd ⊢
  obtain ⟨r, hr⟩ : ∃ r, spanN m n 0 = r := ⟨_, rfl⟩
  rw [hr]
  have HR := Lib.hid hr
  have HD := Lib.hid hd
  have HML := Lib.hid hml
  have hcj : ¬ c = j := by omega
  have hjc : j < c := by omega
  clear hA hl ha hk1 hd hml hm hr x1 x2 x3 x4
  go_enter Try.func55, Try.ntmps55
  go_wp2_with fail
  go_loopw [6, 27] (fun v i wr => SpanRel m (n - j) r w v i wr) (fun _ i _ => (n - j) - (intOf i).toNat)
  case atStart => exact ⟨0, n, by omega, by omega, rfl, rfl, HR, Below.refl _ _⟩
  case round =>
    obtain ⟨k, f, hk, hf, rfl, rfl, hs, hbw⟩ := hrel
    by_cases hlt : k < n - j
    · obtain ⟨b, hb⟩ : ∃ b, m[k]? = some b := ⟨_, List.getElem?_eq_getElem (by rw [HML.out]; exact hlt)⟩
      obtain ⟨y, hy, y0, y1, y2, y3, y4⟩ := (HD.out.below hbw).sees.ev hb
      injection hy with hy
      subst hy
      obtain ⟨f, rfl⟩ : ∃ f', f = f' + 1 := ⟨f - 1, by omega⟩
      have i2 : (0 : Int) ≤ (k : Int) := by omega
      have i3 : (k : Int) < ((n - j : Nat) : Int) := by omega
      have hdl := deepN_le m k
      have hdn := deepN_at hb
      have hws := hbw.size
      by_cases hb1 : b.kind = 1
      · have HDN := Lib.hid (show deepN m k + 1 = deepN m (k + 1) by rw [hdn, if_pos hb1])
        have HS := Lib.hid (show spanN m f (k + 1) = r by rw [← hs.out]; exact (spanN_miss hb (by rw [hb1]; omega)).symm)
        have t2 : (b.kind == 1) = true := by simpa using hb1
        clear hb hs hdn hb1
        go_wp2_with fail
        go_roundw
        case rel => exact ⟨k + 1, f, by omega, by omega, by go_num, by rw [← HDN.out], HS, hbw.alloc hws _⟩
        case measure => simp [intOf]; omega
      · by_cases hb2 : b.kind = 2
        · have t2 : (b.kind == 1) = false := by simpa using hb1
          have t3 : (b.kind == 2) = true := by simpa using hb2
          have hdv : deepN m (k + 1) = deepN m k - 1 := by rw [hdn, if_neg hb1, if_pos hb2]; omega
          by_cases h0 : deepN m k - 1 = 0
          · have hrk : r = some k := by rw [← hs.out]; exact spanN_hit hb hb2 (by rw [hdv]; exact h0)
            have t4 : (deepN m k - 1 == 0) = true := by simpa using h0
            clear hb hs hdn hb1 hb2 hdv h0
            subst hrk
            go_wp2_with fail
            go_ret2
            exact ⟨rfl, hbw.alloc hws _⟩
          · have HDN := Lib.hid hdv
            have HS := Lib.hid (show spanN m f (k + 1) = r by rw [← hs.out]; exact (spanN_miss hb (by rw [hdv]; omega)).symm)
            have t4 : (deepN m k - 1 == 0) = false := by simpa using h0
            clear hb hs hdn hb1 hb2 hdv h0
            go_wp2_with fail
            go_roundw
            case rel => exact ⟨k + 1, f, by omega, by omega, by go_num, by rw [HDN.out], HS, hbw.alloc hws _⟩
            case measure => simp [intOf]; omega
        · have t2 : (b.kind == 1) = false := by simpa using hb1
          have t3 : (b.kind == 2) = false := by simpa using hb2
          have HDN := Lib.hid (show deepN m (k + 1) = deepN m k by rw [hdn, if_neg hb1, if_neg hb2]; omega)
          have HS := Lib.hid (show spanN m f (k + 1) = r by rw [← hs.out]; exact (spanN_miss hb (by omega)).symm)
          clear hb hs hdn hb1 hb2
          go_wp2_with fail
          go_roundw
          case rel => exact ⟨k + 1, f, by omega, by omega, by go_num, by rw [HDN.out], HS, hbw.alloc hws _⟩
          case measure => simp [intOf]; omega
    · have hrk : r = none := by rw [← hs.out]; exact spanN_end f (by rw [HML.out]; omega)
      clear hs
      subst hrk
      go_wp2_with fail
      go_ret2
      exact ⟨rfl, hbw⟩
end Go.Proofs.Ytoiplpmjocemfaa
