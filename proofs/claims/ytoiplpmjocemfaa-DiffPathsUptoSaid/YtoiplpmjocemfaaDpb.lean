/- The elements that are open ahead of a place, by the document. -/
import Derived.Test.YtoiplpmjocemfaaDpa
namespace Go.Proofs.Ytoiplpmjocemfaa
open Go.ChangeShapes Go.WideShapes Go.ChangeAt Go.RowKit
set_option linter.unusedVariables false
set_option maxRecDepth 100000

theorem own_nil {w : World} {base : Nat} {e : TypeId} {A : Option Addr} {n m c size : Nat} {xs : List Value} (h : w.ownsRow base e size (.slice A m c) n xs) : A = none → m = 0 ∧ c = 0 := by
  intro hA
  rcases h.2 with ⟨h1, h2⟩ | ⟨g, cap, cur, h1, _⟩
  · injection h1 with _ h3 h4; exact ⟨h3, h4⟩
  · injection h1 with h3; rw [hA] at h3; cases h3
def RPathPost (w : World) (xs : List ByteArray) (e : Ending) (w' : World) : Prop :=
  ∃ A c, e = .returned (.slice A xs.length c) ∧ Sees w' A (sV xs) ∧ xs.length ≤ c ∧ c ≤ 9223372036854775807 ∧ Below w.heap.size w w'
set_option maxHeartbeats 4000000 in
theorem rpath_in (l : List Ev) (A : Option Addr) (n c m : Nat) (w : World) (hl : l.length = n) (hnc : n ≤ c) (hc9 : c ≤ 9223372036854775807) (hn9 : n ≤ 1000000) (hA : EvsOk w A l) (hm : m ≤ n) :
    Calls Try.prog 63 #[.slice A n c, .int .i64 m] w (RPathPost w (openN l m)) := by
  have HL := Lib.hid hl
  have HA := Lib.hid hA
  clear hl hA
  obtain ⟨i0, hi0, hz0, hz1, hz2⟩ := info_parts strInfo
  go_enter Try.func63, Try.ntmps63
  go_wp2_with fail
  go_loopw [5, 6] (fun v i wr => OpenRel l m w v i wr) (fun _ i _ => m - (intOf i).toNat)
  case atStart => exact ⟨0, 0, none, 0, by omega, rfl, rfl, rfl, World.ownsRow_nil _ _ _ _, Below.refl _ _⟩
  case round =>
    obtain ⟨j, q, A2, c2, hj, rfl, rfl, hq, hown, hbw⟩ := hrel
    have hq9 : q ≤ j := by rw [← hq]; exact openN_len l j
    have HO := Lib.hid hown
    have HQ := Lib.hid hq
    clear hown hq
    by_cases hlt : j < m
    · obtain ⟨a, ha⟩ : ∃ a, l[j]? = some a := ⟨_, List.getElem?_eq_getElem (by rw [HL.out]; omega)⟩
      obtain ⟨x, rfl, x0, x1, x2, x3, x4⟩ := (HA.out.below hbw).sees.ev ha
      have HCL := Lib.hid (fun (w' : World) (hb : Below w.heap.size w w') => (show w'.cell? (x.add (j * 5)) = some (.int .i64 a.kind) ∧ w'.cell? ⟨(x.add (j * 5)).block, (x.add (j * 5)).off + 2, none⟩ = some (.string a.lo) from by
        obtain ⟨x', e, y0, _, y2, _⟩ := (HA.out.below hb).sees.ev ha
        injection e with e
        subst e
        exact ⟨y0, y2⟩))
      have HN := Lib.hid (openN_succ ha)
      have i0' : (0 : Int) ≤ (j : Int) := by omega
      have i1 : (j : Int) < (n : Int) := by omega
      have i2 : j < n := by omega
      have hws := hbw.size
      clear ha x1 x3 x4
      by_cases hk1 : a.kind = 1
      · have t1 : (a.kind == 1) = true := by simpa using hk1
        have t2 : (a.kind == 2) = false := by rw [hk1]; rfl
        have HS := Lib.hid (show openN l (j + 1) = openN l j ++ [a.lo] by rw [HN.out]; unfold stepO; rw [if_pos hk1])
        have hbW0 : Below w.heap.size w (wr.alloc (.cells #[.string a.lo] 9)).drew := (hbw.alloc hws _).drew
        have hbW3 : Below w.heap.size w (wr.alloc (.cells #[] 9)).drew := (hbw.alloc hws _).drew
        have hbW5 : Below w.heap.size w ((wr.alloc (.cells #[] 9)).alloc (.cells #[.string a.lo] 9)).drew := ((hbw.alloc hws _).alloc (by simp; omega) _).drew
        have hbW7 : Below w.heap.size w ((wr.alloc (.cells #[.string a.lo] 9)).alloc (.cells #[] 9)).drew := ((hbw.alloc hws _).alloc (by simp; omega) _).drew
        have hrW3 : Below wr.heap.size wr (wr.alloc (.cells #[] 9)).drew := ((Below.refl _ _).alloc (Nat.le_refl _) _).drew
        have hrW5 : Below wr.heap.size wr ((wr.alloc (.cells #[] 9)).alloc (.cells #[.string a.lo] 9)).drew := (((Below.refl _ _).alloc (Nat.le_refl _) _).alloc (by simp) _).drew
        have hrW7 : Below wr.heap.size wr ((wr.alloc (.cells #[.string a.lo] 9)).alloc (.cells #[] 9)).drew := (((Below.refl _ _).alloc (Nat.le_refl _) _).alloc (by simp) _).drew
        have hoW3 : (wr.alloc (.cells #[] 9)).drew.ownsRow w.heap.size 9 1 (.slice (some ⟨wr.heap.size, 0, none⟩) 0 0) 0 [] := (World.ownsRow_made wr #[] 0 hws (by unfold maxLen; omega) rfl).drew
        have hoW5 : ((wr.alloc (.cells #[] 9)).alloc (.cells #[.string a.lo] 9)).drew.ownsRow w.heap.size 9 1 (.slice (some ⟨wr.heap.size, 0, none⟩) 0 0) 0 [] := ((World.ownsRow_made wr #[] 0 hws (by unfold maxLen; omega) rfl).alloc _).drew
        have hoW7 : ((wr.alloc (.cells #[.string a.lo] 9)).alloc (.cells #[] 9)).drew.ownsRow w.heap.size 9 1 (.slice (some ⟨wr.heap.size + 1, 0, none⟩) 0 0) 0 [] := by
          have h := (World.ownsRow_made (base := w.heap.size) (e := 9) (size := 1) (wr.alloc (.cells #[.string a.lo] 9)) #[] 0 (by simp; omega) (by unfold maxLen; omega) rfl).drew
          rw [World.size_alloc] at h
          exact h
        obtain ⟨A3, c3, w3, hr3, ho3, hg3, hat3⟩ := append_copy (wr.alloc (.cells #[] 9)).drew w.heap.size A2 q c2 (openN l j) 82 (by simp; omega) HQ.out (by omega) ((own_sees HO.out).below hrW3) (own_nil HO.out) (.slice (some ⟨wr.heap.size, 0, none⟩) 0 0) hoW3
        have hg3' : (wr.alloc (.cells #[] 9)).drew.grownBy w3 (some (wr.heap.size)) := hg3
        have hb3 : Below w.heap.size w w3 := hbW3.grown hg3' (by simp; omega) (fun g hg => by injection hg with hg; omega)
        have hws3 := hb3.size
        have HR3 := Lib.hid hr3
        have HO3 := Lib.hid ho3
        obtain ⟨A5, c5, w5, hr5, ho5, hg5, hat5⟩ := append_copy ((wr.alloc (.cells #[] 9)).alloc (.cells #[.string a.lo] 9)).drew w.heap.size A2 q c2 (openN l j) 82 (by simp; omega) HQ.out (by omega) ((own_sees HO.out).below hrW5) (own_nil HO.out) (.slice (some ⟨wr.heap.size, 0, none⟩) 0 0) hoW5
        have hg5' : ((wr.alloc (.cells #[] 9)).alloc (.cells #[.string a.lo] 9)).drew.grownBy w5 (some (wr.heap.size)) := hg5
        have hb5 : Below w.heap.size w w5 := hbW5.grown hg5' (by simp; omega) (fun g hg => by injection hg with hg; omega)
        have hws5 := hb5.size
        have HR5 := Lib.hid hr5
        have HO5 := Lib.hid ho5
        obtain ⟨A7, c7, w7, hr7, ho7, hg7, hat7⟩ := append_copy ((wr.alloc (.cells #[.string a.lo] 9)).alloc (.cells #[] 9)).drew w.heap.size A2 q c2 (openN l j) 82 (by simp; omega) HQ.out (by omega) ((own_sees HO.out).below hrW7) (own_nil HO.out) (.slice (some ⟨wr.heap.size + 1, 0, none⟩) 0 0) hoW7
        have hg7' : ((wr.alloc (.cells #[.string a.lo] 9)).alloc (.cells #[] 9)).drew.grownBy w7 (some (wr.heap.size + 1)) := hg7
        have hb7 : Below w.heap.size w w7 := hbW7.grown hg7' (by simp; omega) (fun g hg => by injection hg with hg; omega)
        have hws7 := hb7.size
        have HR7 := Lib.hid hr7
        have HO7 := Lib.hid ho7
        have hb3' := hb3.alloc hws3 (.cells #[.string a.lo] 9)
        have HN5 : Hid (∀ j u, (sV [a.lo])[j]? = some u → w5.cell? ((⟨wr.heap.size + 1, 0, none⟩ : Addr).add j) = some u) := fun j u hu => by
          have h1 : ((wr.alloc (.cells #[] 9)).alloc (.cells #[.string a.lo] 9)).drew.cell? ((⟨wr.heap.size + 1, 0, none⟩ : Addr).add j) = some u := one_new_at (wr.alloc (.cells #[] 9)) (.string a.lo) 9 (wr.heap.size + 1) (World.size_alloc ..) j u hu
          exact hg5'.cell h1 (by cases j <;> simp [Addr.add])
        have HN7 : Hid (∀ j u, (sV [a.lo])[j]? = some u → w7.cell? ((⟨wr.heap.size, 0, none⟩ : Addr).add j) = some u) := fun j u hu => by
          have h0 : (wr.alloc (.cells #[.string a.lo] 9)).cell? ((⟨wr.heap.size, 0, none⟩ : Addr).add j) = some u := one_new_at wr (.string a.lo) 9 _ rfl j u hu
          have h1 : ((wr.alloc (.cells #[.string a.lo] 9)).alloc (.cells #[] 9)).drew.cell? ((⟨wr.heap.size, 0, none⟩ : Addr).add j) = some u := (((Below.refl _ (wr.alloc (.cells #[.string a.lo] 9))).alloc (Nat.le_refl _) (.cells #[] 9)).drew).cell (World.block_lt_of_cell? _ _ h0) |>.trans h0
          exact hg7'.cell h1 (by cases j <;> simp [Addr.add])
        clear hr3 ho3 hg3 hat3 hk1 hg3' hoW3 hrW3 hr5 ho5 hg5 hat5 hg5' hoW5 hrW5 hr7 ho7 hg7 hat7 hg7' hoW7 hrW7
        go_wp2_with fail
        go_region_held3 (fun w' => Below w.heap.size w w' ∧ w'.cell? ⟨(x.add (j * 5)).block, (x.add (j * 5)).off + 2, none⟩ = some (.string a.lo))
          (first | exact ⟨by assumption, (HCL.out _ (by assumption)).2⟩ | exact ⟨hbw.drew, (HCL.out _ hbw.drew).2⟩)
          (first
            | ((with_reducible refine step_append_run ?_ (.tmp 18) (.tmp 19) 82 ?_ _ _ _ _ ?_ ?_ HR3.out ?_); rfl; rfl; rfl; rfl)
            | ((with_reducible refine step_append_run ?_ (.tmp 18) (.tmp 19) 82 ?_ _ _ _ _ ?_ ?_ HR5.out ?_); rfl; rfl; rfl; rfl)
            | ((with_reducible refine step_append_run ?_ (.tmp 18) (.tmp 19) 82 ?_ _ _ _ _ ?_ ?_ HR7.out ?_); rfl; rfl; rfl; rfl)
            | (refine step_append_lies _ (by rfl) (.tmp 20) (.tmp 27) _ (by rfl) w.heap.size 9 i0 (.string ⟨#[]⟩) 1 16 Try.underlying82 hi0 hz0 hz1 hz2 rfl (by decide) _ q (sV (openN l j)) (by rfl) HO5.out ⟨wr.heap.size + 1, 0, none⟩ 1 1 (sV [a.lo]) (by rfl) (by rfl) HN5.out (sV_one _) (by omega) (by unfold maxLen; omega) (by omega) hws5 _ rfl ?_; intro g4 c4 w4 ho4 hg4 hat4 hlt4; have hb4 : Below w.heap.size w w4 := hb5.grown hg4 hws5 (fun g hg => (HO5.out.lt g hg).1))
            | (refine step_append_lies _ (by rfl) (.tmp 20) (.tmp 27) _ (by rfl) w.heap.size 9 i0 (.string ⟨#[]⟩) 1 16 Try.underlying82 hi0 hz0 hz1 hz2 rfl (by decide) _ q (sV (openN l j)) (by rfl) HO7.out ⟨wr.heap.size, 0, none⟩ 1 1 (sV [a.lo]) (by rfl) (by rfl) HN7.out (sV_one _) (by omega) (by unfold maxLen; omega) (by omega) hws7 _ rfl ?_; intro g4 c4 w4 ho4 hg4 hat4 hlt4; have hb4 : Below w.heap.size w w4 := hb7.grown hg4 hws7 (fun g hg => (HO7.out.lt g hg).1))
            | (refine step_append_lies _ (by rfl) (.tmp 20) (.tmp 27) _ (by rfl) w.heap.size 9 i0 (.string ⟨#[]⟩) 1 16 Try.underlying82 hi0 hz0 hz1 hz2 rfl (by decide) _ q (sV (openN l j)) (by rfl) (HO3.out.alloc _) ⟨w3.heap.size, 0, none⟩ 1 1 (sV [a.lo]) (by rfl) (by rfl) (one_new_at w3 (.string a.lo) _ _ rfl) (sV_one _) (by omega) (by unfold maxLen; omega) (by omega) (by simp; omega) _ rfl ?_; intro g4 c4 w4 ho4 hg4 hat4 hlt4; have hb4 : Below w.heap.size w w4 := hb3'.grown hg4 (by simp; omega) (fun g hg => (HO3.out.lt g hg).1)))
        all_goals
          have c0 := (HCL.out w4 hb4).1
          have HO4 := Lib.hid ho4
          clear ho4 hg4 hat4 hlt4
          go_wp2_with fail
          go_roundw
        case rel => exact ⟨j + 1, q + 1, some ⟨g4, 0, none⟩, c4, by omega, by go_num, rfl, by rw [HS.out, List.length_append, HQ.out]; rfl, by rw [HS.out, sV_append]; exact HO4.out, hb4⟩
        case measure => simp [intOf]; omega
        case rel => exact ⟨j + 1, q + 1, some ⟨g4, 0, none⟩, c4, by omega, by go_num, rfl, by rw [HS.out, List.length_append, HQ.out]; rfl, by rw [HS.out, sV_append]; exact HO4.out, hb4⟩
        case measure => simp [intOf]; omega
        case rel => exact ⟨j + 1, q + 1, some ⟨g4, 0, none⟩, c4, by omega, by go_num, rfl, by rw [HS.out, List.length_append, HQ.out]; rfl, by rw [HS.out, sV_append]; exact HO4.out, hb4⟩
        case measure => simp [intOf]; omega
      · have t1 : (a.kind == 1) = false := by simpa using hk1
        by_cases hk2 : a.kind = 2
        · have t2 : (a.kind == 2) = true := by simpa using hk2
          have hst : stepO (openN l j) a = (openN l j).dropLast := by unfold stepO; rw [if_neg hk1, if_pos hk2]
          by_cases hq0 : q = 0
          · subst hq0
            have HS := Lib.hid (show openN l (j + 1) = [] by rw [HN.out, hst, List.eq_nil_of_length_eq_zero HQ.out]; rfl)
            have HO0 := Lib.hid (show wr.ownsRow w.heap.size 9 1 (.slice A2 0 c2) 0 (sV []) by have h := HO.out; rw [List.eq_nil_of_length_eq_zero HQ.out] at h; exact h)
            clear hk1 hk2 hst
            go_wp2_with fail
            go_roundw
            case rel => exact ⟨j + 1, 0, A2, c2, by omega, by go_num, rfl, by rw [HS.out]; rfl, by rw [HS.out]; exact HO0.out, hbw⟩
            case measure => simp [intOf]; omega
          · obtain ⟨p, rfl⟩ : ∃ p, q = p + 1 := ⟨q - 1, by omega⟩
            have hcap := own_cap2 HO.out
            have hd : (openN l j).dropLast.length = p := by rw [List.length_dropLast, HQ.out]; omega
            have hs : sV (openN l j).dropLast = (sV (openN l j)).take p := by unfold sV; rw [← List.map_take, List.dropLast_eq_take, HQ.out]; rfl
            have HT := Lib.hid (own_take HO.out (Nat.le_succ p))
            have HD := Lib.hid hd
            have HSS := Lib.hid hs
            have HS := Lib.hid (show openN l (j + 1) = (openN l j).dropLast by rw [HN.out, hst])
            have e0 : (0 : Int) ≤ (p : Int) := by omega
            have e1 : (p : Int) ≤ (c2 : Int) := by omega
            have e2 : p ≤ c2 := by omega
            clear hk1 hk2 hst hd hs hq0
            go_wp2_with fail
            go_roundw
            case rel => exact ⟨j + 1, p, A2, c2, by omega, by go_num, rfl, by rw [HS.out, HD.out], by rw [HS.out, HSS.out]; exact HT.out, hbw⟩
            case measure => simp [intOf]; omega
        · have t2 : (a.kind == 2) = false := by simpa using hk2
          have HS := Lib.hid (show openN l (j + 1) = openN l j by rw [HN.out]; unfold stepO; rw [if_neg hk1, if_neg hk2])
          clear hk1 hk2
          go_wp2_with fail
          go_roundw
          case rel => exact ⟨j + 1, q, A2, c2, by omega, by go_num, rfl, by rw [HS.out, HQ.out], by rw [HS.out]; exact HO.out, hbw⟩
          case measure => simp [intOf]; omega
    · obtain rfl : j = m := by omega
      have hcap := own_cap2 HO.out
      have e := HQ.out
      go_wp2_with fail
      go_ret
      subst e
      exact ⟨A2, c2, rfl, own_sees HO.out, hcap.1, hcap.2, hbw⟩
end Go.Proofs.Ytoiplpmjocemfaa
