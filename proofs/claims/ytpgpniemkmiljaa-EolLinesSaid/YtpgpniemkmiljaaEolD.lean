/- The walk of Norm. -/
import Derived.Test.YtpgpniemkmiljaaEolC
import Derived.Test.YtpgpniemkmiljaaReg
import Derived.WalkMore
import Derived.IntWalk
import Derived.Scope
namespace Go.Proofs.Ytpgpniemkmiljaa
open Go.ChangeShapes Go.WideShapes Go.ChangeAt Go.RowKit
set_option linter.unusedVariables false

theorem b8_size : (Try.prog.info? 5).map (·.size) = some 1 := by kernel_rfl
/-- What Norm tells. -/
def NormPost (w : World) (l : List UInt8) (e : Ending) (w' : World) : Prop :=
  ∃ A c, e = .returned (.slice A (normS l).length c) ∧ Sees w' A (vB (normS l)) ∧ (normS l).length ≤ c ∧ c ≤ 9223372036854775807 ∧ Below w.heap.size w w'
theorem normPost_mk {w w' : World} {l R : List UInt8} {g m c : Nat} {tail : List Value} (hR : R.take m = normS l) (hm : m ≤ R.length) (hh : Holds8 w' g R tail) (hc : R.length ≤ c) (hc2 : c ≤ 9223372036854775807) (hb : Below w.heap.size w w') :
    NormPost w l (.returned (.slice (some ⟨g, 0, none⟩) m c)) w' := by
  have e : (normS l).length = m := by rw [← hR, List.length_take]; omega
  exact ⟨_, c, by rw [e], by rw [← hR]; exact holds_take hh m, by omega, hc2, hb⟩

theorem Holds8.drew {w : World} {g : Nat} {R : List UInt8} {tail : List Value} (h : Holds8 w g R tail) : Holds8 w.drew g R tail := h

set_option maxRecDepth 100000 in
set_option maxHeartbeats 4000000 in
theorem norm_any (w : World) (A : Option Addr) (n c : Nat) (l : List UInt8) (hn : l.length = n) (hc : n ≤ 1099511627776) (hs : Sees w A (vB l)) :
    Calls Try.prog 20 #[.slice A n c] w (NormPost w l) := by
  have HC := Lib.hid (bClone_any w A n c l hn hc hs)
  have HN := Lib.hid hn
  clear hs hn
  go_enter Try.func20, Try.ntmps20
  go_wp2_with fail
  go_step3
  go_wp2_with fail
  refine HC.out.mono ?_
  rintro e w1 ⟨A1, cap, rfl, hown, hb1⟩
  cases A1 with
  | none =>
    have hz : n = 0 := by
      rcases hown.2 with ⟨h1, h2⟩ | ⟨g, _, _, h1, _⟩
      · exact h2
      · cases h1
    subst hz
    have hcp : cap = 0 := by
      rcases hown.2 with ⟨h1, h2⟩ | ⟨g, _, _, h1, _⟩
      · injection h1
      · cases h1
    subst hcp
    have HE := Lib.hid (List.eq_nil_of_length_eq_zero HN.out)
    clear hown
    have HI := Lib.hid (show ∀ (W : World) A, Calls Try.prog 73 #[.slice A 0 0, .int .u8 13] W fun e w' => e = .returned (.int .i64 (-1)) ∧ W = w' from fun W A => bIndex_any W A 0 0 [] 13 rfl (sees_nil _ _))
    go_wp2_with fail
    go_step3
    go_wp2_with fail
    go_loopw [4, 5, 6] (fun t f _ wr => t = .int .i64 0 ∧ f = .int .i64 0 ∧ wr = w1) (fun _ _ _ _ => 0)
    case atStart => exact ⟨rfl, rfl, rfl⟩
    case round =>
      obtain ⟨rfl, rfl, rfl⟩ := hrel
      go_wp2_with (go_at_call 73; refine (HI.out _ _).mono ?_; rintro e w' ⟨rfl, rfl⟩)
      refine wp_region_any (by kernel_rfl) ?_
      change wpAny _ _ _ _ _ _ _ (World.drew _)
      refine takeA (i := 0) (d := 15) (v := (.int .i64 0)) rfl rfl (by kernel_rfl) (by kernel_rfl) (by kernel_rfl) (fun _ _ _ h => h) (Or.inl ⟨by kernel_rfl, fun W => ?_⟩) ?_
      · go_simp
      simp only [List.setIfInBounds_toArray, List.set_cons_zero, List.set_cons_succ]
      refine takeA (i := 1) (d := 16) (v := (.slice none 0 0)) rfl rfl (by kernel_rfl) (by kernel_rfl) (by kernel_rfl) (fun _ _ _ h => h) (Or.inl ⟨by kernel_rfl, fun W => ?_⟩) ?_
      · go_simp
      simp only [List.setIfInBounds_toArray, List.set_cons_zero, List.set_cons_succ]
      refine takeA (i := 2) (d := 17) (v := (.int .i64 0)) rfl rfl (by kernel_rfl) (by kernel_rfl) (by kernel_rfl) (fun _ _ _ h => h) (Or.inl ⟨by kernel_rfl, fun W => ?_⟩) ?_
      · go_simp
      simp only [List.setIfInBounds_toArray, List.set_cons_zero, List.set_cons_succ]
      refine takeA (i := 3) (d := 18) (v := (.slice none 0 0)) rfl rfl (by kernel_rfl) (by kernel_rfl) (by kernel_rfl) (fun _ _ _ h => h) (Or.inl ⟨by kernel_rfl, fun W => ?_⟩) ?_
      · go_simp
      simp only [List.setIfInBounds_toArray, List.set_cons_zero, List.set_cons_succ]
      refine takeA (i := 4) (d := 19) (v := (.slice none 0 0)) rfl rfl (by kernel_rfl) (by kernel_rfl) (by kernel_rfl) (fun _ _ _ h => h) (Or.inl ⟨by kernel_rfl, fun W => ?_⟩) ?_
      · go_simp
      simp only [List.setIfInBounds_toArray, List.set_cons_zero, List.set_cons_succ]
      refine takeA (i := 5) (d := 20) (v := (.int .i64 0)) rfl rfl (by kernel_rfl) (by kernel_rfl) (by kernel_rfl) (fun _ _ _ h => h) (Or.inl ⟨by kernel_rfl, fun W => ?_⟩) ?_
      · go_simp
      simp only [List.setIfInBounds_toArray, List.set_cons_zero, List.set_cons_succ]
      refine takeA (i := 6) (d := 21) (v := (.slice none 0 0)) rfl rfl (by kernel_rfl) (by kernel_rfl) (by kernel_rfl) (fun _ _ _ h => h) (Or.inl ⟨by kernel_rfl, fun W => ?_⟩) ?_
      · go_simp
      simp only [List.setIfInBounds_toArray, List.set_cons_zero, List.set_cons_succ]
      refine callA (i := 7) (d := 22) rfl rfl (by kernel_rfl) (fun K hK => ?_)
      refine step_copy_none rfl (.tmp 18) (.tmp 21) 22 22 rfl 5 Try.underlying22 b8_size none none 0 0 0 0 rfl rfl (by simp) ?_
      refine hK.out _ _ ?_
      clear hK K
      simp only [List.setIfInBounds_toArray, List.set_cons_zero, List.set_cons_succ]
      refine takeA (i := 8) (d := 23) (v := (.int .i64 0)) rfl rfl (by kernel_rfl) (by kernel_rfl) (by kernel_rfl) (fun _ _ _ h => h) (Or.inl ⟨by kernel_rfl, fun W => ?_⟩) ?_
      · (go_simp; try exact IntWalk.i64_in _ (by omega))
      simp only [List.setIfInBounds_toArray, List.set_cons_zero, List.set_cons_succ]
      refine takeA (i := 9) (d := 4) (v := (.int .i64 0)) rfl rfl (by kernel_rfl) (by kernel_rfl) (by kernel_rfl) (fun _ _ _ h => h) (Or.inl ⟨by kernel_rfl, fun W => ?_⟩) ?_
      · go_simp
      simp only [List.setIfInBounds_toArray, List.set_cons_zero, List.set_cons_succ]
      refine wpAny_done (by kernel_rfl) ?_ _
      go_wp2_with fail
      rw [Exit.noGoto_ret]
      go_ret
      have e := HE.out
      subst e
      exact ⟨none, 0, rfl, sees_nil _ _, Nat.le_refl _, by omega, hb1.drew⟩
  | some a1 =>
    have hform : ∃ g, a1 = ⟨g, 0, none⟩ := by
      rcases hown.2 with ⟨h1, _⟩ | ⟨g, _, _, h1, _⟩
      · cases h1
      · injection h1 with h1; injection h1 with h1; exact ⟨g, h1⟩
    obtain ⟨g, rfl⟩ := hform
    obtain ⟨tail, hh, hnc, hcm, hlen, hgb⟩ := own_holds hown
    have HL := Lib.hid hlen
    have HH := Lib.hid hh
    clear hown hlen hh
    go_wp2_with fail
    go_step3
    go_wp2_with fail
    go_loopw [4, 5, 6] (fun t f _ wr => ∃ to frm : Nat, ∃ R : List UInt8, t = .int .i64 to ∧ f = .int .i64 frm ∧ Hid (NormAt l n to frm R) ∧ Hid (Holds8 wr g R tail) ∧ Below w.heap.size w wr) (fun _ f _ _ => n - (intOf f).toNat)
    case atStart =>
      have h0 := normAt_zero l
      rw [HN.out] at h0
      exact ⟨0, 0, l, rfl, rfl, h0, HH, hb1⟩
    case round =>
      obtain ⟨to, frm, R, rfl, rfl, HA, HW, hB⟩ := hrel
      have hlow := HA.out.low
      have hhigh := HA.out.high
      have HR := Lib.hid (show (vB R ++ tail).length = cap by have := HL.out; rw [List.length_append, vB_len] at this ⊢; rw [HA.out.size]; rw [HN.out] at this; exact this)
      by_cases hlt : frm < n
      · have hct : ¬ cap = to := by omega
        have hcf : ¬ cap = frm := by omega
        have HI := Lib.hid (bIndex_any wr (some ⟨g, frm, none⟩) (n - frm) (cap - frm) (l.drop frm) 13 (by rw [List.length_drop, HN.out]) (by rw [← HA.out.rest]; exact holds_sees HW.out frm))
        by_cases hi : Lib.indexByte (l.drop frm) 13 < 0
        · obtain ⟨hi1, hi2⟩ := index_none hi
          have hq : ∀ cv : Int, cv = 13 → Lib.indexByte (l.drop frm) cv.toNat.toUInt8 = -1 := by rintro _ rfl; exact hi1
          rw [hq 13 rfl] at HI
          have HP := Lib.hid (normAt_last HN.out HA.out (plain_of_none hi2))
          have HX := Lib.hid (show (l.drop frm).length = n - frm by rw [List.length_drop, HN.out])
          clear hi hi1 hi2 hq
          go_wp2_with (go_at_call 73; refine HI.out.mono ?_; rintro e w' ⟨rfl, rfl⟩)
          have HG := Lib.hid (show wr.drew.heap[g]? = some (.cells (vB R ++ tail).toArray 5 (0, 0)) from HW.out)
          obtain ⟨X, hX⟩ : ∃ X, vB (l.drop frm) = X := ⟨_, rfl⟩
          have HXL := Lib.hid (show X.length = n - frm by rw [← hX, vB_len, HX.out])
          have HX1 := Lib.hid (show ∀ u ∈ X, u.oneCell' = true by rw [← hX]; exact vB_ones _)
          have HS := Lib.hid (show ∀ j u, X[j]? = some u → wr.drew.cell? ((⟨g, frm, none⟩ : Addr).add j) = some u from fun j u hu => holds_cell (w := wr.drew) HW.out frm (R.drop frm).length j u (by rw [List.take_of_length_le (Nat.le_refl _), HA.out.rest, hX]; exact hu))
          have HXE := Lib.hid hX
          clear hX
          have e1 : (0 : Int) ≤ (to : Int) := by omega
          have e2 : (to : Int) ≤ (n : Int) := by omega
          have e3 : (0 : Int) ≤ (frm : Int) := by omega
          have e4 : (frm : Int) ≤ (n : Int) := by omega
          refine wp_region_any (by kernel_rfl) ?_
          change wpAny _ _ _ _ _ _ _ (World.drew _)
          refine takeA (i := 0) (d := 15) (v := (.int .i64 to)) rfl rfl (by kernel_rfl) (by kernel_rfl) (by kernel_rfl) (fun _ _ _ h => h) (Or.inl ⟨by kernel_rfl, fun W => ?_⟩) ?_
          · go_simp
          simp only [List.setIfInBounds_toArray, List.set_cons_zero, List.set_cons_succ]
          refine takeA (i := 1) (d := 16) (v := (.slice (some ⟨g, 0, none⟩) n cap)) rfl rfl (by kernel_rfl) (by kernel_rfl) (by kernel_rfl) (fun _ _ _ h => h) (Or.inl ⟨by kernel_rfl, fun W => ?_⟩) ?_
          · go_simp
          simp only [List.setIfInBounds_toArray, List.set_cons_zero, List.set_cons_succ]
          refine takeA (i := 2) (d := 17) (v := (.int .i64 to)) rfl rfl (by kernel_rfl) (by kernel_rfl) (by kernel_rfl) (fun _ _ _ h => h) (Or.inl ⟨by kernel_rfl, fun W => ?_⟩) ?_
          · go_simp
          simp only [List.setIfInBounds_toArray, List.set_cons_zero, List.set_cons_succ]
          refine takeA (i := 3) (d := 18) (v := (.slice (some ⟨g, to, none⟩) (n - to) (cap - to))) rfl rfl (by kernel_rfl) (by kernel_rfl) (by kernel_rfl) (fun _ _ _ h => h) (Or.inl ⟨by kernel_rfl, fun W => ?_⟩) ?_
          · go_simp
          simp only [List.setIfInBounds_toArray, List.set_cons_zero, List.set_cons_succ]
          refine takeA (i := 4) (d := 19) (v := (.slice (some ⟨g, 0, none⟩) n cap)) rfl rfl (by kernel_rfl) (by kernel_rfl) (by kernel_rfl) (fun _ _ _ h => h) (Or.inl ⟨by kernel_rfl, fun W => ?_⟩) ?_
          · go_simp
          simp only [List.setIfInBounds_toArray, List.set_cons_zero, List.set_cons_succ]
          refine takeA (i := 5) (d := 20) (v := (.int .i64 frm)) rfl rfl (by kernel_rfl) (by kernel_rfl) (by kernel_rfl) (fun _ _ _ h => h) (Or.inl ⟨by kernel_rfl, fun W => ?_⟩) ?_
          · go_simp
          simp only [List.setIfInBounds_toArray, List.set_cons_zero, List.set_cons_succ]
          refine takeA (i := 6) (d := 21) (v := (.slice (some ⟨g, frm, none⟩) (n - frm) (cap - frm))) rfl rfl (by kernel_rfl) (by kernel_rfl) (by kernel_rfl) (fun _ _ _ h => h) (Or.inl ⟨by kernel_rfl, fun W => ?_⟩) ?_
          · go_simp
          simp only [List.setIfInBounds_toArray, List.set_cons_zero, List.set_cons_succ]
          refine callA (i := 7) (d := 22) rfl rfl (by kernel_rfl) (fun K hK => ?_)
          refine step_copy_splice rfl (.tmp 18) (.tmp 21) 22 22 rfl 5 Try.underlying22 b8_size (some ⟨g, to, none⟩) (some ⟨g, frm, none⟩) (n - to) (cap - to) (n - frm) (cap - frm) rfl rfl g to (vB R ++ tail) 5 HG.out X (by rw [HXL.out]; show _ = min _ _; omega) (fun _ => ⟨rfl, _, rfl, HS.out⟩) (by rw [HXL.out, HR.out]; omega) HX1.out w.heap.size w hB.drew hgb ?_
          intro w4 hg4 hb4
          rw [HXL.out]
          refine hK.out _ _ ?_
          clear hK K
          simp only [List.setIfInBounds_toArray, List.set_cons_zero, List.set_cons_succ]
          refine takeA (i := 8) (d := 23) (v := (.int .i64 ((to : Int) + (n - frm : Nat)))) rfl rfl (by kernel_rfl) (by kernel_rfl) (by kernel_rfl) (fun _ _ _ h => h) (Or.inl ⟨by kernel_rfl, fun W => ?_⟩) ?_
          · go_simp
            exact IntWalk.i64_in _ (by omega)
          simp only [List.setIfInBounds_toArray, List.set_cons_zero, List.set_cons_succ]
          refine takeA (i := 9) (d := 4) (v := (.int .i64 ((to : Int) + (n - frm : Nat)))) rfl rfl (by kernel_rfl) (by kernel_rfl) (by kernel_rfl) (fun _ _ _ h => h) (Or.inl ⟨by kernel_rfl, fun W => ?_⟩) ?_
          · go_simp
          simp only [List.setIfInBounds_toArray, List.set_cons_zero, List.set_cons_succ]
          refine wpAny_done (by kernel_rfl) ?_ _
          have HW4 : Hid (Holds8 w4 g (splice R to (l.drop frm)) tail) := by
            unfold Holds8
            rw [← splice_vB R _ tail to HP.out.1, HXE.out]
            exact hg4.out
          have hf1 : to + (n - frm) ≤ cap := by omega
          clear hg4
          go_wp2_with fail
          rw [Exit.noGoto_ret]
          go_ret
          have hP := HP.out
          rw [HX.out] at hP
          exact normPost_mk hP.2 (by rw [splice_len R _ to HP.out.1]; exact hP.1) HW4.out (by rw [splice_len R _ to HP.out.1, HA.out.size]; exact hnc) hcm hb4
        · obtain ⟨k, hk1, hk2, hk3, hk4⟩ := index_some (show 0 ≤ Lib.indexByte (l.drop frm) 13 by omega)
          have hq : ∀ cv : Int, cv = 13 → Lib.indexByte (l.drop frm) cv.toNat.toUInt8 = (k : Int) := by rintro _ rfl; exact hk1
          rw [hq 13 rfl] at HI
          obtain ⟨q1, q2, q3, q4, q5⟩ := normAt_next HN.out HA.out hk2 (plain_of_none hk3) hk4
          have HQ2 := Lib.hid q2
          have HQ3 := Lib.hid q3
          have HQ4 := Lib.hid q4
          have HQ5 := Lib.hid q5
          have hkn : frm + k < n := by have := hk2; rw [List.length_drop, HN.out] at this; omega
          have HK2 := Lib.hid hk2
          have HR2 := Lib.hid (show R.length = n from HA.out.size)
          clear hi hk1 hk2 hk3 hk4 hq q1 q2 q3 q4 q5
          go_wp2_with (go_at_call 73; refine HI.out.mono ?_; rintro e w' ⟨rfl, rfl⟩)
          have HG := Lib.hid (show wr.drew.heap[g]? = some (.cells (vB R ++ tail).toArray 5 (0, 0)) from HW.out)
          obtain ⟨X, hX⟩ : ∃ X, vB ((l.drop frm).take k) = X := ⟨_, rfl⟩
          have HXL := Lib.hid (show X.length = k by rw [← hX, vB_len, List.length_take]; have := HK2.out; omega)
          have HX1 := Lib.hid (show ∀ u ∈ X, u.oneCell' = true by rw [← hX]; exact vB_ones _)
          have HS := Lib.hid (show ∀ j u, X[j]? = some u → wr.drew.cell? ((⟨g, frm, none⟩ : Addr).add j) = some u from fun j u hu => holds_cell (w := wr.drew) HW.out frm k j u (by rw [HA.out.rest, hX]; exact hu))
          have HXE := Lib.hid hX
          clear hX
          have e1 : (0 : Int) ≤ (to : Int) := by omega
          have e2 : (to : Int) ≤ (n : Int) := by omega
          have e3 : (0 : Int) ≤ (frm : Int) := by omega
          have e4 : (frm : Int) ≤ (n : Int) := by omega
          have e5 : (0 : Int) ≤ (frm : Int) + (k : Int) := by omega
          have e6 : (frm : Int) + (k : Int) ≤ (cap : Int) := by omega
          have e7 : (frm : Int) ≤ (frm : Int) + (k : Int) := by omega
          have e8 : ((frm : Int) + (k : Int)).toNat - frm = k := by omega
          refine wp_region_any (by kernel_rfl) ?_
          change wpAny _ _ _ _ _ _ _ (World.drew _)
          refine takeA (i := 0) (d := 24) (v := (.int .i64 to)) rfl rfl (by kernel_rfl) (by kernel_rfl) (by kernel_rfl) (fun _ _ _ h => h) (Or.inl ⟨by kernel_rfl, fun W => ?_⟩) ?_
          · go_simp
          simp only [List.setIfInBounds_toArray, List.set_cons_zero, List.set_cons_succ]
          refine takeA (i := 1) (d := 25) (v := (.slice (some ⟨g, 0, none⟩) n cap)) rfl rfl (by kernel_rfl) (by kernel_rfl) (by kernel_rfl) (fun _ _ _ h => h) (Or.inl ⟨by kernel_rfl, fun W => ?_⟩) ?_
          · go_simp
          simp only [List.setIfInBounds_toArray, List.set_cons_zero, List.set_cons_succ]
          refine takeA (i := 2) (d := 26) (v := (.int .i64 to)) rfl rfl (by kernel_rfl) (by kernel_rfl) (by kernel_rfl) (fun _ _ _ h => h) (Or.inl ⟨by kernel_rfl, fun W => ?_⟩) ?_
          · go_simp
          simp only [List.setIfInBounds_toArray, List.set_cons_zero, List.set_cons_succ]
          refine takeA (i := 3) (d := 27) (v := (.slice (some ⟨g, to, none⟩) (n - to) (cap - to))) rfl rfl (by kernel_rfl) (by kernel_rfl) (by kernel_rfl) (fun _ _ _ h => h) (Or.inl ⟨by kernel_rfl, fun W => ?_⟩) ?_
          · go_simp
          simp only [List.setIfInBounds_toArray, List.set_cons_zero, List.set_cons_succ]
          refine takeA (i := 4) (d := 28) (v := (.slice (some ⟨g, 0, none⟩) n cap)) rfl rfl (by kernel_rfl) (by kernel_rfl) (by kernel_rfl) (fun _ _ _ h => h) (Or.inl ⟨by kernel_rfl, fun W => ?_⟩) ?_
          · go_simp
          simp only [List.setIfInBounds_toArray, List.set_cons_zero, List.set_cons_succ]
          refine takeA (i := 5) (d := 29) (v := (.int .i64 frm)) rfl rfl (by kernel_rfl) (by kernel_rfl) (by kernel_rfl) (fun _ _ _ h => h) (Or.inl ⟨by kernel_rfl, fun W => ?_⟩) ?_
          · go_simp
          simp only [List.setIfInBounds_toArray, List.set_cons_zero, List.set_cons_succ]
          refine takeA (i := 6) (d := 30) (v := (.int .i64 frm)) rfl rfl (by kernel_rfl) (by kernel_rfl) (by kernel_rfl) (fun _ _ _ h => h) (Or.inl ⟨by kernel_rfl, fun W => ?_⟩) ?_
          · go_simp
          simp only [List.setIfInBounds_toArray, List.set_cons_zero, List.set_cons_succ]
          refine takeA (i := 7) (d := 31) (v := (.int .i64 k)) rfl rfl (by kernel_rfl) (by kernel_rfl) (by kernel_rfl) (fun _ _ _ h => h) (Or.inl ⟨by kernel_rfl, fun W => ?_⟩) ?_
          · go_simp
          simp only [List.setIfInBounds_toArray, List.set_cons_zero, List.set_cons_succ]
          refine takeA (i := 8) (d := 32) (v := (.int .i64 ((frm : Int) + (k : Int)))) rfl rfl (by kernel_rfl) (by kernel_rfl) (by kernel_rfl) (fun _ _ _ h => h) (Or.inl ⟨by kernel_rfl, fun W => ?_⟩) ?_
          · (go_simp; exact IntWalk.i64_in _ (by omega))
          simp only [List.setIfInBounds_toArray, List.set_cons_zero, List.set_cons_succ]
          refine takeA (i := 9) (d := 33) (v := (.slice (some ⟨g, frm, none⟩) k (cap - frm))) rfl rfl (by kernel_rfl) (by kernel_rfl) (by kernel_rfl) (fun _ _ _ h => h) (Or.inl ⟨by kernel_rfl, fun W => ?_⟩) ?_
          · go_simp
          simp only [List.setIfInBounds_toArray, List.set_cons_zero, List.set_cons_succ]
          refine callA (i := 10) (d := 34) rfl rfl (by kernel_rfl) (fun K hK => ?_)
          refine step_copy_splice rfl (.tmp 27) (.tmp 33) 22 22 rfl 5 Try.underlying22 b8_size (some ⟨g, to, none⟩) (some ⟨g, frm, none⟩) (n - to) (cap - to) k (cap - frm) rfl rfl g to (vB R ++ tail) 5 HG.out X (by rw [HXL.out]; show _ = min _ _; omega) (fun _ => ⟨rfl, _, rfl, HS.out⟩) (by rw [HXL.out, HR.out]; omega) HX1.out w.heap.size w hB.drew hgb ?_
          intro w4 hg4 hb4
          rw [HXL.out]
          refine hK.out _ _ ?_
          clear hK K
          simp only [List.setIfInBounds_toArray, List.set_cons_zero, List.set_cons_succ]
          refine takeA (i := 11) (d := 35) (v := (.int .i64 ((to : Int) + (k : Int)))) rfl rfl (by kernel_rfl) (by kernel_rfl) (by kernel_rfl) (fun _ _ _ h => h) (Or.inl ⟨by kernel_rfl, fun W => ?_⟩) ?_
          · (go_simp; exact IntWalk.i64_in _ (by omega))
          simp only [List.setIfInBounds_toArray, List.set_cons_zero, List.set_cons_succ]
          refine takeA (i := 12) (d := 4) (v := (.int .i64 ((to : Int) + (k : Int)))) rfl rfl (by kernel_rfl) (by kernel_rfl) (by kernel_rfl) (fun _ _ _ h => h) (Or.inl ⟨by kernel_rfl, fun W => ?_⟩) ?_
          · go_simp
          simp only [List.setIfInBounds_toArray, List.set_cons_zero, List.set_cons_succ]
          refine wpAny_done (by kernel_rfl) ?_ _
          have HW4 : Hid (Holds8 w4 g (splice R to ((l.drop frm).take k)) tail) := by
            unfold Holds8
            rw [← splice_vB R _ tail to (by rw [List.length_take, HR2.out]; omega), HXE.out]
            exact hg4.out
          clear hg4 e1 e2 e3 e4 e5 e6 e7 e8
          obtain ⟨R1, hR1⟩ : ∃ R1, splice R to ((l.drop frm).take k) = R1 := ⟨_, rfl⟩
          rw [hR1] at HW4 HQ2 HQ3 HQ4
          clear hR1
          have hz : to + k < R1.length := by rw [HQ2.out]; omega
          obtain ⟨s1, s2⟩ := holds_at HW4.out hz
          have HS2 := Lib.hid (show Holds8 (w4.setCell ⟨g, to + k, none⟩ (.int .u8 10)) g (R1.set (to + k) 10) tail from holds_set HW4.out (to + k) 10 hz)
          have j1 : to + k < n := by omega
          clear hz
          by_cases hf : frm + (k + 1) < n
          · have hc1 := holds_byte HW4.out HQ3.out (by rw [HQ2.out]; exact hf)
            have hfl : frm + (k + 1) < l.length := by rw [HN.out]; exact hf
            have hi := byte10 l _ hfl
            have hlt2 := byteAt_lt l (frm + (k + 1))
            obtain ⟨b, hb⟩ : ∃ b, byteAt l (frm + (k + 1)) = b := ⟨_, rfl⟩
            rw [hb] at hc1 hi hlt2
            clear hb
            by_cases h10 : b = 10
            · have HB := Lib.hid (hi.1 (by omega))
              have ht : ((b : Int) == 10) = true := by simp [h10]
              clear hi h10 s1 s2 hfl
              go_wp2_with fail
              go_roundw
              case rel => exact ⟨to + k, frm + (k + 1), R1, by go_num, by go_num, normAt_feed HQ2.out HQ3.out HQ4.out HQ5.out (by omega) (by omega) HB.out, HW4, hb4⟩
              case measure => simp [intOf]; omega
            · have HB := Lib.hid (show l[frm + (k + 1)]? ≠ some 10 from fun h => h10 (by have := hi.2 h; omega))
              have ht : ((b : Int) == 10) = false := by simp; omega
              clear hi h10 hfl
              go_wp2_with fail
              go_roundw
              case rel => exact ⟨to + k + 1, frm + (k + 1), R1.set (to + k) 10, by go_num, by go_num, normAt_store HQ2.out HQ3.out HQ4.out HQ5.out (by omega) (by omega) HB.out, HS2.out, hb4.setCell (p := ⟨g, to + k, none⟩) hgb _⟩
              case measure => simp [intOf]; omega
          · have HB := Lib.hid (show l[frm + (k + 1)]? ≠ some 10 by rw [List.getElem?_eq_none (by rw [HN.out]; omega)]; simp)
            go_wp2_with fail
            go_roundw
            case rel => exact ⟨to + k + 1, frm + (k + 1), R1.set (to + k) 10, by go_num, by go_num, normAt_store HQ2.out HQ3.out HQ4.out HQ5.out (by omega) (by omega) HB.out, HS2.out, hb4.setCell (p := ⟨g, to + k, none⟩) hgb _⟩
            case measure => simp [intOf]; omega
      · obtain rfl : frm = n := by omega
        have HI := Lib.hid (show ∀ A (cc : Nat), Calls Try.prog 73 #[.slice A 0 cc, .int .u8 13] wr fun e w' => e = .returned (.int .i64 (-1)) ∧ wr = w' from fun A cc => bIndex_any wr A 0 cc [] 13 rfl (sees_nil _ _))
        have hd : l.drop frm = [] := List.drop_eq_nil_of_le (by rw [HN.out]; omega)
        have HP := Lib.hid (show R.take to = normS l by have := HA.out.said; rw [hd] at this; simpa [normS] using this.symm)
        have HR2 := Lib.hid (show R.length = frm from HA.out.size)
        clear hd
        have e1 : (0 : Int) ≤ (to : Int) := by omega
        have e2 : (to : Int) ≤ (frm : Int) := by omega
        have e2' : to ≤ frm := hlow
        have e5 : (to : Int) ≤ (cap : Int) := by omega
        by_cases hcf : cap = frm
        · subst hcf
          by_cases hct : cap = to
          · subst hct
            go_wp2_with (go_at_call 73; refine (HI.out _ _).mono ?_; rintro e w' ⟨rfl, rfl⟩)
            refine wp_region_any (by kernel_rfl) ?_
            change wpAny _ _ _ _ _ _ _ (World.drew _)
            refine takeA (i := 0) (d := 15) (v := (.int .i64 cap)) rfl rfl (by kernel_rfl) (by kernel_rfl) (by kernel_rfl) (fun _ _ _ h => h) (Or.inl ⟨by kernel_rfl, fun W => ?_⟩) ?_
            · go_simp
            simp only [List.setIfInBounds_toArray, List.set_cons_zero, List.set_cons_succ]
            refine takeA (i := 1) (d := 16) (v := (.slice (some ⟨g, 0, none⟩) cap cap)) rfl rfl (by kernel_rfl) (by kernel_rfl) (by kernel_rfl) (fun _ _ _ h => h) (Or.inl ⟨by kernel_rfl, fun W => ?_⟩) ?_
            · go_simp
            simp only [List.setIfInBounds_toArray, List.set_cons_zero, List.set_cons_succ]
            refine takeA (i := 2) (d := 17) (v := (.int .i64 cap)) rfl rfl (by kernel_rfl) (by kernel_rfl) (by kernel_rfl) (fun _ _ _ h => h) (Or.inl ⟨by kernel_rfl, fun W => ?_⟩) ?_
            · go_simp
            simp only [List.setIfInBounds_toArray, List.set_cons_zero, List.set_cons_succ]
            refine takeA (i := 3) (d := 18) (v := (.slice (some ⟨g, 0, none⟩) 0 0)) rfl rfl (by kernel_rfl) (by kernel_rfl) (by kernel_rfl) (fun _ _ _ h => h) (Or.inl ⟨by kernel_rfl, fun W => ?_⟩) ?_
            · go_simp
            simp only [List.setIfInBounds_toArray, List.set_cons_zero, List.set_cons_succ]
            refine takeA (i := 4) (d := 19) (v := (.slice (some ⟨g, 0, none⟩) cap cap)) rfl rfl (by kernel_rfl) (by kernel_rfl) (by kernel_rfl) (fun _ _ _ h => h) (Or.inl ⟨by kernel_rfl, fun W => ?_⟩) ?_
            · go_simp
            simp only [List.setIfInBounds_toArray, List.set_cons_zero, List.set_cons_succ]
            refine takeA (i := 5) (d := 20) (v := (.int .i64 cap)) rfl rfl (by kernel_rfl) (by kernel_rfl) (by kernel_rfl) (fun _ _ _ h => h) (Or.inl ⟨by kernel_rfl, fun W => ?_⟩) ?_
            · go_simp
            simp only [List.setIfInBounds_toArray, List.set_cons_zero, List.set_cons_succ]
            refine takeA (i := 6) (d := 21) (v := (.slice (some ⟨g, 0, none⟩) 0 0)) rfl rfl (by kernel_rfl) (by kernel_rfl) (by kernel_rfl) (fun _ _ _ h => h) (Or.inl ⟨by kernel_rfl, fun W => ?_⟩) ?_
            · go_simp
            simp only [List.setIfInBounds_toArray, List.set_cons_zero, List.set_cons_succ]
            refine callA (i := 7) (d := 22) rfl rfl (by kernel_rfl) (fun K hK => ?_)
            refine step_copy_none rfl (.tmp 18) (.tmp 21) 22 22 rfl 5 Try.underlying22 b8_size (some ⟨g, 0, none⟩) (some ⟨g, 0, none⟩) 0 0 0 0 rfl rfl (by simp) ?_
            refine hK.out _ _ ?_
            clear hK K
            simp only [List.setIfInBounds_toArray, List.set_cons_zero, List.set_cons_succ]
            refine takeA (i := 8) (d := 23) (v := (.int .i64 cap)) rfl rfl (by kernel_rfl) (by kernel_rfl) (by kernel_rfl) (fun _ _ _ h => h) (Or.inl ⟨by kernel_rfl, fun W => ?_⟩) ?_
            · (go_simp; try exact IntWalk.i64_in _ (by omega))
            simp only [List.setIfInBounds_toArray, List.set_cons_zero, List.set_cons_succ]
            refine takeA (i := 9) (d := 4) (v := (.int .i64 cap)) rfl rfl (by kernel_rfl) (by kernel_rfl) (by kernel_rfl) (fun _ _ _ h => h) (Or.inl ⟨by kernel_rfl, fun W => ?_⟩) ?_
            · go_simp
            simp only [List.setIfInBounds_toArray, List.set_cons_zero, List.set_cons_succ]
            refine wpAny_done (by kernel_rfl) ?_ _
            go_wp2_with fail
            rw [Exit.noGoto_ret]
            go_ret
            exact normPost_mk HP.out (by rw [HR2.out]; exact e2') (Holds8.drew HW.out) (by rw [HR2.out]; exact hnc) hcm hB.drew
          · go_wp2_with (go_at_call 73; refine (HI.out _ _).mono ?_; rintro e w' ⟨rfl, rfl⟩)
            refine wp_region_any (by kernel_rfl) ?_
            change wpAny _ _ _ _ _ _ _ (World.drew _)
            refine takeA (i := 0) (d := 15) (v := (.int .i64 to)) rfl rfl (by kernel_rfl) (by kernel_rfl) (by kernel_rfl) (fun _ _ _ h => h) (Or.inl ⟨by kernel_rfl, fun W => ?_⟩) ?_
            · go_simp
            simp only [List.setIfInBounds_toArray, List.set_cons_zero, List.set_cons_succ]
            refine takeA (i := 1) (d := 16) (v := (.slice (some ⟨g, 0, none⟩) cap cap)) rfl rfl (by kernel_rfl) (by kernel_rfl) (by kernel_rfl) (fun _ _ _ h => h) (Or.inl ⟨by kernel_rfl, fun W => ?_⟩) ?_
            · go_simp
            simp only [List.setIfInBounds_toArray, List.set_cons_zero, List.set_cons_succ]
            refine takeA (i := 2) (d := 17) (v := (.int .i64 to)) rfl rfl (by kernel_rfl) (by kernel_rfl) (by kernel_rfl) (fun _ _ _ h => h) (Or.inl ⟨by kernel_rfl, fun W => ?_⟩) ?_
            · go_simp
            simp only [List.setIfInBounds_toArray, List.set_cons_zero, List.set_cons_succ]
            refine takeA (i := 3) (d := 18) (v := (.slice (some ⟨g, to, none⟩) (cap - to) (cap - to))) rfl rfl (by kernel_rfl) (by kernel_rfl) (by kernel_rfl) (fun _ _ _ h => h) (Or.inl ⟨by kernel_rfl, fun W => ?_⟩) ?_
            · go_simp
            simp only [List.setIfInBounds_toArray, List.set_cons_zero, List.set_cons_succ]
            refine takeA (i := 4) (d := 19) (v := (.slice (some ⟨g, 0, none⟩) cap cap)) rfl rfl (by kernel_rfl) (by kernel_rfl) (by kernel_rfl) (fun _ _ _ h => h) (Or.inl ⟨by kernel_rfl, fun W => ?_⟩) ?_
            · go_simp
            simp only [List.setIfInBounds_toArray, List.set_cons_zero, List.set_cons_succ]
            refine takeA (i := 5) (d := 20) (v := (.int .i64 cap)) rfl rfl (by kernel_rfl) (by kernel_rfl) (by kernel_rfl) (fun _ _ _ h => h) (Or.inl ⟨by kernel_rfl, fun W => ?_⟩) ?_
            · go_simp
            simp only [List.setIfInBounds_toArray, List.set_cons_zero, List.set_cons_succ]
            refine takeA (i := 6) (d := 21) (v := (.slice (some ⟨g, 0, none⟩) 0 0)) rfl rfl (by kernel_rfl) (by kernel_rfl) (by kernel_rfl) (fun _ _ _ h => h) (Or.inl ⟨by kernel_rfl, fun W => ?_⟩) ?_
            · go_simp
            simp only [List.setIfInBounds_toArray, List.set_cons_zero, List.set_cons_succ]
            refine callA (i := 7) (d := 22) rfl rfl (by kernel_rfl) (fun K hK => ?_)
            refine step_copy_none rfl (.tmp 18) (.tmp 21) 22 22 rfl 5 Try.underlying22 b8_size (some ⟨g, to, none⟩) (some ⟨g, 0, none⟩) (cap - to) (cap - to) 0 0 rfl rfl (by simp) ?_
            refine hK.out _ _ ?_
            clear hK K
            simp only [List.setIfInBounds_toArray, List.set_cons_zero, List.set_cons_succ]
            refine takeA (i := 8) (d := 23) (v := (.int .i64 to)) rfl rfl (by kernel_rfl) (by kernel_rfl) (by kernel_rfl) (fun _ _ _ h => h) (Or.inl ⟨by kernel_rfl, fun W => ?_⟩) ?_
            · (go_simp; try exact IntWalk.i64_in _ (by omega))
            simp only [List.setIfInBounds_toArray, List.set_cons_zero, List.set_cons_succ]
            refine takeA (i := 9) (d := 4) (v := (.int .i64 to)) rfl rfl (by kernel_rfl) (by kernel_rfl) (by kernel_rfl) (fun _ _ _ h => h) (Or.inl ⟨by kernel_rfl, fun W => ?_⟩) ?_
            · go_simp
            simp only [List.setIfInBounds_toArray, List.set_cons_zero, List.set_cons_succ]
            refine wpAny_done (by kernel_rfl) ?_ _
            go_wp2_with fail
            rw [Exit.noGoto_ret]
            go_ret
            exact normPost_mk HP.out (by rw [HR2.out]; exact e2') (Holds8.drew HW.out) (by rw [HR2.out]; exact hnc) hcm hB.drew
        · have hct : ¬ cap = to := by omega
          go_wp2_with (go_at_call 73; refine (HI.out _ _).mono ?_; rintro e w' ⟨rfl, rfl⟩)
          refine wp_region_any (by kernel_rfl) ?_
          change wpAny _ _ _ _ _ _ _ (World.drew _)
          refine takeA (i := 0) (d := 15) (v := (.int .i64 to)) rfl rfl (by kernel_rfl) (by kernel_rfl) (by kernel_rfl) (fun _ _ _ h => h) (Or.inl ⟨by kernel_rfl, fun W => ?_⟩) ?_
          · go_simp
          simp only [List.setIfInBounds_toArray, List.set_cons_zero, List.set_cons_succ]
          refine takeA (i := 1) (d := 16) (v := (.slice (some ⟨g, 0, none⟩) frm cap)) rfl rfl (by kernel_rfl) (by kernel_rfl) (by kernel_rfl) (fun _ _ _ h => h) (Or.inl ⟨by kernel_rfl, fun W => ?_⟩) ?_
          · go_simp
          simp only [List.setIfInBounds_toArray, List.set_cons_zero, List.set_cons_succ]
          refine takeA (i := 2) (d := 17) (v := (.int .i64 to)) rfl rfl (by kernel_rfl) (by kernel_rfl) (by kernel_rfl) (fun _ _ _ h => h) (Or.inl ⟨by kernel_rfl, fun W => ?_⟩) ?_
          · go_simp
          simp only [List.setIfInBounds_toArray, List.set_cons_zero, List.set_cons_succ]
          refine takeA (i := 3) (d := 18) (v := (.slice (some ⟨g, to, none⟩) (frm - to) (cap - to))) rfl rfl (by kernel_rfl) (by kernel_rfl) (by kernel_rfl) (fun _ _ _ h => h) (Or.inl ⟨by kernel_rfl, fun W => ?_⟩) ?_
          · go_simp
          simp only [List.setIfInBounds_toArray, List.set_cons_zero, List.set_cons_succ]
          refine takeA (i := 4) (d := 19) (v := (.slice (some ⟨g, 0, none⟩) frm cap)) rfl rfl (by kernel_rfl) (by kernel_rfl) (by kernel_rfl) (fun _ _ _ h => h) (Or.inl ⟨by kernel_rfl, fun W => ?_⟩) ?_
          · go_simp
          simp only [List.setIfInBounds_toArray, List.set_cons_zero, List.set_cons_succ]
          refine takeA (i := 5) (d := 20) (v := (.int .i64 frm)) rfl rfl (by kernel_rfl) (by kernel_rfl) (by kernel_rfl) (fun _ _ _ h => h) (Or.inl ⟨by kernel_rfl, fun W => ?_⟩) ?_
          · go_simp
          simp only [List.setIfInBounds_toArray, List.set_cons_zero, List.set_cons_succ]
          refine takeA (i := 6) (d := 21) (v := (.slice (some ⟨g, frm, none⟩) 0 (cap - frm))) rfl rfl (by kernel_rfl) (by kernel_rfl) (by kernel_rfl) (fun _ _ _ h => h) (Or.inl ⟨by kernel_rfl, fun W => ?_⟩) ?_
          · go_simp
          simp only [List.setIfInBounds_toArray, List.set_cons_zero, List.set_cons_succ]
          refine callA (i := 7) (d := 22) rfl rfl (by kernel_rfl) (fun K hK => ?_)
          refine step_copy_none rfl (.tmp 18) (.tmp 21) 22 22 rfl 5 Try.underlying22 b8_size (some ⟨g, to, none⟩) (some ⟨g, frm, none⟩) (frm - to) (cap - to) 0 (cap - frm) rfl rfl (by simp) ?_
          refine hK.out _ _ ?_
          clear hK K
          simp only [List.setIfInBounds_toArray, List.set_cons_zero, List.set_cons_succ]
          refine takeA (i := 8) (d := 23) (v := (.int .i64 to)) rfl rfl (by kernel_rfl) (by kernel_rfl) (by kernel_rfl) (fun _ _ _ h => h) (Or.inl ⟨by kernel_rfl, fun W => ?_⟩) ?_
          · (go_simp; try exact IntWalk.i64_in _ (by omega))
          simp only [List.setIfInBounds_toArray, List.set_cons_zero, List.set_cons_succ]
          refine takeA (i := 9) (d := 4) (v := (.int .i64 to)) rfl rfl (by kernel_rfl) (by kernel_rfl) (by kernel_rfl) (fun _ _ _ h => h) (Or.inl ⟨by kernel_rfl, fun W => ?_⟩) ?_
          · go_simp
          simp only [List.setIfInBounds_toArray, List.set_cons_zero, List.set_cons_succ]
          refine wpAny_done (by kernel_rfl) ?_ _
          go_wp2_with fail
          rw [Exit.noGoto_ret]
          go_ret
          exact normPost_mk HP.out (by rw [HR2.out]; exact e2') (Holds8.drew HW.out) (by rw [HR2.out]; exact hnc) hcm hB.drew
end Go.Proofs.Ytpgpniemkmiljaa
