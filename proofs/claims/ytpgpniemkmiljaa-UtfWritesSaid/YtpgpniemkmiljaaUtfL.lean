/- What is written is read; the walk of UtfWrites. -/
import Derived.Test.YtpgpniemkmiljaaUtfR
import Derived.Deep.RegionLaw
import Derived.Deep.RegionWith
import Derived.Deep.DrawnRows
import Derived.Deep.RegionHeld3
import Derived.StillTailTactics
namespace Go.Proofs.Ytpgpniemkmiljaa
open Go.ChangeShapes Go.WideShapes Go.ChangeAt Go.RowKit
set_option linter.unusedVariables false
set_option linter.unusedSimpArgs false
attribute [local go_sem ↓] Go.wp_at_zero Go.wp_at_succ

/-- A narrower condition may be held. -/
theorem wpAnyH_mono {P : Program} {ops : Array Oper} {Q : Exit → Act → World → Prop} {md : Region.Mode} {S S' : World → Prop} (hS : ∀ w, S' w → S w) :
    ∀ (fuel : Nat) (listed : Array Bool) (a : Act) (w : World), wpAnyH P md ops Q S' fuel listed a w → wpAnyH P md ops Q S fuel listed a w
  | 0, _, _, _, h => h
  | fuel + 1, _, _, _, h => ⟨h.1, fun i hi => wpOp_mono (fun a' w' h' => ⟨hS w' h'.1, wpAnyH_mono hS fuel _ a' w' h'.2⟩) (h.2 i hi)⟩

/-- An operation is taken first: its slot and its value are given. -/
theorem takeH {P : Program} {ops : Array Oper} {Q : Exit → Act → World → Prop} {md : Region.Mode} {S : World → Prop} {i : Nat} (d : Nat) {oi : Oper} {v : Value} {fuel : Nat} {listed : Array Bool} {a : Act} {w : World} (hi : ops[i]? = some oi) (hd : oi.dst = some d)
    (hs : Region.noSelect ops = true) (hf : Region.free md ops listed i = true) (hr : (Region.ready md ops listed).contains i = true)
    (hQ : ∀ c a w, Q (.panic c) (a.put oi.dst v) w → Q (.panic c) a w) (hy : YieldsIf P ops S oi v a) (hS : S w)
    (h : wpAnyH P md ops Q S fuel (listed.setIfInBounds i true) { a with tmps := a.tmps.setIfInBounds d v } w) : wpAnyH P md ops Q S (fuel + 1) listed a w :=
  wpAnyH_take hi hs hf hr hQ hy hS (by unfold Act.put; rw [hd]; exact h)

set_option maxRecDepth 100000 in
set_option maxHeartbeats 3000000 in
theorem utfWrites_any (r : Int) (w : World) :
    Calls Try.prog 3 #[.int .i64 r] w fun e w' => e = .returned (.bool true) ∧ Below w.heap.size w w' := by
  by_cases h : isR r = true
  · have hb := isR_true h
    obtain ⟨q, rfl⟩ : ∃ q : Nat, r = q := ⟨r.toNat, by omega⟩
    have h1 : ∀ w : World, Calls Try.prog 13 #[.int .i64 q] w fun e w' => ∃ A c, e = .returned (.tuple #[.slice A (encLen q) c, .int .i64 0]) ∧ encLen q ≤ c ∧ c ≤ 9223372036854775807 ∧ Sees w' A (vB (encB q)) ∧ Below w.heap.size w w' := fun w =>
      (encode_good q w h).mono fun e w' ⟨v, he, ho, hb⟩ => by
        obtain ⟨A, c, rfl⟩ := ownsRow_form ho
        have hc := own_cap' ho
        rw [Int.toNat_natCast] at he ho hc
        exact ⟨A, c, he, hc.1, hc.2, sees_own ho, hb⟩
    have h2 : ∀ (w : World) A c, encLen q ≤ c → c ≤ 9223372036854775807 → Sees w A (vB (encB q)) → Calls Try.prog 17 #[.slice A (encLen q) c, .int .i64 0] w fun e w' => e = .returned (.tuple #[.int .i64 q, .int .i64 (encLen q), .int .i64 0]) ∧ w = w' := fun w A c hc hm hs => by
      have hc0 := chr_enc [] [] q h
      simp only [List.nil_append, List.append_nil, List.length_nil] at hc0
      have hpos : encLen q ≠ 0 := by unfold encLen; repeat (split <;> try omega)
      refine (decode_ok (encB q) A (encLen q) c 0 w (encB_len q) hc hm (by omega) hs q (encLen q) hc0 hpos).mono fun e w' ⟨he, hw⟩ => ⟨by rw [he]; simp, hw⟩
    have hb1 : (q : Int) < 2097152 := by omega
    have hq0 : (0 : Int) ≤ (q : Int) := by omega
    have kr : ∀ w : World, Calls Try.prog 18 #[.int .i64 q] w fun e w' => ∃ A, e = .returned (.slice A (encLen q) (encLen q)) ∧ Below w.heap.size w w' ∧ Sees w' A (vB (encB q)) := fun w =>
      (rbytes_any q w hq0 hb1).mono fun e w' ⟨he, hw⟩ => by
        rw [Int.toNat_natCast] at he hw
        subst hw
        exact ⟨_, he, (Below.refl _ w).alloc (Nat.le_refl _) _, sees_new w (vB (encB q)) _⟩
    have hbl := encB_len q
    obtain ⟨bs, hbs⟩ : ∃ bs, encB q = bs := ⟨_, rfl⟩
    obtain ⟨m, hm⟩ : ∃ m, encLen q = m := ⟨_, rfl⟩
    simp only [hbs, hm] at h1 h2 kr hbl
    clear hbs hm
    have HBL := Lib.hid hbl
    clear hbl
    have KR := Lib.hid kr
    have H1 := Lib.hid h1
    have H2 := Lib.hid h2
    clear h1 h2 kr hb hb1 hq0
    go_enter Try.func3, Try.ntmps3
    go_wp2_with (first
      | (go_at_call 13; refine (H1.out _).mono ?_; rintro e w1 ⟨A1, c1, rfl, hc1, hm1, hs1, hbw1⟩)
      | (go_at_call 14; refine (is_any _ _).mono ?_; rintro e w2 ⟨rfl, rfl⟩)
      | (go_at_call 15; refine (ris_any _ _).mono ?_; rintro e w2 ⟨rfl, rfl⟩)
      | (go_at_call 17; refine (H2.out _ _ _ hc1 hm1 hs1).mono ?_; rintro e w2 ⟨rfl, rfl⟩))
    have k0 : ∀ W : World, Sees W A1 (vB bs) → (convert 22 9 (.slice A1 m c1)).run Try.prog W = .ok (.string ⟨bs.toArray⟩) W := fun W hW => conv_sees W A1 m c1 bs HBL.out hW
    have K0 := Lib.hid k0
    have HS := Lib.hid hs1
    clear hs1 k0
    refine wp_region_held_drew (S := (fun W => Sees W A1 (vB bs) ∧ Below w1.heap.size w1 W)) (by kernel_rfl) ⟨HS.out, (Below.refl _ _).drew⟩ (fun hA => ?_)
    refine takeH (i := 0) (d := 37) (v := (.int .i64 0)) rfl rfl (by kernel_rfl) (by kernel_rfl) (by kernel_rfl) (fun _ _ _ h => h) (Or.inl ⟨by kernel_rfl, fun W hW => ?_⟩) hA ?_
    · go_simp
    simp only [List.setIfInBounds_toArray, List.set_cons_zero, List.set_cons_succ]
    refine takeH (i := 1) (d := 38) (v := (.bool true)) rfl rfl (by kernel_rfl) (by kernel_rfl) (by kernel_rfl) (fun _ _ _ h => h) (Or.inl ⟨by kernel_rfl, fun W hW => ?_⟩) hA ?_
    · go_simp
    simp only [List.setIfInBounds_toArray, List.set_cons_zero, List.set_cons_succ]
    refine takeH (i := 2) (d := 39) (v := (.bool true)) rfl rfl (by kernel_rfl) (by kernel_rfl) (by kernel_rfl) (fun _ _ _ h => h) (Or.inl ⟨by kernel_rfl, fun W hW => ?_⟩) hA ?_
    · go_simp
    simp only [List.setIfInBounds_toArray, List.set_cons_zero, List.set_cons_succ]
    refine takeH (i := 3) (d := 40) (v := (.slice A1 m c1)) rfl rfl (by kernel_rfl) (by kernel_rfl) (by kernel_rfl) (fun _ _ _ h => h) (Or.inl ⟨by kernel_rfl, fun W hW => ?_⟩) hA ?_
    · go_simp
    simp only [List.setIfInBounds_toArray, List.set_cons_zero, List.set_cons_succ]
    refine takeH (i := 5) (d := 42) (v := (.int .i64 q)) rfl rfl (by kernel_rfl) (by kernel_rfl) (by kernel_rfl) (fun _ _ _ h => h) (Or.inl ⟨by kernel_rfl, fun W hW => ?_⟩) hA ?_
    · go_simp
    simp only [List.setIfInBounds_toArray, List.set_cons_zero, List.set_cons_succ]
    refine takeH (i := 4) (d := 41) (v := (.string ⟨bs.toArray⟩)) rfl rfl (by kernel_rfl) (by kernel_rfl) (by kernel_rfl) (fun _ _ _ h => h) (Or.inl ⟨by kernel_rfl, fun W hW => ?_⟩) hA ?_
    · have kc := K0.out W hW.1; go_simp
    simp only [List.setIfInBounds_toArray, List.set_cons_zero, List.set_cons_succ]
    refine wpAnyH_ready (rs := [6]) (by kernel_rfl) (by simp) ?_
    refine AllReadyH.cons (o := _) rfl (fun K hK => ?_) AllReadyH.nil
    go_simp
    go_at_call 18
    refine (KR.out _).mono ?_
    rintro e w2 ⟨A2, rfl, hb2, hs2⟩
    have hA2 : Sees w2 A1 (vB bs) ∧ Below w1.heap.size w1 w2 := ⟨HS.out.below ((Below.refl _ w1).drew.trans hb2), (Below.refl _ w1).drew.trans hb2⟩
    refine hK.out _ _ hA2 (fun _ => ?_)
    clear hK K hA
    have hB2 : Sees w2 A1 (vB bs) ∧ Sees w2 A2 (vB bs) ∧ Below w1.heap.size w1 w2 := ⟨hA2.1, hs2, hA2.2⟩
    have HS2 := Lib.hid hs2
    clear hs2 hA2
    refine wpAnyH_mono (S' := fun W => Sees W A1 (vB bs) ∧ Sees W A2 (vB bs) ∧ Below w1.heap.size w1 W) (fun W h => ⟨h.1, h.2.2⟩) _ _ _ _ ?_
    have k2 : ∀ W : World, Sees W A2 (vB bs) → (convert 22 9 (.slice A2 m m)).run Try.prog W = .ok (.string ⟨bs.toArray⟩) W := fun W hW => conv_sees W A2 m m bs HBL.out hW
    have K2 := Lib.hid k2
    clear k2
    refine takeH (i := 7) (d := 44) (v := (.string ⟨bs.toArray⟩)) rfl rfl (by kernel_rfl) (by kernel_rfl) (by kernel_rfl) (fun _ _ _ h => h) (Or.inl ⟨by kernel_rfl, fun W hW => ?_⟩) hB2 ?_
    · have kc := K2.out W hW.2.1; go_simp
    simp only [List.setIfInBounds_toArray, List.set_cons_zero, List.set_cons_succ]
    refine takeH (i := 8) (d := 45) (v := (.bool true)) rfl rfl (by kernel_rfl) (by kernel_rfl) (by kernel_rfl) (fun _ _ _ h => h) (Or.inl ⟨by kernel_rfl, fun W hW => ?_⟩) hB2 ?_
    · go_simp
    simp only [List.setIfInBounds_toArray, List.set_cons_zero, List.set_cons_succ]
    refine takeH (i := 9) (d := 46) (v := (.bool true)) rfl rfl (by kernel_rfl) (by kernel_rfl) (by kernel_rfl) (fun _ _ _ h => h) (Or.inl ⟨by kernel_rfl, fun W hW => ?_⟩) hB2 ?_
    · go_simp
    simp only [List.setIfInBounds_toArray, List.set_cons_zero, List.set_cons_succ]
    refine takeH (i := 10) (d := 47) (v := (.bool true)) rfl rfl (by kernel_rfl) (by kernel_rfl) (by kernel_rfl) (fun _ _ _ h => h) (Or.inl ⟨by kernel_rfl, fun W hW => ?_⟩) hB2 ?_
    · go_simp
    simp only [List.setIfInBounds_toArray, List.set_cons_zero, List.set_cons_succ]
    refine takeH (i := 11) (d := 48) (v := (.int .i64 q)) rfl rfl (by kernel_rfl) (by kernel_rfl) (by kernel_rfl) (fun _ _ _ h => h) (Or.inl ⟨by kernel_rfl, fun W hW => ?_⟩) hB2 ?_
    · go_simp
    simp only [List.setIfInBounds_toArray, List.set_cons_zero, List.set_cons_succ]
    refine takeH (i := 12) (d := 49) (v := (.int .i64 q)) rfl rfl (by kernel_rfl) (by kernel_rfl) (by kernel_rfl) (fun _ _ _ h => h) (Or.inl ⟨by kernel_rfl, fun W hW => ?_⟩) hB2 ?_
    · go_simp
    simp only [List.setIfInBounds_toArray, List.set_cons_zero, List.set_cons_succ]
    refine takeH (i := 13) (d := 50) (v := (.bool true)) rfl rfl (by kernel_rfl) (by kernel_rfl) (by kernel_rfl) (fun _ _ _ h => h) (Or.inl ⟨by kernel_rfl, fun W hW => ?_⟩) hB2 ?_
    · go_simp
    simp only [List.setIfInBounds_toArray, List.set_cons_zero, List.set_cons_succ]
    refine takeH (i := 14) (d := 51) (v := (.bool true)) rfl rfl (by kernel_rfl) (by kernel_rfl) (by kernel_rfl) (fun _ _ _ h => h) (Or.inl ⟨by kernel_rfl, fun W hW => ?_⟩) hB2 ?_
    · go_simp
    simp only [List.setIfInBounds_toArray, List.set_cons_zero, List.set_cons_succ]
    refine takeH (i := 15) (d := 52) (v := (.bool true)) rfl rfl (by kernel_rfl) (by kernel_rfl) (by kernel_rfl) (fun _ _ _ h => h) (Or.inl ⟨by kernel_rfl, fun W hW => ?_⟩) hB2 ?_
    · go_simp
    simp only [List.setIfInBounds_toArray, List.set_cons_zero, List.set_cons_succ]
    refine takeH (i := 16) (d := 53) (v := (.int .i64 m)) rfl rfl (by kernel_rfl) (by kernel_rfl) (by kernel_rfl) (fun _ _ _ h => h) (Or.inl ⟨by kernel_rfl, fun W hW => ?_⟩) hB2 ?_
    · go_simp
    simp only [List.setIfInBounds_toArray, List.set_cons_zero, List.set_cons_succ]
    refine takeH (i := 17) (d := 54) (v := (.slice A1 m c1)) rfl rfl (by kernel_rfl) (by kernel_rfl) (by kernel_rfl) (fun _ _ _ h => h) (Or.inl ⟨by kernel_rfl, fun W hW => ?_⟩) hB2 ?_
    · go_simp
    simp only [List.setIfInBounds_toArray, List.set_cons_zero, List.set_cons_succ]
    refine takeH (i := 18) (d := 55) (v := (.int .i64 m)) rfl rfl (by kernel_rfl) (by kernel_rfl) (by kernel_rfl) (fun _ _ _ h => h) (Or.inl ⟨by kernel_rfl, fun W hW => ?_⟩) hB2 ?_
    · go_simp
    simp only [List.setIfInBounds_toArray, List.set_cons_zero, List.set_cons_succ]
    refine takeH (i := 19) (d := 56) (v := (.bool true)) rfl rfl (by kernel_rfl) (by kernel_rfl) (by kernel_rfl) (fun _ _ _ h => h) (Or.inl ⟨by kernel_rfl, fun W hW => ?_⟩) hB2 ?_
    · go_simp
    simp only [List.setIfInBounds_toArray, List.set_cons_zero, List.set_cons_succ]
    refine takeH (i := 20) (d := 57) (v := (.bool true)) rfl rfl (by kernel_rfl) (by kernel_rfl) (by kernel_rfl) (fun _ _ _ h => h) (Or.inl ⟨by kernel_rfl, fun W hW => ?_⟩) hB2 ?_
    · go_simp
    simp only [List.setIfInBounds_toArray, List.set_cons_zero, List.set_cons_succ]
    refine takeH (i := 21) (d := 58) (v := (.bool true)) rfl rfl (by kernel_rfl) (by kernel_rfl) (by kernel_rfl) (fun _ _ _ h => h) (Or.inl ⟨by kernel_rfl, fun W hW => ?_⟩) hB2 ?_
    · go_simp
    simp only [List.setIfInBounds_toArray, List.set_cons_zero, List.set_cons_succ]
    refine takeH (i := 22) (d := 59) (v := (.int .i64 0)) rfl rfl (by kernel_rfl) (by kernel_rfl) (by kernel_rfl) (fun _ _ _ h => h) (Or.inl ⟨by kernel_rfl, fun W hW => ?_⟩) hB2 ?_
    · go_simp
    simp only [List.setIfInBounds_toArray, List.set_cons_zero, List.set_cons_succ]
    refine takeH (i := 23) (d := 60) (v := (.bool true)) rfl rfl (by kernel_rfl) (by kernel_rfl) (by kernel_rfl) (fun _ _ _ h => h) (Or.inl ⟨by kernel_rfl, fun W hW => ?_⟩) hB2 ?_
    · go_simp
    simp only [List.setIfInBounds_toArray, List.set_cons_zero, List.set_cons_succ]
    refine takeH (i := 24) (d := 61) (v := (.bool true)) rfl rfl (by kernel_rfl) (by kernel_rfl) (by kernel_rfl) (fun _ _ _ h => h) (Or.inl ⟨by kernel_rfl, fun W hW => ?_⟩) hB2 ?_
    · go_simp
    simp only [List.setIfInBounds_toArray, List.set_cons_zero, List.set_cons_succ]
    refine takeH (i := 25) (d := 62) (v := (.bool true)) rfl rfl (by kernel_rfl) (by kernel_rfl) (by kernel_rfl) (fun _ _ _ h => h) (Or.inl ⟨by kernel_rfl, fun W hW => ?_⟩) hB2 ?_
    · go_simp
    simp only [List.setIfInBounds_toArray, List.set_cons_zero, List.set_cons_succ]
    refine wpAnyH_ready (rs := [26]) (by kernel_rfl) (by simp) ?_
    refine AllReadyH.cons (o := _) rfl (fun K hK => ?_) AllReadyH.nil
    go_simp
    go_at_call 16
    refine (live02_any _).mono ?_
    rintro e w3 ⟨rfl, hb3⟩
    have hB3 : Sees w3 A1 (vB bs) ∧ Sees w3 A2 (vB bs) ∧ Below w1.heap.size w1 w3 := ⟨hB2.1.below hb3, HS2.out.below hb3, hB2.2.2.trans (hb3.mono hB2.2.2.size)⟩
    refine hK.out _ _ hB3 (fun _ => ?_)
    clear hK K
    refine takeH (i := 27) (d := 64) (v := (.bool true)) rfl rfl (by kernel_rfl) (by kernel_rfl) (by kernel_rfl) (fun _ _ _ h => h) (Or.inl ⟨by kernel_rfl, fun W hW => ?_⟩) hB3 ?_
    · go_simp
    simp only [List.setIfInBounds_toArray, List.set_cons_zero, List.set_cons_succ]
    refine takeH (i := 28) (d := 2) (v := (.bool true)) rfl rfl (by kernel_rfl) (by kernel_rfl) (by kernel_rfl) (fun _ _ _ h => h) (Or.inl ⟨by kernel_rfl, fun W hW => ?_⟩) hB3 ?_
    · go_simp
    simp only [List.setIfInBounds_toArray, List.set_cons_zero, List.set_cons_succ]
    refine wpAnyH_done (by kernel_rfl) ?_ _
    go_wp2_with fail
    go_ret
    exact ⟨rfl, hbw1.trans (hB3.2.2.mono hbw1.size)⟩
  · have hf : isR r = false := by simpa using h
    clear h
    go_enter Try.func3, Try.ntmps3
    go_wp2_with (first
      | (go_at_call 13; refine (encode_bad _ _ hf).mono ?_; rintro e w1 ⟨rfl, rfl⟩)
      | (go_at_call 14; refine (is_any _ _).mono ?_; rintro e w2 ⟨rfl, rfl⟩)
      | (go_at_call 15; refine (ris_any _ _).mono ?_; rintro e w2 ⟨rfl, rfl⟩)
      | (go_at_call 16; refine (live02_any _).mono ?_; rintro e w3 ⟨rfl, hb3⟩))
    go_ret
    exact ⟨rfl, hb3⟩
end Go.Proofs.Ytpgpniemkmiljaa
