/- The contract of Ranges over any function that says yes or no. -/
import Derived.Test.YtpgpniemkmiljaaDoorRnga
namespace Go.Proofs.YtpgpniemkmiljaaDoor
open Go.ChangeShapes Go.WideShapes Go.ChangeAt Go.RowKit
set_option linter.unusedVariables false

theorem pair_info : (Tryd.prog.info? 32).map (fun i => (i.zero, i.size, i.bytes)) = some (some (.agg #[.int .i64 0, .int .i64 0]), 2, 16) := by kernel_rfl
theorem r_cells (w : World) (l : List Value) (t : TypeId) : ∀ j u, l[j]? = some u → (w.alloc (.cells l.toArray t)).cell? ((⟨w.heap.size, 0, none⟩ : Addr).add j) = some u := by
  intro j u h
  have e : (⟨w.heap.size, 0, none⟩ : Addr).add j = ⟨w.heap.size, j, none⟩ := by
    unfold Addr.add; split
    · next h0 => rw [h0]
    · simp
  rw [e]
  simp [World.cell?_alloc_new, h]

theorem r_own_below {w w' : World} {base : Nat} {e : TypeId} {size n : Nat} {v : Value} {xs : List Value} (h : w.ownsRow base e size v n xs) (hb : Below w.heap.size w w') : w'.ownsRow base e size v n xs := by
  refine ⟨h.1, ?_⟩
  rcases h.2 with hn | ⟨g, cap, cur, e, h1, h2, h3⟩
  · exact .inl hn
  · exact .inr ⟨g, cap, cur, e, h1, (hb.block g (Array.getElem?_eq_some_iff.1 h2).1).trans h2, h3⟩
theorem r_own_succ {W : World} {base : Nat} {e : TypeId} {size : Nat} {v : Value} {k : Nat} {xs : List Value} (h : W.ownsRow base e size v (k + 1) xs) : ∃ g cap, v = .slice (some ⟨g, 0, none⟩) (k + 1) cap := by
  rcases h.2 with ⟨_, h0⟩ | ⟨g, cap, _, rfl, _⟩
  · omega
  · exact ⟨g, cap, rfl⟩

theorem row_last {w : World} {base g n cp : Nat} {L : List (Int × Int)} {x y : Int} (h : w.ownsRow base 32 2 (.slice (some ⟨g, 0, none⟩) (n + 1) cp) (n + 1) (vP (L ++ [(x, y)]))) (hn : L.length = n) :
    w.cell? ⟨g, n * 2 + 1, none⟩ = some (.int .i64 y) ∧ w.frozen? ⟨g, n * 2 + 1, none⟩ = false ∧
    ∀ z, (w.setCell ⟨g, n * 2 + 1, none⟩ (.int .i64 z)).ownsRow base 32 2 (.slice (some ⟨g, 0, none⟩) (n + 1) cp) (n + 1) (vP (L ++ [(x, z)])) := by
  have hc := h.cellAt (n * 2 + 1) (by omega)
  have hv := (vP_at (L ++ [(x, y)]) n (by simp; omega)).2
  subst hn
  rw [hc, hv]
  refine ⟨by simp, h.frozenAt _, fun z => ?_⟩
  have := (h.stored (L.length * 2 + 1) (.int .i64 z)).1
  rwa [vP_set] at this

/-- What Ranges tells. -/
def RangesPost (P : Int → Bool) (a hi : Int) (W : World) (e : Ending) (w' : World) : Prop :=
  ∃ v L, e = .returned v ∧ w'.ownsRow W.heap.size 32 2 v L.length (vP L) ∧ RunsOf P a hi L ∧ Below W.heap.size W w'

set_option maxRecDepth 100000 in
set_option maxHeartbeats 4000000 in
theorem ranges_any (N : Nat) (P : Int → Bool) (W : World) (a b : Int) (ha : -9223372036854775808 ≤ a) (hb : b ≤ 9223372036854775807) (hab : a ≤ b) (hba : b - a < 2000)
    (hnil : ∀ w, (binOp .eql 25 (.func (.func N) #[] #[]) .nilFunc).run Tryd.prog w = .ok (.bool false) w)
    (hcf : ∀ args w, (callFunc N args).run Tryd.prog w = .ok (.enter N args) w)
    (C : ∀ x w1, Below W.heap.size W w1 → Calls Tryd.prog N #[.int .i64 x] w1 fun e w' => e = .returned (.bool (P x)) ∧ Below w1.heap.size w1 w') :
    ∀ w1, Below W.heap.size W w1 → Calls Tryd.prog 9 #[.func (.func N) #[] #[], .int .i64 a, .int .i64 b] w1 (RangesPost P a (b + 1) W) := by
  intro w1 hB1
  have HC := Lib.hid C
  clear C
  obtain ⟨i0, hi0, hz0, hz1, hz2⟩ := info_parts pair_info
  have hu : IntKind.u64.wrap (IntKind.u64.wrap b - IntKind.u64.wrap a) < 1048576 := by
    have e : ∀ x, IntKind.u64.wrap x = x % 18446744073709551616 := fun x => by rw [IntKind.wrap_u64]
    rw [e, e, e]; omega
  go_enter Tryd.func9, Tryd.ntmps9
  go_wp2_with fail
  go_loopw [7, 8, 30] (fun v o i wr => ∃ k : Nat, ∃ L : List (Int × Int), ∃ q : Bool, (k : Int) ≤ b - a + 1 ∧ i = .int .i64 k ∧ o = .bool q ∧ Hid (RunsOf P a (a + k) L ∧ OpenAt q (a + k) L) ∧ L.length ≤ k ∧ wr.ownsRow W.heap.size 32 2 v L.length (vP L) ∧ Below W.heap.size W wr) (fun _ _ i _ => (b - a + 1 - intOf i).toNat)
  case atStart => exact ⟨0, [], false, by omega, rfl, rfl, by rw [show a + ((0 : Nat) : Int) = a by omega]; exact runs_none P a, Nat.le_refl _, World.ownsRow_nil _ _ _ _, hB1⟩
  case round =>
    obtain ⟨k, L, q, hk, rfl, rfl, HR, hLk, hown, hB⟩ := hrel
    have hsW := hB.size
    by_cases hlt : (k : Int) < b - a + 1
    · have h1 := HC.out (a + k) wr hB
      have hHi : a + ((k + 1 : Nat) : Int) = a + k + 1 := by omega
      have HI := Lib.hid hHi
      clear hHi
      cases hP : P (a + k) with
      | false =>
        have HS := Lib.hid (runs_skip HR.out.1 (by omega) hP)
        rw [hP] at h1
        have H1 := Lib.hid h1
        have HO := Lib.hid hown
        clear h1 hP hown
        go_wp2_with fail
        refine H1.out.mono ?_
        rintro e w2 ⟨rfl, hb2⟩
        go_wp2_with fail
        go_roundw
        case rel => exact ⟨k + 1, L, false, by omega, by go_num, rfl, by rw [HI.out]; exact HS.out, by omega, r_own_below HO.out hb2, hB.trans (hb2.mono hsW)⟩
        case measure => simp [intOf]; omega
      | true =>
        rw [hP] at h1
        have H1 := Lib.hid h1
        have HP := Lib.hid hP
        clear h1 hP
        cases q with
        | false =>
          have HO := Lib.hid hown
          obtain ⟨n, hn⟩ : ∃ n, L.length = n := ⟨_, rfl⟩
          rw [hn] at HO hLk
          have HN := Lib.hid hn
          clear hown hn
          go_wp2_with fail
          refine H1.out.mono ?_
          rintro e w2 ⟨rfl, hb2⟩
          have HO2 := Lib.hid (r_own_below HO.out hb2)
          have hsw2 := hb2.size
          go_wp2_with (first | (at_builtin; refine wpList_append_own _ rfl _ _ 30 rfl W.heap.size 32 i0 (.agg #[.int .i64 0, .int .i64 0]) 2 16 Tryd.underlying30 hi0 hz0 hz1 hz2 rfl (by decide) _ n (vP L) rfl (HO2.out.alloc _) ⟨w2.heap.size, 0, none⟩ 1 1 (vP [(a + k, a + k)]) rfl rfl (r_cells w2 (vP [(a + k, a + k)]) _) (vP_one _) (by unfold maxLen; omega) (by omega) (by simp; omega) ?_; intro v' w3 hown3 hgrow3 _; obtain ⟨g, cp, rfl⟩ := r_own_succ hown3; rw [← vP_append] at hown3; obtain ⟨k1, k2, k3⟩ := row_last hown3 HN.out; have hgb := (hown3.lt g rfl).1; have HO3 := Lib.hid (k3 (a + k)); have HB3 := Lib.hid (((hB.trans (hb2.mono hsW)).alloc (by omega) _).grown hgrow3 (by simp; omega) (fun j hj => (HO2.out.lt j hj).1)); clear hown3 hgrow3 k3))
          go_roundw
          case rel =>
            have HS := Lib.hid (runs_new HR.out.1 HR.out.2 (by omega) HP.out)
            exact ⟨k + 1, L ++ [(a + k, a + k)], true, by omega, by go_num, rfl, by rw [HI.out]; exact HS.out, by rw [List.length_append, HN.out]; simp; omega, by rw [List.length_append, HN.out]; exact HO3.out, HB3.out.setCell (p := ⟨g, n * 2 + 1, none⟩) hgb _⟩
          case measure => simp [intOf]; omega
        | true =>
          obtain ⟨init, x, hL⟩ := HR.out.2
          subst hL
          rw [List.length_append] at hown hLk
          simp only [List.length_cons, List.length_nil, Nat.zero_add] at hown hLk
          obtain ⟨n, hn⟩ : ∃ n, init.length = n := ⟨_, rfl⟩
          rw [hn] at hown hLk
          obtain ⟨g, cp, rfl⟩ := r_own_succ hown
          have HO := Lib.hid hown
          have HN := Lib.hid hn
          have hgb := (hown.lt g rfl).1
          clear hown hn
          go_wp2_with fail
          refine H1.out.mono ?_
          rintro e w2 ⟨rfl, hb2⟩
          obtain ⟨k1, k2, k3⟩ := row_last (r_own_below HO.out hb2) HN.out
          have HO3 := Lib.hid (k3 (a + k))
          clear k3
          go_wp2_with fail
          go_roundw
          case rel =>
            have HS := Lib.hid (runs_grow HR.out.1 (by omega) HP.out)
            exact ⟨k + 1, init ++ [(x, a + k)], true, by omega, by go_num, rfl, by rw [HI.out]; exact HS.out, by rw [List.length_append, HN.out]; simp; omega, by rw [List.length_append, HN.out]; exact HO3.out, (hB.trans (hb2.mono hsW)).setCell (p := ⟨g, n * 2 + 1, none⟩) hgb _⟩
          case measure => simp [intOf]; omega
    · have hkb : (k : Int) = b - a + 1 := by omega
      have HE := Lib.hid (show a + (k : Int) = b + 1 by omega)
      have HO := Lib.hid hown
      clear hkb hown
      go_wp2_with fail
      go_ret
      have := HR.out.1
      rw [HE.out] at this
      exact ⟨_, L, rfl, HO.out, this, hB⟩
end Go.Proofs.YtpgpniemkmiljaaDoor
