/- Contract of Runes: all characters' numbers. -/
import Derived.Test.YtdmfladcldkmeaaDoorUtfI
import Derived.RangeFuncBox
namespace Go.Proofs.YtdmfladcldkmeaaDoor
open Go.ChangeShapes Go.WideShapes Go.ChangeAt Go.RowKit Go.Shelf
set_option linter.unusedVariables false
attribute [local go_sem] Oper.semAt_some

theorem int_info : (Tryd.prog.info? 3).map (fun i => (i.zero, i.size, i.bytes)) = some (some (.int .i64 0), 1, 8) := by kernel_rfl
theorem ownsRow_form {W : World} {base : Nat} {e : TypeId} {size : Nat} {v : Value} {k : Nat} {xs : List Value} (h : W.ownsRow base e size v k xs) : ∃ A c, v = .slice A k c := by
  rcases h.2 with ⟨rfl, rfl⟩ | ⟨g, cap, _, rfl, _⟩
  · exact ⟨_, _, rfl⟩
  · exact ⟨_, _, rfl⟩
theorem Boxed.off {W : World} {b c : Nat} {t : TypeId} {v : Value} (h : Boxed W b t v) (hne : b ≠ c) (u : Value) : Boxed (W.setCell ⟨c, 0, none⟩ u) b t v :=
  h.kept (grownBy_setCell' W c u) (by simpa using hne)
/-- What Runes tells. -/
def RunesPost (l : List UInt8) (w : World) (e : Ending) (W' : World) : Prop :=
  (badS l = none → ∃ v, e = .returned (.tuple #[v, .int .i64 0]) ∧ W'.ownsRow w.heap.size 3 1 v (runesS l).length ((runesS l).map (Value.int .i64))) ∧
  (badS l ≠ none → e = .returned (.tuple #[.slice none 0 0, .int .i64 5])) ∧ Below w.heap.size w W'
def nums (pre : List Item) : List Value := pre.map fun x => .int .i64 x.1
theorem nums_snoc (pre : List Item) (x : Item) : nums (pre ++ [x]) = nums pre ++ [.int .i64 x.1] := by unfold nums; simp

set_option maxRecDepth 100000 in
set_option maxHeartbeats 4000000 in
theorem runes_in (A : Option Addr) (len cap : Nat) (l : List UInt8) (hlen : l.length = len) (hnc : len ≤ cap) (hcap : cap ≤ 9223372036854775807) (hsmall : len ≤ 17592186044416) (w : World) (hs : Sees w A (vB l)) :
    CallsIn Fence.wide 9 Tryd.prog 92 #[.slice A len cap] w fun e W' => RunesPost l w e W' := by
  have hN := stepsS_len l
  rw [hlen] at hN
  have HL := Lib.hid hlen
  clear hlen
  obtain ⟨i0, hi0, hz0, hz1, hz2⟩ := info_parts int_info
  refine callsIn_of_wp_marks Tryd.func92 rfl trivial ?_ rfl
  simp only [Tryd.ntmps92, List.size_toArray, List.length_cons, List.length_nil, Nat.reduceAdd, Nat.reduceSub, Array.replicate_succ, Array.replicate_zero, List.push_toArray, List.append_toArray, List.nil_append, List.cons_append]
  gi_wp2_with (refine ⟨trivial, ?_⟩; gi_at_call 129; refine (steps_in _ _ _ _ _).mono ?_; rintro e w' ⟨rfl, rfl⟩)
  have b0 := Boxed.new w 134 (.slice none 0 0)
  have b1 := Boxed.new (w.alloc (.cells #[.slice none 0 0] 134)) 27 (.int .i64 0)
  have b2 := Boxed.new ((w.alloc (.cells #[.slice none 0 0] 134)).alloc (.cells #[.int .i64 0] 27)) 134 (.slice none 0 0)
  have b3 := Boxed.new (((w.alloc (.cells #[.slice none 0 0] 134)).alloc (.cells #[.int .i64 0] 27)).alloc (.cells #[.slice none 0 0] 134)) 36 (.slice A len cap)
  have hB0 : Below w.heap.size w ((((w.alloc (.cells #[.slice none 0 0] 134)).alloc (.cells #[.int .i64 0] 27)).alloc (.cells #[.slice none 0 0] 134)).alloc (.cells #[.slice A len cap] 36)) :=
    (((((Below.refl _ w).alloc (Nat.le_refl _) _).alloc (by simp) _).alloc (by simp; omega) _).alloc (by simp; omega) _)
  have b0 := ((b0.alloc (.cells #[.int .i64 0] 27)).alloc (.cells #[.slice none 0 0] 134)).alloc (.cells #[.slice A len cap] 36)
  have b1 := (b1.alloc (.cells #[.slice none 0 0] 134)).alloc (.cells #[.slice A len cap] 36)
  have b2 := b2.alloc (.cells #[.slice A len cap] 36)
  simp only [World.size_alloc] at b1 b2 b3
  have hsz : ((((w.alloc (.cells #[.slice none 0 0] 134)).alloc (.cells #[.int .i64 0] 27)).alloc (.cells #[.slice none 0 0] 134)).alloc (.cells #[.slice A len cap] 36)).heap.size = w.heap.size + 4 := by simp
  obtain ⟨W0, hW0⟩ : ∃ W0, (((w.alloc (.cells #[.slice none 0 0] 134)).alloc (.cells #[.int .i64 0] 27)).alloc (.cells #[.slice none 0 0] 134)).alloc (.cells #[.slice A len cap] 36) = W0 := ⟨_, rfl⟩
  rw [hW0] at b0 b1 b2 b3 hB0 hsz ⊢
  clear hW0
  refine wpIn_rangeFunc_ownH rfl (by omega) (gf := 155) (lb := #[.pointer (some ⟨w.heap.size + 1 + 1 + 1, 0, none⟩)]) rfl trivial (enters_of Tryd.func155 (by kernel_rfl) rfl)
    (steps_stops (9 - 1) (by omega) (w.heap.size + 1 + 1 + 1) len cap A l HL.out hnc hcap w W0 hs hB0 (by omega) b3.cell) keepsBox_t (keepsBox_b (by omega)) (Below.refl _ _) (fun _ => rfl)
    (fun pre W => ((((∀ y ∈ pre, y.2.2 = 0) ∧ Boxed W w.heap.size 134 (.slice none 0 0) ∧ Boxed W (w.heap.size + 1) 27 (.int .i64 0) ∧ Boxed W (w.heap.size + 1 + 1 + 1) 36 (.slice A len cap)) ∧
      ∃ v, Boxed W (w.heap.size + 1 + 1) 134 v ∧ W.ownsRow w.heap.size 3 1 v pre.length (nums pre) ∧ True)) ∧ Below w.heap.size w W)
    (fun c pre W => (c = .ret ∧ (∃ pre' x, pre = pre' ++ [x] ∧ (∀ y ∈ pre', y.2.2 = 0) ∧ x.2.2 ≠ 0 ∧ Boxed W w.heap.size 134 (.slice none 0 0) ∧ Boxed W (w.heap.size + 1) 27 (.int .i64 x.2.2))) ∧ Below w.heap.size w W)
    (OwnFrom.and (Own.from (fun s X Y row hs hg hr => ⟨⟨hs.1.1, boxed_own _ _ (fun _ : Unit => _) () X Y row hs.1.2.1 hg hr, boxed_own _ _ (fun _ : Unit => _) () X Y row hs.1.2.2.1 hg hr, boxed_own _ _ (fun _ : Unit => _) () X Y row hs.1.2.2.2 hg hr⟩,
      holdsRow_own w.heap.size _ _ _ 1 (fun p : List Item => p.length) nums (fun _ _ => True) s X Y row hs.2 hg hr⟩) _) (ownFrom_below (Nat.le_refl _) (by omega)))
    (fun c => OwnFrom.and (Own.from (fun s X Y row hs hg hr => ⟨hs.1, by obtain ⟨p, x, e1, e2, e3, e4, e5⟩ := hs.2; exact ⟨p, x, e1, e2, e3, boxed_own _ _ (fun _ : Unit => _) () X Y row e4 hg hr, boxed_own _ _ (fun _ : Unit => _) () X Y row e5 hg hr⟩⟩) _) (ownFrom_below (Nat.le_refl _) (by omega)))
    ⟨⟨⟨by simp, b0, b1, b3⟩, _, b2, World.ownsRow_nil _ _ _ _, trivial⟩, hB0⟩
    (fun x a' W => ∃ Bx, w.heap.size + 1 < Bx ∧ Step W Bx x ∧ a' = { tmps := #[.slice A len cap, undef, .pointer (some ⟨w.heap.size, 0, none⟩), .pointer (some ⟨w.heap.size + 1, 0, none⟩), .pointer (some ⟨w.heap.size + 1 + 1, 0, none⟩), .pointer (some ⟨Bx, 0, none⟩), .int .i64 x.2.2, .slice A len cap,
      .func (.func 155) #[] #[.pointer (some ⟨w.heap.size + 1 + 1 + 1, 0, none⟩)], .agg #[.int .i64 x.1, .int .i64 (x.2.1 : Int)], .int .i64 x.2.2, undef, undef, undef, undef, undef, undef, undef, undef, undef], defers := [] })
    (fun x a' _ X Y row hs hg hr => by obtain ⟨Bx, h1, h2, h3⟩ := hs; exact ⟨Bx, h1, h2.kept hg (fun r e => (hr r e).2), h3⟩)
    ?assign ?body ?done ?stop
  case assign =>
    rintro lp pre x W K ⟨⟨⟨hall, c0, c1, c3⟩, v, c2, hrow, _⟩, hB⟩ hK
    have hsW := hB.size
    have hl := c1.lt
    unfold itemV
    have HA := Lib.hid hall
    clear hall
    gi_wp2
    exact hK _ _ ((KeepsOthers.alloc _ _).from _) ⟨(Below.refl _ W).alloc hsW _, fun v hv => cell_later ((Below.refl _ W).alloc (Nat.le_refl _) _) hv⟩
      ⟨⟨⟨HA.out, c0.alloc _, c1.alloc _, c3.alloc _⟩, v, c2.alloc _, hrow.alloc _, trivial⟩, hB.alloc hsW _⟩ ⟨W.heap.size, hl, Step.new W x _, rfl⟩
  case body =>
    rintro lp pre ⟨r, k, e⟩ a' W hlp hloop ⟨⟨⟨hall, c0, c1, c3⟩, v, c2, hrow, _⟩, hB⟩ ⟨Bx, hBx, ⟨s0, s1⟩, rfl⟩ hpl
    simp only [] at *
    have d0 := c0.cell
    have f0 := c0.frozen
    have d1 := c1.cell
    have f1 := c1.frozen
    have d2 := c2.cell
    have f2 := c2.frozen
    have HA := Lib.hid hall
    have HL2 := Lib.hid hloop
    clear hall hloop
    by_cases he : e = 0
    · subst he
      have hsW := hB.size
      gi_wp2_with (gi_at_builtin; refine wpListIn_append_own _ rfl _ _ 134 rfl w.heap.size 3 i0 (.int .i64 0) 1 8 Tryd.underlying134 hi0 hz0 hz1 hz2 rfl (by decide) v pre.length (nums pre) rfl (hrow.alloc _) ⟨W.heap.size, 0, none⟩ 1 1 [.int .i64 r] rfl rfl (cells_new W [.int .i64 r] _) (ints_one .i64 [r]) (by unfold maxLen; omega) (by omega) (by simp; omega) ?_; intro v' w1 hown' hgrow _; obtain ⟨g', cap', rfl⟩ := ownsRow_succ hown'; obtain ⟨hv1, hv2, hr2, hk2, hb2⟩ := c2.appended (by decide) hrow hsW (by omega) hown' hgrow; have hc1 := hv1.cell; have hf1 := hv1.frozen)
      have kp : ∀ {B : Nat} {t : TypeId} {u : Value}, Boxed W B t u → t ≠ 3 → B ≠ w.heap.size + 1 + 1 → Boxed (w1.setCell ⟨w.heap.size + 1 + 1, 0, none⟩ (.slice (some ⟨g', 0, none⟩) (pre.length + 1) cap')) B t u := fun h ht hne =>
        Boxed.off ((h.alloc _).kept hgrow (h.not_row ht hrow)) hne _
      refine ⟨hk2.from _, ⟨hb2, fun u hu => ?_⟩, ⟨⟨?_, kp c0 (by decide) (by omega), kp c1 (by decide) (by omega), kp c3 (by decide) (by omega)⟩, _, hv2, ?_, trivial⟩, hB.trans hb2⟩
      · rw [c3.cell] at hu
        rw [(kp c3 (by decide) (by omega)).cell]; exact hu
      · intro y hy
        rcases List.mem_append.1 hy with h | h
        · exact HA.out y h
        · simp at h; subst h; rfl
      · rw [nums_snoc, List.length_append]; exact hr2
    · have hb : (e != 0) = true := by simpa using he
      have HE := Lib.hid he
      clear he
      gi_wp2
      exact ⟨((KeepsOthers.setCell _ _ _).trans (KeepsOthers.setCell _ _ _)).from _, ⟨rfl, ⟨pre, (r, k, e), rfl, HA.out, HE.out, Boxed.off (Boxed.set _ c0) (by omega) _, Boxed.set _ (Boxed.off c1 (by omega) _)⟩⟩,
        (hB.setCell (p := ⟨w.heap.size, 0, none⟩) (Nat.le_refl _) _).setCell (p := ⟨w.heap.size + 1, 0, none⟩) (by simp) _⟩
  case done =>
    rintro D ys W hD hys ⟨⟨⟨hall, c0, c1, c3⟩, v, c2, hrow, _⟩, hB⟩ hK
    have HB := Lib.hid (badS_none hys hall)
    have HY := Lib.hid hys
    obtain ⟨A', cap', rfl⟩ := ownsRow_form hrow
    have d0 := c0.cell
    have f0 := c0.frozen
    have d1 := c1.cell
    have f1 := c1.frozen
    have d2 := c2.cell
    clear hys hall
    gi_wp2
    have hK' := ((KeepsOthers.setCell W ⟨w.heap.size, 0, none⟩ (.slice A' ys.length cap')).trans (KeepsOthers.setCell _ ⟨w.heap.size + 1, 0, none⟩ (.int .i64 0))).same D _ hK rfl
    refine ⟨by simp, .inl ⟨_, _, rfl, run_takeDeferred hK', ?_⟩⟩
    have q0 := boxed_own _ _ (fun _ : Unit => _) () _ _ _ (Boxed.off (Boxed.set (.slice A' ys.length cap') c0) (c := w.heap.size + 1) (by omega) (.int .i64 0)) (grownBy_putObj' _ D (.deferred none)) (fun r e => by cases e; exact ⟨_, hK', rfl⟩)
    have q1 := boxed_own _ _ (fun _ : Unit => _) () _ _ _ (Boxed.set (.int .i64 0) (Boxed.off c1 (c := w.heap.size) (by omega) (.slice A' ys.length cap'))) (grownBy_putObj' _ D (.deferred none)) (fun r e => by cases e; exact ⟨_, hK', rfl⟩)
    refine ⟨.tuple #[.slice A' ys.length cap', .int .i64 0], ?_, ⟨fun _ => ⟨_, rfl, ?_⟩, fun h => absurd HB.out h, ((hB.setCell (p := ⟨w.heap.size, 0, none⟩) (by simp) _).setCell (p := ⟨w.heap.size + 1, 0, none⟩) (by simp) _).trans (belowK_b (w := w) (Nat.le_refl _) _ D _ _ (by omega) hK' rfl rfl)⟩⟩
    · simp [results, Tryd.f92, go_sem, q0.cell, q1.cell]
    · have e : (runesS l).map (Value.int .i64) = nums ys := by unfold runesS nums; rw [HY.out, List.map_map]; rfl
      have e2 : (runesS l).length = ys.length := by unfold runesS; rw [List.length_map, HY.out]
      rw [e, e2]
      exact ownsRow_putObj ((hrow.kept (grownBy_setCell' _ _ _) (.inr (c0.not_row (by decide) hrow).symm)).kept (grownBy_setCell' _ _ _) (.inr (c1.not_row (by decide) hrow).symm)) _ hK' rfl
  case stop =>
    rintro D c pre W hD hpre ⟨⟨rfl, ⟨pre', x, rfl, ha, hx, c0, c1⟩⟩, hB⟩ hK
    obtain ⟨hb1, hb2⟩ := badS_some hpre ha hx
    gi_wp2
    refine ⟨by simp, .inl ⟨_, _, rfl, run_takeDeferred hK, ?_⟩⟩
    have q0 := boxed_own _ _ (fun _ : Unit => _) () _ _ _ c0 (grownBy_putObj' _ D (.deferred none)) (fun r e => by cases e; exact ⟨_, hK, rfl⟩)
    have q1 := boxed_own _ _ (fun _ : Unit => _) () _ _ _ c1 (grownBy_putObj' _ D (.deferred none)) (fun r e => by cases e; exact ⟨_, hK, rfl⟩)
    refine ⟨.tuple #[.slice none 0 0, .int .i64 x.2.2], ?_, ⟨fun h => absurd h (by rw [hb1]; simp), fun _ => by rw [hb2], hB.trans (belowK_b (w := w) (Nat.le_refl _) W D _ _ (by omega) hK rfl rfl)⟩⟩
    simp [results, Tryd.f92, go_sem, q0.cell, q1.cell]
theorem runes_any (A : Option Addr) (len cap : Nat) (l : List UInt8) (hlen : l.length = len) (hnc : len ≤ cap) (hcap : cap ≤ 9223372036854775807) (hsmall : len ≤ 17592186044416) (w : World) (hs : Sees w A (vB l)) :
    Calls Tryd.prog 92 #[.slice A len cap] w fun e W' => RunesPost l w e W' :=
  callsIn_wide.1 (runes_in A len cap l hlen hnc hcap hsmall w hs)
end Go.Proofs.YtdmfladcldkmeaaDoor
