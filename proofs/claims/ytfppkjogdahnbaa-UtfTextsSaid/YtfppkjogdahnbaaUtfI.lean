/- Contract of Check: the first place at which there is no character. -/
import Derived.Test.YtfppkjogdahnbaaUtfH
namespace Go.Proofs.Ytfppkjogdahnbaa
open Go.ChangeShapes Go.WideShapes Go.ChangeAt Go.RowKit Go.Shelf
set_option linter.unusedVariables false
attribute [local go_sem] Oper.semAt_some

/-- What Check tells. -/
def checkV (l : List UInt8) : Value := if badS l = none then .tuple #[.int .i64 l.length, .int .i64 0] else .tuple #[.int .i64 ((badS l).getD 0 : Nat), .int .i64 5]
/-- The cells of a step in its own block. -/
def Step (W : World) (b : Nat) (x : Item) : Prop := W.cell? ⟨b, 0, none⟩ = some (.int .i64 x.1) ∧ W.cell? ⟨b, 1, none⟩ = some (.int .i64 (x.2.1 : Int))
theorem Step.kept {A B : World} {b : Nat} {x : Item} {row : Option Nat} (h : Step A b x) (hg : A.grownBy B row) (hr : ∀ r, row = some r → ∃ o : Obj, A.heap[r]? = some o ∧ o.isCells = false) : Step B b x :=
  ⟨cell_kept h.1 hg hr, cell_kept h.2 hg hr⟩
theorem Step.new (w : World) (x : Item) (t : TypeId) : Step (w.alloc (.cells #[.int .i64 x.1, .int .i64 (x.2.1 : Int)] t)) w.heap.size x := ⟨by simp [World.cell?_alloc_new], by simp [World.cell?_alloc_new]⟩

set_option maxRecDepth 100000 in
set_option maxHeartbeats 4000000 in
theorem check_in (A : Option Addr) (len cap : Nat) (l : List UInt8) (hlen : l.length = len) (hnc : len ≤ cap) (hcap : cap ≤ 9223372036854775807) (w : World) (hs : Sees w A (vB l)) :
    CallsIn Fence.wide 9 Try.prog 32 #[.slice A len cap] w fun e W' => e = .returned (checkV l) ∧ Below w.heap.size w W' := by
  have HL := Lib.hid hlen
  clear hlen
  refine callsIn_of_wp_marks Try.func32 rfl trivial ?_ rfl
  simp only [Try.ntmps32, List.size_toArray, List.length_cons, List.length_nil, Nat.reduceAdd, Nat.reduceSub, Array.replicate_succ, Array.replicate_zero, List.push_toArray, List.append_toArray, List.nil_append, List.cons_append]
  gi_wp2_with (refine ⟨trivial, ?_⟩; gi_at_call 53; refine (steps_in _ _ _ _ _).mono ?_; rintro e w' ⟨rfl, rfl⟩)
  have b0 := Cel.new w (.int .i64 0) 3
  have b1 := Cel.new (w.alloc (.cells #[.int .i64 0] 3)) (.int .i64 0) 32
  have b3 := Cel.new ((w.alloc (.cells #[.int .i64 0] 3)).alloc (.cells #[.int .i64 0] 32)) (.slice A len cap) 31
  have hB0 : Below w.heap.size w (((w.alloc (.cells #[.int .i64 0] 3)).alloc (.cells #[.int .i64 0] 32)).alloc (.cells #[.slice A len cap] 31)) :=
    ((((Below.refl _ w).alloc (Nat.le_refl _) _).alloc (by simp) _).alloc (by simp; omega) _)
  have b0 := (b0.alloc (.cells #[.int .i64 0] 32)).alloc (.cells #[.slice A len cap] 31)
  have b1 := b1.alloc (.cells #[.slice A len cap] 31)
  simp only [World.size_alloc] at b1 b3
  have hsz : (((w.alloc (.cells #[.int .i64 0] 3)).alloc (.cells #[.int .i64 0] 32)).alloc (.cells #[.slice A len cap] 31)).heap.size = w.heap.size + 3 := by simp
  obtain ⟨W0, hW0⟩ : ∃ W0, ((w.alloc (.cells #[.int .i64 0] 3)).alloc (.cells #[.int .i64 0] 32)).alloc (.cells #[.slice A len cap] 31) = W0 := ⟨_, rfl⟩
  rw [hW0] at b0 b1 b3 hB0 hsz ⊢
  clear hW0
  refine wpIn_rangeFunc_ownH rfl (by omega) (gf := 60) (lb := #[.pointer (some ⟨w.heap.size + 1 + 1, 0, none⟩)]) rfl trivial (enters_of Try.func60 (by kernel_rfl) rfl)
    (steps_stops (9 - 1) (by omega) (w.heap.size + 1 + 1) len cap A l HL.out hnc hcap w W0 hs hB0 (by omega) b3.1) keepsBox_t (keepsBox_b (by omega)) (Below.refl _ _) (fun _ => rfl)
    (fun pre W => ((∀ y ∈ pre, y.2.2 = 0) ∧ Cel W w.heap.size (.int .i64 0) ∧ Cel W (w.heap.size + 1) (.int .i64 0)) ∧ Below w.heap.size w W)
    (fun c pre W => (c = .ret ∧ (∃ pre' x, pre = pre' ++ [x] ∧ (∀ y ∈ pre', y.2.2 = 0) ∧ x.2.2 ≠ 0 ∧ Cel W w.heap.size (.int .i64 (x.2.1 : Int)) ∧ Cel W (w.heap.size + 1) (.int .i64 x.2.2))) ∧ Below w.heap.size w W)
    (OwnFrom.and (Own.from (fun s A B row hs hg hr => ⟨hs.1, hs.2.1.kept hg hr, hs.2.2.kept hg hr⟩) _) (ownFrom_below (Nat.le_refl _) (by omega)))
    (fun c => OwnFrom.and (Own.from (fun s A B row hs hg hr => ⟨hs.1, by obtain ⟨p, x, e1, e2, e3, e4, e5⟩ := hs.2; exact ⟨p, x, e1, e2, e3, e4.kept hg hr, e5.kept hg hr⟩⟩) _) (ownFrom_below (Nat.le_refl _) (by omega)))
    ⟨⟨by simp, b0, b1⟩, hB0⟩
    (fun x a' W => ∃ Bx, w.heap.size + 1 < Bx ∧ Step W Bx x ∧ a' = { tmps := #[.slice A len cap, undef, .pointer (some ⟨w.heap.size, 0, none⟩), .pointer (some ⟨w.heap.size + 1, 0, none⟩), .pointer (some ⟨Bx, 0, none⟩), .int .i64 x.2.2, .slice A len cap,
      .func (.func 60) #[] #[.pointer (some ⟨w.heap.size + 1 + 1, 0, none⟩)], .agg #[.int .i64 x.1, .int .i64 (x.2.1 : Int)], .int .i64 x.2.2, undef, undef, undef, undef, undef, undef, undef], defers := [] })
    (fun x a' _ X Y row hs hg hr => by obtain ⟨Bx, h1, h2, h3⟩ := hs; exact ⟨Bx, h1, h2.kept hg (fun r e => (hr r e).2), h3⟩)
    ?assign ?body ?done ?stop
  case assign =>
    rintro lp pre x W K ⟨⟨hall, c0, c1⟩, hB⟩ hK
    have hsW := hB.size
    have hl := World.block_lt_of_cell? W _ c1.1
    simp only [] at hl
    unfold itemV
    have HA := Lib.hid hall
    clear hall
    gi_wp2
    exact hK _ _ ((KeepsOthers.alloc _ _).from _) ⟨(Below.refl _ W).alloc hsW _, fun v hv => cell_later ((Below.refl _ W).alloc (Nat.le_refl _) _) hv⟩ ⟨⟨HA.out, c0.alloc _, c1.alloc _⟩, hB.alloc hsW _⟩ ⟨W.heap.size, hl, Step.new W x _, rfl⟩
  case body =>
    rintro lp pre ⟨r, k, e⟩ a' W hlp hloop ⟨⟨hall, c0, c1⟩, hB⟩ ⟨Bx, hBx, ⟨s0, s1⟩, rfl⟩ hpl
    simp only [] at *
    obtain ⟨d0, f0⟩ := c0
    obtain ⟨d1, f1⟩ := c1
    have HA := Lib.hid hall
    have HL2 := Lib.hid hloop
    clear hall hloop
    by_cases he : e = 0
    · subst he
      gi_wp2
      refine ⟨KeepsFrom.refl _ _, ⟨Below.refl _ _, fun v hv => hv⟩, ⟨?_, ⟨d0, f0⟩, ⟨d1, f1⟩⟩, hB⟩
      intro y hy
      rcases List.mem_append.1 hy with h | h
      · exact HA.out y h
      · simp at h; subst h; rfl
    · have hb : (e != 0) = true := by simpa using he
      have HE := Lib.hid he
      clear he
      gi_wp2
      exact ⟨((KeepsOthers.setCell _ _ _).trans (KeepsOthers.setCell _ _ _)).from _, ⟨rfl, ⟨pre, (r, k, e), rfl, HA.out, HE.out, Cel.other (Cel.set ⟨d0, f0⟩ _) (by omega) _, Cel.set (Cel.other ⟨d1, f1⟩ (by omega) _) _⟩⟩,
        (hB.setCell (p := ⟨w.heap.size, 0, none⟩) (Nat.le_refl _) _).setCell (p := ⟨w.heap.size + 1, 0, none⟩) (by simp) _⟩
  case done =>
    rintro D ys W hD hys ⟨⟨hall, c0, c1⟩, hB⟩ hK
    have HB := Lib.hid (badS_none hys hall)
    obtain ⟨d0, f0⟩ := c0
    obtain ⟨d1, f1⟩ := c1
    clear hys hall
    gi_wp2
    have hK' := ((KeepsOthers.setCell W ⟨w.heap.size, 0, none⟩ (.int .i64 len)).trans (KeepsOthers.setCell _ ⟨w.heap.size + 1, 0, none⟩ (.int .i64 0))).same D _ hK rfl
    refine ⟨by simp, .inl ⟨_, _, rfl, run_takeDeferred hK', ?_⟩⟩
    have q0 := (Cel.other (Cel.set ⟨d0, f0⟩ (.int .i64 len)) (c := w.heap.size + 1) (by omega) (.int .i64 0)).kept (grownBy_putObj' _ D (.deferred none)) (fun r e => by cases e; exact ⟨_, hK', rfl⟩)
    have q1 := (Cel.set (Cel.other ⟨d1, f1⟩ (c := w.heap.size) (by omega) (.int .i64 len)) (.int .i64 0)).kept (grownBy_putObj' _ D (.deferred none)) (fun r e => by cases e; exact ⟨_, hK', rfl⟩)
    refine ⟨.tuple #[.int .i64 len, .int .i64 0], ?_, ?_, ((hB.setCell (p := ⟨w.heap.size, 0, none⟩) (by simp) _).setCell (p := ⟨w.heap.size + 1, 0, none⟩) (by simp) _).trans (belowK_b (w := w) (Nat.le_refl _) _ D _ _ (by omega) hK' rfl rfl)⟩
    · simp [results, Try.f32, go_sem, q0.1, q1.1]
    · unfold checkV; rw [if_pos HB.out, HL.out]
  case stop =>
    rintro D c pre W hD hpre ⟨⟨rfl, ⟨pre', x, rfl, ha, hx, c0, c1⟩⟩, hB⟩ hK
    obtain ⟨hb1, hb2⟩ := badS_some hpre ha hx
    gi_wp2
    refine ⟨by simp, .inl ⟨_, _, rfl, run_takeDeferred hK, ?_⟩⟩
    have q0 := c0.kept (grownBy_putObj' _ D (.deferred none)) (fun r e => by cases e; exact ⟨_, hK, rfl⟩)
    have q1 := c1.kept (grownBy_putObj' _ D (.deferred none)) (fun r e => by cases e; exact ⟨_, hK, rfl⟩)
    refine ⟨.tuple #[.int .i64 (x.2.1 : Int), .int .i64 x.2.2], ?_, ?_, hB.trans (belowK_b (w := w) (Nat.le_refl _) W D _ _ (by omega) hK rfl rfl)⟩
    · simp [results, Try.f32, go_sem, q0.1, q1.1]
    · unfold checkV; rw [hb1, if_neg (by simp), hb2]; rfl
theorem check_any (A : Option Addr) (len cap : Nat) (l : List UInt8) (hlen : l.length = len) (hnc : len ≤ cap) (hcap : cap ≤ 9223372036854775807) (w : World) (hs : Sees w A (vB l)) :
    Calls Try.prog 32 #[.slice A len cap] w fun e W' => e = .returned (checkV l) ∧ Below w.heap.size w W' :=
  callsIn_wide.1 (check_in A len cap l hlen hnc hcap w hs)
end Go.Proofs.Ytfppkjogdahnbaa
