/- Contracts of those who range over the characters of a text: Len, Check, Runes. -/
import Derived.Test.YtpgpniemkmiljaaUtfG
namespace Go.Proofs.Ytpgpniemkmiljaa
open Go.ChangeShapes Go.WideShapes Go.ChangeAt Go.RowKit Go.Shelf
set_option linter.unusedVariables false
attribute [local go_sem] Oper.semAt_some

theorem items_len (l : List UInt8) (f k : Nat) : (items l f k).length ≤ f := by
  induction f generalizing k with
  | zero => simp [items]
  | succ f ih =>
    rw [items]
    split
    · split
      · simp
      · simp only [List.length_cons]; have := ih (k + (chrAt l k).2); omega
    · simp
theorem stepsS_len (l : List UInt8) : (stepsS l).length ≤ l.length := items_len l _ _
theorem items_err (l : List UInt8) (f k : Nat) : ∀ x ∈ items l f k, x.2.2 ≠ 0 → x.1 = 0 ∧ x.2.2 = 5 := by
  induction f generalizing k with
  | zero => simp [items]
  | succ f ih =>
    rw [items]
    split
    · split
      · simp
      · intro x hx he
        rcases List.mem_cons.1 hx with rfl | hx
        · exact absurd rfl he
        · exact ih _ x hx he
    · simp
/-- The first place at which there is no character. -/
def badS (l : List UInt8) : Option Nat := ((stepsS l).find? fun x => x.2.2 != 0).map fun x => x.2.1
def runesS (l : List UInt8) : List Int := (stepsS l).map fun x => x.1
theorem badS_none {l : List UInt8} {ys : List Item} (h : ys = stepsS l) (ha : ∀ y ∈ ys, y.2.2 = 0) : badS l = none := by
  unfold badS
  rw [← h, List.find?_eq_none.2 (fun x hx => by simp [ha x hx])]; rfl
theorem badS_some {l : List UInt8} {pre : List Item} {x : Item} (hp : pre ++ [x] <+: stepsS l) (ha : ∀ y ∈ pre, y.2.2 = 0) (hx : x.2.2 ≠ 0) : badS l = some x.2.1 ∧ x.2.2 = 5 := by
  obtain ⟨t, ht⟩ := hp
  refine ⟨?_, (items_err l _ _ x (by show x ∈ stepsS l; rw [← ht]; simp) hx).2⟩
  unfold badS
  rw [← ht, List.append_assoc, List.find?_append, List.find?_eq_none.2 (fun y hy => by simp [ha y hy])]
  simp [hx]

/-- What Len tells. -/
def lenV (l : List UInt8) : Value := if badS l = none then .tuple #[.int .i64 (runesS l).length, .int .i64 0] else .tuple #[.int .i64 0, .int .i64 5]

/-- A cell of the call's own that may be written. -/
def Cel (W : World) (b : Nat) (v : Value) : Prop := W.cell? ⟨b, 0, none⟩ = some v ∧ W.frozen? ⟨b, 0, none⟩ = false
theorem Cel.kept {A B : World} {b : Nat} {v : Value} {row : Option Nat} (h : Cel A b v) (hg : A.grownBy B row) (hr : ∀ r, row = some r → ∃ o : Obj, A.heap[r]? = some o ∧ o.isCells = false) : Cel B b v :=
  ⟨cell_kept h.1 hg hr, (frozen_kept h.1 hg hr).trans h.2⟩
theorem Cel.set {W : World} {b : Nat} {v : Value} (h : Cel W b v) (u : Value) : Cel (W.setCell ⟨b, 0, none⟩ u) b u :=
  ⟨World.cell?_setCell_same' _ _ _ (by rw [h.1]; rfl), by rw [World.frozen?_setCell]; exact h.2⟩
theorem Cel.other {W : World} {b c : Nat} {v : Value} (h : Cel W b v) (hne : b ≠ c) (u : Value) : Cel (W.setCell ⟨c, 0, none⟩ u) b v :=
  ⟨(World.cell?_setCell_other W _ _ u (fun e => by injection e with e1; exact hne e1.symm)).trans h.1, by rw [World.frozen?_setCell]; exact h.2⟩
theorem Cel.new (w : World) (v : Value) (t : TypeId) : Cel (w.alloc (.cells #[v] t)) w.heap.size v := ⟨by simp [World.cell?_alloc_new], by unfold World.frozen?; simp only [World.alloc_heap_new w (.cells #[v] t)]; simp⟩
theorem Cel.alloc {W : World} {b : Nat} {v : Value} (h : Cel W b v) (o : Obj) : Cel (W.alloc o) b v :=
  have hb : Below W.heap.size W (W.alloc o) := (Below.refl _ W).alloc (Nat.le_refl _) o
  have hl := World.block_lt_of_cell? W _ h.1
  ⟨(hb.cell hl).trans h.1, (hb.frozen hl).trans h.2⟩

set_option maxRecDepth 100000 in
set_option maxHeartbeats 4000000 in
theorem len_in (A : Option Addr) (len cap : Nat) (l : List UInt8) (hlen : l.length = len) (hnc : len ≤ cap) (hcap : cap ≤ 9223372036854775807) (w : World) (hs : Sees w A (vB l)) :
    CallsIn Fence.wide 9 Try.prog 69 #[.slice A len cap] w fun e W' =>
      e = .returned (lenV l) ∧ Below w.heap.size w W' := by
  have hN := stepsS_len l
  rw [hlen] at hN
  have HL := Lib.hid hlen
  clear hlen
  refine callsIn_of_wp_marks Try.func69 rfl trivial ?_ rfl
  simp only [Try.ntmps69, List.size_toArray, List.length_cons, List.length_nil, Nat.reduceAdd, Nat.reduceSub, Array.replicate_succ, Array.replicate_zero, List.push_toArray, List.append_toArray, List.nil_append, List.cons_append]
  gi_wp2_with (refine ⟨trivial, ?_⟩; gi_at_call 94; refine (steps_in _ _ _ _ _).mono ?_; rintro e w' ⟨rfl, rfl⟩)
  have b0 := Cel.new w (.int .i64 0) 3
  have b1 := Cel.new (w.alloc (.cells #[.int .i64 0] 3)) (.int .i64 0) 23
  have b2 := Cel.new ((w.alloc (.cells #[.int .i64 0] 3)).alloc (.cells #[.int .i64 0] 23)) (.int .i64 0) 3
  have b3 := Cel.new (((w.alloc (.cells #[.int .i64 0] 3)).alloc (.cells #[.int .i64 0] 23)).alloc (.cells #[.int .i64 0] 3)) (.slice A len cap) 22
  have hB0 : Below w.heap.size w ((((w.alloc (.cells #[.int .i64 0] 3)).alloc (.cells #[.int .i64 0] 23)).alloc (.cells #[.int .i64 0] 3)).alloc (.cells #[.slice A len cap] 22)) :=
    (((((Below.refl _ w).alloc (Nat.le_refl _) _).alloc (by simp) _).alloc (by simp; omega) _).alloc (by simp; omega) _)
  have b0 := ((b0.alloc (.cells #[.int .i64 0] 23)).alloc (.cells #[.int .i64 0] 3)).alloc (.cells #[.slice A len cap] 22)
  have b1 := (b1.alloc (.cells #[.int .i64 0] 3)).alloc (.cells #[.slice A len cap] 22)
  have b2 := b2.alloc (.cells #[.slice A len cap] 22)
  simp only [World.size_alloc] at b1 b2 b3
  refine wpIn_rangeFunc_ownF rfl (by omega) (gf := 103) (lb := #[.pointer (some ⟨w.heap.size + 1 + 1 + 1, 0, none⟩)]) rfl trivial (enters_of Try.func103 (by kernel_rfl) rfl)
    (steps_stops (9 - 1) (by omega) (w.heap.size + 1 + 1 + 1) len cap A l HL.out hnc hcap w _ hs hB0 (by simp) b3.1) keepsBox_t (keepsBox_b (by simp; omega)) (Below.refl _ _) (fun _ => rfl)
    (fun pre W => ((∀ y ∈ pre, y.2.2 = 0) ∧ Cel W w.heap.size (.int .i64 0) ∧ Cel W (w.heap.size + 1) (.int .i64 0) ∧ Cel W (w.heap.size + 1 + 1) (.int .i64 pre.length)) ∧ Below w.heap.size w W)
    (fun c pre W => (c = .ret ∧ (∃ pre' x, pre = pre' ++ [x] ∧ (∀ y ∈ pre', y.2.2 = 0) ∧ x.2.2 ≠ 0 ∧ Cel W (w.heap.size + 1) (.int .i64 x.2.2)) ∧ Cel W w.heap.size (.int .i64 0)) ∧ Below w.heap.size w W)
    (OwnFrom.and (Own.from (fun s A B row hs hg hr => ⟨hs.1, hs.2.1.kept hg hr, hs.2.2.1.kept hg hr, hs.2.2.2.kept hg hr⟩) _) (ownFrom_below (Nat.le_refl _) (by simp; omega)))
    (fun c => OwnFrom.and (Own.from (fun s A B row hs hg hr => ⟨hs.1, by obtain ⟨p, x, e1, e2, e3, e4⟩ := hs.2.1; exact ⟨p, x, e1, e2, e3, e4.kept hg hr⟩, hs.2.2.kept hg hr⟩) _) (ownFrom_below (Nat.le_refl _) (by simp; omega)))
    ⟨⟨by simp, b0, b1, b2⟩, hB0⟩
    (fun x => { tmps := #[.slice A len cap, undef, .pointer (some ⟨w.heap.size, 0, none⟩), .pointer (some ⟨w.heap.size + 1, 0, none⟩), .pointer (some ⟨w.heap.size + 1 + 1, 0, none⟩), undef, .int .i64 x.2.2, .slice A len cap,
      .func (.func 103) #[] #[.pointer (some ⟨w.heap.size + 1 + 1 + 1, 0, none⟩)], .agg #[.int .i64 x.1, .int .i64 (x.2.1 : Int)], .int .i64 x.2.2, undef, undef, undef, undef, undef, undef], defers := [] }) ?assign ?body ?done ?stop
  case assign =>
    intro lp x W K hK
    unfold itemV
    gi_wp2
    exact hK
  case body =>
    rintro lp pre ⟨r, k, e⟩ W ⟨⟨hall, c0, c1, c2⟩, hB⟩ hpl
    simp only [] at *
    obtain ⟨d0, f0⟩ := c0
    obtain ⟨d1, f1⟩ := c1
    obtain ⟨d2, f2⟩ := c2
    have hpn : (pre.length : Int) ≤ 9223372036854775806 := by omega
    have HA := Lib.hid hall
    clear hall
    by_cases he : e = 0
    · subst he
      gi_wp2
      refine ⟨KeepsOthers.setCell _ _ _, ⟨(Below.refl w.heap.size W).setCell (p := ⟨w.heap.size + 1 + 1, 0, none⟩) (by simp; omega) _, fun v hv => (World.cell?_setCell_other W _ _ _ (fun e => by injection e with e1; omega)).trans hv⟩,
        ⟨?_, Cel.other ⟨d0, f0⟩ (by omega) _, Cel.other ⟨d1, f1⟩ (by omega) _, ?_⟩, hB.setCell (p := ⟨w.heap.size + 1 + 1, 0, none⟩) (by simp; omega) _⟩
      · intro y hy
        rcases List.mem_append.1 hy with h | h
        · exact HA.out y h
        · simp at h; subst h; rfl
      · have := Cel.set ⟨d2, f2⟩ (.int .i64 ((pre.length : Int) + 1))
        rw [List.length_append]
        exact this
    · have hb : (e != 0) = true := by simpa using he
      have HE := Lib.hid he
      clear he
      gi_wp2
      refine ⟨(KeepsOthers.setCell _ _ _).trans (KeepsOthers.setCell _ _ _), ⟨rfl, ⟨pre, (r, k, e), rfl, HA.out, HE.out, Cel.set (Cel.other ⟨d1, f1⟩ (by omega) _) _⟩, Cel.other (Cel.set ⟨d0, f0⟩ _) (by omega) _⟩,
        (hB.setCell (p := ⟨w.heap.size, 0, none⟩) (Nat.le_refl _) _).setCell (p := ⟨w.heap.size + 1, 0, none⟩) (by simp) _⟩
  case done =>
    rintro D ys W hD hys ⟨⟨hall, c0, c1, c2⟩, hB⟩ hK
    have HB := Lib.hid (badS_none hys hall)
    have HY := Lib.hid hys
    obtain ⟨d0, f0⟩ := c0
    obtain ⟨d1, f1⟩ := c1
    obtain ⟨d2, f2⟩ := c2
    clear hys hall
    gi_wp2
    have hK' := ((KeepsOthers.setCell W ⟨w.heap.size, 0, none⟩ (.int .i64 ys.length)).trans (KeepsOthers.setCell _ ⟨w.heap.size + 1, 0, none⟩ (.int .i64 0))).same D _ hK rfl
    refine ⟨by simp, .inl ⟨_, _, rfl, run_takeDeferred hK', ?_⟩⟩
    have q0 := (Cel.other (Cel.set ⟨d0, f0⟩ (.int .i64 ys.length)) (c := w.heap.size + 1) (by omega) (.int .i64 0)).kept (grownBy_putObj' _ D (.deferred none)) (fun r e => by cases e; exact ⟨_, hK', rfl⟩)
    have q1 := (Cel.set (Cel.other ⟨d1, f1⟩ (c := w.heap.size) (by omega) (.int .i64 ys.length)) (.int .i64 0)).kept (grownBy_putObj' _ D (.deferred none)) (fun r e => by cases e; exact ⟨_, hK', rfl⟩)
    refine ⟨.tuple #[.int .i64 ys.length, .int .i64 0], ?_, ?_, ((hB.setCell (p := ⟨w.heap.size, 0, none⟩) (by simp) _).setCell (p := ⟨w.heap.size + 1, 0, none⟩) (by simp) _).trans (belowK_b (w := w) (Nat.le_refl _) _ D _ _ (by simp at hD; omega) hK' rfl rfl)⟩
    · simp [results, Try.f69, go_sem, q0.1, q1.1]
    · unfold lenV; rw [if_pos HB.out]; unfold runesS; rw [List.length_map, ← HY.out]
  case stop =>
    rintro D c pre W hD hpre ⟨⟨rfl, ⟨pre', x, rfl, ha, hx, c1⟩, c0⟩, hB⟩ hK
    obtain ⟨hb1, hb2⟩ := badS_some hpre ha hx
    gi_wp2
    refine ⟨by simp, .inl ⟨_, _, rfl, run_takeDeferred hK, ?_⟩⟩
    have q0 := c0.kept (grownBy_putObj' _ D (.deferred none)) (fun r e => by cases e; exact ⟨_, hK, rfl⟩)
    have q1 := c1.kept (grownBy_putObj' _ D (.deferred none)) (fun r e => by cases e; exact ⟨_, hK, rfl⟩)
    refine ⟨.tuple #[.int .i64 0, .int .i64 x.2.2], ?_, ?_, hB.trans (belowK_b (w := w) (Nat.le_refl _) W D _ _ (by simp at hD; omega) hK rfl rfl)⟩
    · simp [results, Try.f69, go_sem, q0.1, q1.1]
    · unfold lenV; rw [hb1, if_neg (by simp), hb2]
theorem len_any (A : Option Addr) (len cap : Nat) (l : List UInt8) (hlen : l.length = len) (hnc : len ≤ cap) (hcap : cap ≤ 9223372036854775807) (w : World) (hs : Sees w A (vB l)) :
    Calls Try.prog 69 #[.slice A len cap] w fun e W' =>
      e = .returned (lenV l) ∧ Below w.heap.size w W' :=
  callsIn_wide.1 (len_in A len cap l hlen hnc hcap w hs)
end Go.Proofs.Ytpgpniemkmiljaa
