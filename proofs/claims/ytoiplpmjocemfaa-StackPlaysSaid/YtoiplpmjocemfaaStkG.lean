/- Stacks: what each call leaves as it was: all blocks but the stack's own two; where the things lie behind it. -/
import Derived.Test.YtoiplpmjocemfaaStkF
import Derived.Maps.AppendAt
namespace Go.Proofs.Ytoiplpmjocemfaa
open Go.ChangeShapes Go.WideShapes Go.ChangeAt Go.RowKit
set_option linter.unusedVariables false

/-- All that lay but block p and the row at A is as it was. -/
def Off (w w' : World) (p : Nat) (A : Option Addr) : Prop := w.heap.size ≤ w'.heap.size ∧ ∀ k, k < w.heap.size → k ≠ p → (∀ a, A = some a → k ≠ a.block) → w'.heap[k]? = w.heap[k]?
theorem off_of_below {w w' : World} (p : Nat) (A : Option Addr) (h : Below w.heap.size w w') : Off w w' p A := ⟨h.size, fun k hk _ _ => h.block k hk⟩
theorem Off.trans {a b c : World} {p : Nat} {A : Option Addr} (h : Off a b p A) (k : Off b c p A) : Off a c p A :=
  ⟨Nat.le_trans h.1 k.1, fun i h1 h2 h3 => (k.2 i (by have := h.1; omega) h2 h3).trans (h.2 i h1 h2 h3)⟩
theorem Off.set {w w' : World} {p : Nat} {A : Option Addr} (h : Off w w' p A) (o : Nat) (v : Value) : Off w (w'.setCell ⟨p, o, none⟩ v) p A :=
  ⟨by simpa using h.1, fun k h1 h2 h3 => (Below.heap_setCell _ _ _ _ h2).trans (h.2 k h1 h2 h3)⟩
/-- Where the things lie behind a call: where they lay, or in a new block. -/
def Near (w : World) (A A' : Option Addr) : Prop := A' = A ∨ ∃ a, A' = some a ∧ w.heap.size ≤ a.block
/-- What is there behind a call of a stack. -/
def StkPost (w : World) (p : Nat) (room : Int) (A : Option Addr) (v : Value) (ys : List Int) (e : Ending) (w' : World) : Prop :=
  e = .returned v ∧ ∃ A' c', StkAt w' p room A' ys.length c' ys ∧ Off w w' p A ∧ Near w A A' ∧ Below p w w'
theorem StkAt.stk {w : World} {p : Nat} {room : Int} {A : Option Addr} {n c : Nat} {xs : List Int} (h : StkAt w p room A n c xs) : Stk w p room xs := ⟨A, c, by rw [h.len]; exact h⟩

set_option maxRecDepth 100000 in
set_option maxHeartbeats 2000000 in
theorem push_g (w : World) (p : Nat) (room x : Int) (A : Option Addr) (n c : Nat) (xs : List Int) (h' : StkAt w p room A n c xs) (hb : n < 1099511627776) :
    Calls Try.prog 17 #[.pointer (some ⟨p, 0, none⟩), .int .i64 x] w (StkPost w p room A (.int .i64 (pushE room xs)) (pushL room xs x)) := by
  have hlen := h'.len
  have hp := h'.lt
  by_cases hr : (xs.length : Int) < room
  · have e1 : pushE room xs = 0 := if_pos hr
    have e2 : pushL room xs x = xs ++ [x] := if_pos hr
    rw [e1, e2]
    rw [hlen] at hr
    obtain ⟨c0, c1, c2⟩ := cell_of_two h'.blk
    have HS := Lib.hid h'
    have HN := Lib.hid hlen
    clear h' hlen e1 e2
    obtain ⟨i0, hi0, hz0, hz1, hz2⟩ := info_parts sint_info
    go_enter Try.func17, Try.ntmps17
    go_wp2
    go_quiet (fail)
    rename_i nq
    have HO := Lib.hid (show (w.drewN nq).ownsRow (p + 1) 3 1 (.slice A n c) n (vK xs) from HS.out.own)
    go_wp2_with (first | (at_builtin; refine wpList_append_own_at _ rfl _ _ 30 rfl (p + 1) 3 i0 (.int .i64 0) 1 8 Try.underlying30 hi0 hz0 hz1 hz2 rfl (by decide) _ n (vK xs) rfl (HO.out.alloc _) ⟨w.heap.size, 0, none⟩ 1 1 (vK [x]) rfl rfl (new_cells (w.drewN nq) (vK [x]) _) (vK_one _) (by unfold maxLen; omega) (by omega) (by simp; omega) ?_; intro v' w1 hown1 hgrow1 _ hat1; obtain ⟨g1, cp1, rfl⟩ := own_succ hown1; obtain ⟨k1, k2, k3, k4⟩ := (HS.out.below (below_dr (Below.refl _ _) nq)).appended hown1 hgrow1; have HG := Lib.hid hgrow1; have HAT := Lib.hid hat1; clear hown1 hgrow1 hat1; have HA := Lib.hid k3; clear k3))
    go_ret
    refine ⟨rfl, some ⟨g1, 0, none⟩, cp1, ?_, ?_, ?_, (below_dr (Below.refl _ _) nq).trans k4⟩
    · rw [List.length_append, HN.out]
      exact HA.out
    · have hg := HG.out
      refine Off.set ⟨by have := hg.size; simp at this; omega, fun k h1 h2 h3 => ?_⟩ 1 _
      refine (hg.block k (by simp; omega) (fun e => ?_)).trans (Below.heap_alloc _ _ _ h1)
      cases A with
      | none => cases e
      | some a =>
        have : k = a.block := by injection e
        exact h3 a rfl this
    · rcases HAT.out with e | e
      · cases A with
        | none => cases e
        | some a =>
          obtain ⟨g, cap, e'⟩ : ∃ g cap, Value.slice (some a) n c = .slice (some ⟨g, 0, none⟩) n cap := by
            rcases HS.out.own.2 with ⟨e0, _⟩ | ⟨g, cap, _, e0, _⟩
            · cases e0
            · exact ⟨g, cap, e0⟩
          injection e' with e1 e2 e3
          injection e1 with e1
          subst e1
          have : g1 = g := by injection e
          exact .inl (by rw [this])
      · refine .inr ⟨_, rfl, ?_⟩
        have : g1 = w.heap.size + 1 := by injection e with e; simpa using e
        show w.heap.size ≤ g1
        omega
  · have e1 : pushE room xs = 11 := if_neg hr
    have e2 : pushL room xs x = xs := if_neg hr
    rw [e1, e2]
    have := stkPush_full w p room x xs h'.stk (by omega)
    obtain ⟨c0, c1, c2⟩ := cell_of_two h'.blk
    have HS := Lib.hid h'
    have HN := Lib.hid hlen
    rw [hlen] at hr
    have hr' : room ≤ n := by omega
    clear h' hlen e1 e2 this hr
    go_enter Try.func17, Try.ntmps17
    go_wp2
    go_quiet (fail)
    go_wp2
    go_ret
    refine ⟨rfl, A, c, ?_, off_of_below _ _ (below_dr (Below.refl _ _) _), .inl rfl, below_dr (Below.refl _ _) _⟩
    rw [HN.out]
    exact HS.out.below (below_dr (Below.refl _ _) _)

theorem off_setCells {w : World} {g p m : Nat} (vs : List Value) : Off w (w.setCells g m vs) p (some ⟨g, 0, none⟩) :=
  ⟨by rw [setCells_size]; exact Nat.le_refl _, fun k _ _ h3 => setCells_off g k (h3 _ rfl) vs m w⟩
/-- What Cut leaves. -/
def CutPost (w : World) (p : Nat) (room : Int) (A : Option Addr) (ys : List Int) (e : Ending) (w' : World) : Prop :=
  e = .returned (.tuple #[]) ∧ ∃ c', StkAt w' p room A ys.length c' ys ∧ Off w w' p A ∧ Below p w w'
set_option maxRecDepth 100000 in
set_option maxHeartbeats 2000000 in
theorem cut_none (w : World) (p : Nat) (room k : Int) (A : Option Addr) (n c : Nat) (xs : List Int) (h' : StkAt w p room A n c xs) (hk : (n : Int) ≤ k ∨ (k < 0 ∧ n = 0)) :
    Calls Try.prog 21 #[.pointer (some ⟨p, 0, none⟩), .int .i64 k] w (CutPost w p room A xs) := by
  have hn := h'.len
  obtain ⟨c0, c1, c2⟩ := cell_of_two h'.blk
  have f1 := free_of_two h'.blk 1
  have hnc := (own_cap h'.own).1
  have hh := h'.cut n (Nat.le_refl n)
  rw [List.take_of_length_le (by rw [hn]; omega)] at hh
  have HS := Lib.hid hh
  have HN := Lib.hid hn
  have hcl : ∀ (a : Option Addr) (c : Nat) ty, (Builtin.clear_ #[30] ty #[.slice a 0 c]).run Try.prog w = .ok (.tuple #[]) w := fun a c ty => by
    cases a <;> simp [Builtin.clear_, run_underlying Try.underlying30]
  clear h' hn hh
  have fin : ∀ (e : Ending) (w' : World), e = .returned (.tuple #[]) → w' = w.setCell ⟨p, 1, none⟩ (.slice A n c) → CutPost w p room A xs e w' := by
    rintro e w' rfl rfl
    exact ⟨rfl, c, by rw [HN.out]; exact HS.out, Off.set (off_of_below _ _ (Below.refl _ _)) _ _, (Below.refl p w).setCell (p := ⟨p, 1, none⟩) (Nat.le_refl _) _⟩
  have FIN := Lib.hid fin
  clear fin
  rcases hk with hk | ⟨hk, rfl⟩
  · rcases Int.lt_or_eq_of_le hk with hk1 | rfl
    all_goals
      by_cases hcn : c = n
      · subst hcn
        go_enter Try.func21, Try.ntmps21
        go_wp2_with (simp only [hcl])
        go_end0
        exact FIN.out _ _ rfl rfl
      · go_enter Try.func21, Try.ntmps21
        go_wp2_with (simp only [hcl])
        go_end0
        exact FIN.out _ _ rfl rfl
  · by_cases hcn : c = 0
    · subst hcn
      go_enter Try.func21, Try.ntmps21
      go_wp2_with (simp only [hcl])
      go_end0
      exact FIN.out _ _ rfl rfl
    · go_enter Try.func21, Try.ntmps21
      go_wp2_with (simp only [hcl])
      go_end0
      exact FIN.out _ _ rfl rfl
set_option maxRecDepth 100000 in
set_option maxHeartbeats 2000000 in
theorem cut_some (w : World) (p : Nat) (room k : Int) (m : Nat) (A : Option Addr) (n c : Nat) (xs : List Int) (h' : StkAt w p room A n c xs) (hk : m < n) (hb : n < 1099511627776) (hkm : k = m ∨ (k < 0 ∧ m = 0)) :
    Calls Try.prog 21 #[.pointer (some ⟨p, 0, none⟩), .int .i64 k] w (CutPost w p room A (xs.take m)) := by
  have hn := h'.len
  obtain ⟨c0, c1, c2⟩ := cell_of_two h'.blk
  have hnc := (own_cap h'.own).1
  obtain ⟨g, rfl, hmc, hcl⟩ := h'.clears m hk
  obtain ⟨k1, k2, k3, k4⟩ := h'.cleared m (by omega) (List.replicate (n - m) (.int .i64 0))
  have HS := Lib.hid k3
  have HB := Lib.hid k4
  have HE := Lib.hid (show (xs.take m).length = m by rw [List.length_take]; omega)
  have f1 := free_of_two h'.blk 1
  have hcm : ¬ c = m := by omega
  have hmn : ¬ n ≤ m := by omega
  clear h' hn k3 k4
  have hmc' : m ≤ c := by omega
  have fin : ∀ (e : Ending) (w' : World), e = .returned (.tuple #[]) → w' = (w.setCells g m (List.replicate (n - m) (.int .i64 0))).setCell ⟨p, 1, none⟩ (.slice (some ⟨g, 0, none⟩) m c) → CutPost w p room (some ⟨g, 0, none⟩) (xs.take m) e w' := by
    rintro e w' rfl rfl
    exact ⟨rfl, c, by rw [HE.out]; exact HS.out, Off.set (off_setCells _) _ _, HB.out⟩
  have FIN := Lib.hid fin
  clear fin
  rcases hkm with rfl | ⟨hk0, rfl⟩
  · go_enter Try.func21, Try.ntmps21
    go_wp2_with (simp only [hcl])
    go_end0
    exact FIN.out _ _ rfl rfl
  · have hcl0 : ∀ ty, (Builtin.clear_ #[30] ty #[.slice (some ⟨g, 0, none⟩) n c]).run Try.prog w = .ok (.tuple #[]) (w.setCells g 0 (List.replicate n (.int .i64 0))) := hcl
    have k1' : (w.setCells g 0 (List.replicate n (.int .i64 0))).cell? ⟨p, 1, none⟩ = some (.slice (some ⟨g, 0, none⟩) n c) := k1
    have k2' : (w.setCells g 0 (List.replicate n (.int .i64 0))).frozen? ⟨p, 1, none⟩ = false := k2
    clear hcl k1 k2
    go_enter Try.func21, Try.ntmps21
    go_wp2_with (simp only [hcl0])
    go_end0
    exact FIN.out _ _ rfl rfl
theorem cut_g (w : World) (p : Nat) (room k : Int) (A : Option Addr) (n c : Nat) (xs : List Int) (h : StkAt w p room A n c xs) (hb : n < 1099511627776) :
    Calls Try.prog 21 #[.pointer (some ⟨p, 0, none⟩), .int .i64 k] w (CutPost w p room A (xs.take (cutN xs k))) := by
  have hn := h.len
  by_cases hk : (n : Int) ≤ k ∨ (k < 0 ∧ n = 0)
  · have e : xs.take (cutN xs k) = xs := List.take_of_length_le (by unfold cutN; omega)
    rw [e]
    exact cut_none w p room k A n c xs h hk
  · by_cases h0 : k < 0
    · have e : cutN xs k = 0 := by unfold cutN; omega
      rw [e]
      exact cut_some w p room k 0 A n c xs h (by omega) hb (.inr ⟨h0, rfl⟩)
    · have e : k = (cutN xs k : Nat) := by unfold cutN; omega
      exact cut_some w p room k (cutN xs k) A n c xs h (by unfold cutN; omega) hb (.inl e)

set_option maxRecDepth 100000 in
set_option maxHeartbeats 1000000 in
theorem pop_g (w : World) (p : Nat) (room : Int) (A : Option Addr) (n c : Nat) (xs : List Int) (h' : StkAt w p room A n c xs) (hb : n < 1099511627775) :
    Calls Try.prog 19 #[.pointer (some ⟨p, 0, none⟩)] w (StkPost w p room A (.tuple #[.int .i64 (topV xs), .bool (hasV xs)]) xs.dropLast) := by
  have hlen := h'.len
  rcases snoc_cases xs with rfl | ⟨ys, y, rfl⟩
  · simp only [List.length_nil] at hlen
    subst hlen
    exact (stkPop_none w p room h'.stk).mono fun e w' ⟨h1, h2⟩ => ⟨h1, A, c, h2 ▸ h', h2 ▸ off_of_below _ _ (Below.refl _ _), .inl rfl, h2 ▸ Below.refl _ _⟩
  · have e1 : topV (ys ++ [y]) = y := by unfold topV; rw [List.getLast?_concat]; rfl
    have e2 : hasV (ys ++ [y]) = true := by unfold hasV; simp
    rw [e1, e2, List.dropLast_concat]
    obtain ⟨m, rfl⟩ : ∃ m, n = m + 1 := ⟨ys.length, by rw [← hlen]; simp⟩
    have hm : ys.length = m := by simpa using hlen
    have HT := Lib.hid (stkTop_some w p room y ys h'.stk (by omega))
    have hplt := h'.lt
    have HC := Lib.hid (fun (w : World) (hw : StkAt w p room A (m + 1) c (ys ++ [y])) => cut_some w p room (m : Int) m A (m + 1) c (ys ++ [y]) hw (by omega) (by omega) (.inl rfl))
    have HX := Lib.hid (show (ys ++ [y]).take m = ys by rw [← hm]; simp)
    have HS := Lib.hid h'
    clear h' hm hlen e1 e2
    go_enter Try.func19, Try.ntmps19
    go_wp2_with (go_at_call 22; refine HT.out.mono ?_; rintro e w1 ⟨rfl, hb1⟩; have h1 := HS.out.below hb1; have k1 := (cell_of_two h1.blk).2.2; have H1 := Lib.hid h1; clear h1)
    refine (HC.out _ H1.out).mono ?_
    rintro e w2 ⟨rfl, hs2⟩
    have H2 := Lib.hid hs2
    clear hs2
    go_wp2_with fail
    go_ret2
    obtain ⟨c', h1, h2, h3⟩ := H2.out
    rw [HX.out] at h1
    exact ⟨rfl, A, c', h1, (off_of_below _ _ hb1).trans h2, .inl rfl, (hb1.mono (Nat.le_of_lt hplt)).trans h3⟩
end Go.Proofs.Ytoiplpmjocemfaa
