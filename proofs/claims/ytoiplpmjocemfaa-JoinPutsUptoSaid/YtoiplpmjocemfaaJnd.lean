/- Flush, into what join.All keeps. -/
import Derived.Test.YtoiplpmjocemfaaJnc
import Derived.Laws.IdiomStrings
import Derived.Lib.BufferRead
import Derived.Lib.SlBytesConst
import Derived.Laws.Strings
namespace Go.Proofs.Ytoiplpmjocemfaa
open Go.ChangeShapes Go.WideShapes Go.ChangeAt Go.RowKit
set_option linter.unusedVariables false
set_option maxRecDepth 100000

theorem conv_row (w : World) (A : Option Addr) (n c : Nat) (l : List UInt8) (hn : l.length = n) (h : Sees w A (vB l)) :
    (convert 116 9 (.slice A n c)).run Try.prog w = .ok (.string ⟨l.toArray⟩) w := by
  subst hn
  rcases A with _ | a
  · have hl : l = [] := by
      cases l with
      | nil => rfl
      | cons x l => obtain ⟨_, e, _⟩ := h (by simp [vB]); cases e
    subst hl
    exact Lib.run_convert_nil_bytes w _ _ 5 c Try.underlying116 Try.underlying5 Try.underlying9
  · refine run_convert_bytes_back w _ _ 5 a c l Try.underlying116 Try.underlying5 Try.underlying9 (fun j hj => ?_)
    obtain ⟨ad, e, hc⟩ := h (by intro h0; have := congrArg List.length h0; simp [vB] at this; simp [this] at hj)
    obtain rfl : a = ad := by injection e
    exact hc j _ (by simp [vB, List.getElem?_eq_getElem hj])
/-- The joiner that join.All makes, in block J, and the text that waits. -/
structure JoinAt (b0 C J : Nat) (w : World) (T : Option Addr) (n d : Nat) (s : List UInt8) : Prop where
  cell : w.heap[J]? = some (.cells #[.func (.func 70) #[] #[.pointer (some ⟨C, 0, none⟩)], .slice T n d] 118 (0, 0))
  row : w.ownsRow b0 5 1 (.slice T n d) n (vB s)
  len : s.length = n

theorem JoinAt.keep {b0 C J : Nat} {w w' : World} {T : Option Addr} {n d : Nat} {s : List UInt8} (h : JoinAt b0 C J w T n d s) (B : Option Addr) (q dq : Nat) {o : List Ev} (ha : AllAt b0 C w B q dq o)
    (hf : ∀ k, k < w.heap.size → k ≠ C → some k ≠ (Value.slice B q dq).ownBlock → w'.heap[k]? = w.heap[k]?) : JoinAt b0 C J w' T n d s := by
  have hJC : J ≠ C := by
    rintro rfl
    have h1 := h.cell
    rw [ha.cell] at h1
    injection h1 with h1
    injection h1 with _ h1
    exact absurd h1 (by decide)
  refine ⟨(hf J (Array.getElem?_eq_some_iff.1 h.cell).1 hJC (fun e => own_ne ha.row h.cell (by decide) J e.symm rfl)).trans h.cell, ?_, h.len⟩
  refine ⟨h.row.1, ?_⟩
  rcases h.row.2 with hn | ⟨g, cap, cur, e1, h1, h2, h3⟩
  · exact .inl hn
  · refine .inr ⟨g, cap, cur, e1, h1, (hf g (Array.getElem?_eq_some_iff.1 h2).1 (fun e => ?_) (fun e => ?_)).trans h2, h3⟩
    · subst e
      rw [ha.cell] at h2
      injection h2 with h2
      injection h2 with _ h2
      exact absurd h2 (by decide)
    · exact own_ne ha.row h2 (by decide) g e.symm rfl

/-- An event without where its attributes lie. -/
def nrm (e : Ev) : Ev := { e with A := none, c := 0 }
theorem keepNil (C : Nat) : ∀ w : World, (binOp .eql 77 (.func (.func 70) #[] #[.pointer (some ⟨C, 0, none⟩)]) .nilFunc).run Try.prog w = .ok (.bool false) w := fun _ => by kernel_rfl
set_option maxHeartbeats 4000000 in
theorem flush_any (b0 C J : Nat) (B T : Option Addr) (q dq n d : Nat) (o : List Ev) (s : List UInt8) (w : World) (hb0 : b0 ≤ C) (hbJ : b0 ≤ J) (ha : AllAt b0 C w B q dq o) (h : JoinAt b0 C J w T n d s) (hq9 : q ≤ 4000000) :
    Calls Try.prog 49 #[.pointer (some ⟨J, 0, none⟩)] w fun en w' => en = .returned (.int .i64 0) ∧ ∃ B' q' dq' T' n' d' o', AllAt b0 C w' B' q' dq' o' ∧ o'.map nrm = (flushJ (o, s)).map nrm ∧ q' ≤ q + 1 ∧ JoinAt b0 C J w' T' n' d' [] ∧
      Below b0 w w' ∧ (∀ k, k < w.heap.size → k ≠ C → k ≠ J → some k ≠ (Value.slice B q dq).ownBlock → w'.heap[k]? = w.heap[k]?) := by
  have c0 := cell_at (k := 0) h.cell rfl
  have c1 := cell_at (k := 1) h.cell rfl
  have f1 := froz_at 1 h.cell
  have H := Lib.hid h
  have HA := Lib.hid ha
  have hl := h.len
  have kf := keepNil C
  by_cases hs : s = []
  · have hn0 : n = 0 := by rw [← hl, hs]; rfl
    subst hn0 hs
    clear h ha hl
    go_enter Try.func49, Try.ntmps49
    go_wp2_with fail
    go_ret
    exact ⟨rfl, B, q, dq, T, 0, d, o, HA.out, by unfold flushJ; rw [if_pos rfl], by omega, H.out, Below.refl _ _, fun _ _ _ _ _ => rfl⟩
  · have hn0 : n ≠ 0 := by rw [← hl]; simpa using hs
    have hn1 : ((n : Int) == 0) = false := by simp; omega
    have kc := conv_row w T n d s hl (own_sees h.row)
    have hcap := own_cap2 h.row
    have HL := Lib.hid hl
    clear h ha hl
    go_enter Try.func49, Try.ntmps49
    go_wp2_with fail
    have hJ' : (w.setCell ⟨J, 1, none⟩ (.slice T 0 d)).heap[J]? = some (.cells #[.func (.func 70) #[] #[.pointer (some ⟨C, 0, none⟩)], .slice T 0 d] 118 (0, 0)) := set_at (k := 1) _ H.out.cell
    have hJC : C ≠ J := by
      rintro rfl
      have h1 := H.out.cell
      rw [HA.out.cell] at h1
      injection h1 with h1
      injection h1 with _ h1
      exact absurd h1 (by decide)
    have ho : ∀ k, k < w.heap.size → some k ≠ some J → (w.setCell ⟨J, 1, none⟩ (.slice T 0 d)).heap[k]? = w.heap[k]? := fun k _ hk => Below.heap_setCell _ _ _ _ (fun e => hk (by simp [e]))
    have hj1 : JoinAt b0 C J (w.setCell ⟨J, 1, none⟩ (.slice T 0 d)) T 0 d [] := ⟨hJ', own_frame (own_take H.out.row (Nat.zero_le n)) ho (own_ne (own_take H.out.row (Nat.zero_le n)) H.out.cell (by decide)), rfl⟩
    have ha1 : AllAt b0 C (w.setCell ⟨J, 1, none⟩ (.slice T 0 d)) B q dq o := ⟨(Below.heap_setCell _ _ _ _ hJC).trans HA.out.cell, own_frame HA.out.row ho (own_ne HA.out.row H.out.cell (by decide)), fun e he => ⟨own_frame (HA.out.atts e he).1 ho (own_ne (HA.out.atts e he).1 H.out.cell (by decide)), (HA.out.atts e he).2⟩, HA.out.len⟩
    have hb1 : Below b0 w (w.setCell ⟨J, 1, none⟩ (.slice T 0 d)) := (Below.refl _ _).setCell hbJ _
    have KK : Calls Try.prog 70 #[.agg #[.int .i64 3, .string ⟨#[]⟩, .string ⟨#[]⟩, .slice none 0 0, .string ⟨s.toArray⟩], .pointer (some ⟨C, 0, none⟩)] (w.setCell ⟨J, 1, none⟩ (.slice T 0 d)) _ := keep1_any (textE s) b0 C B q dq o (w.setCell ⟨J, 1, none⟩ (.slice T 0 d)) hb0 ha1 hq9 ⟨sees_nil _ _, Nat.le_refl _, by unfold textE; simp, ⟨by unfold textE; simp, by unfold textE; simp⟩⟩ (by unfold textE; simp)
    refine KK.mono ?_
    rintro en w2 ⟨rfl, A', c', B', d', ha2, hf, hsz, hb2⟩
    have hj2 := hj1.keep B q dq ha1 hf
    have HJ2 := Lib.hid hj2
    have HA2 := Lib.hid ha2
    have HB2 := Lib.hid (hb1.trans hb2)
    have HF2 := Lib.hid (fun k (h1 : k < w.heap.size) (h2 : k ≠ C) (h3 : k ≠ J) (h4 : some k ≠ (Value.slice B q dq).ownBlock) => (hf k (by simpa using h1) h2 h4).trans (Below.heap_setCell w ⟨J, 1, none⟩ (.slice T 0 d) k h3))
    clear hj2 ha2 hf hb2 hsz hj1 ha1 hJ' ho hJC hb1
    go_wp2_with fail
    go_ret
    exact ⟨rfl, B', q + 1, d', T, 0, d, _, HA2.out, by unfold flushJ; rw [if_neg hs, List.map_append, List.map_append]; rfl, Nat.le_refl _, HJ2.out, HB2.out, HF2.out⟩
end Go.Proofs.Ytoiplpmjocemfaa
