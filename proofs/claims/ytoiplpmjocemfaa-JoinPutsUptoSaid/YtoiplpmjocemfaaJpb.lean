/- Put and Flush, into what JoinPuts keeps. -/
import Derived.Test.YtoiplpmjocemfaaJpa
namespace Go.Proofs.Ytoiplpmjocemfaa
open Go.ChangeShapes Go.WideShapes Go.ChangeAt Go.RowKit
set_option linter.unusedVariables false
set_option maxRecDepth 100000

abbrev tellF (C N : Nat) : Value := .func (.func 47) #[] #[.pointer (some ⟨C, 0, none⟩), .pointer (some ⟨N, 0, none⟩)]
/-- The joiner that JoinPuts makes, in block J, and the text that waits. -/
structure PutAt (b0 C N J : Nat) (w : World) (T : Option Addr) (n d : Nat) (s : List UInt8) : Prop where
  cell : w.heap[J]? = some (.cells #[.func (.func 47) #[] #[.pointer (some ⟨C, 0, none⟩), .pointer (some ⟨N, 0, none⟩)], .slice T n d] 118 (0, 0))
  row : w.ownsRow b0 5 1 (.slice T n d) n (vB s)
  len : s.length = n
theorem PutAt.below {b0 C N J : Nat} {w w' : World} {T : Option Addr} {n d : Nat} {s : List UInt8} (h : PutAt b0 C N J w T n d s) (hb : Below w.heap.size w w') : PutAt b0 C N J w' T n d s :=
  ⟨(hb.block J (Array.getElem?_eq_some_iff.1 h.cell).1).trans h.cell, own_below2 h.row hb, h.len⟩
theorem PutAt.drew {b0 C N J : Nat} {w : World} {T : Option Addr} {n d : Nat} {s : List UInt8} (h : PutAt b0 C N J w T n d s) : PutAt b0 C N J w.drew T n d s := ⟨h.cell, h.row.drew, h.len⟩
theorem PutAt.ne {b0 C N J m : Nat} {w : World} {T : Option Addr} {n d : Nat} {s : List UInt8} (h : PutAt b0 C N J w T n d s) {B : Option Addr} {q dq : Nat} {o : List Ev} (ha : OutAt b0 C N m w B q dq o) : C ≠ J ∧ N ≠ J := by
  constructor
  · rintro rfl
    have h1 := h.cell
    rw [ha.cell] at h1
    injection h1 with h1
    injection h1 with _ h1
    exact absurd h1 (by decide)
  · rintro rfl
    have h1 := h.cell
    rw [ha.num] at h1
    injection h1 with h1
    injection h1 with _ h1
    exact absurd h1 (by decide)
theorem PutAt.keep {b0 C N J m : Nat} {w w' : World} {T : Option Addr} {n d : Nat} {s : List UInt8} (h : PutAt b0 C N J w T n d s) (B : Option Addr) (q dq : Nat) {o : List Ev} (ha : OutAt b0 C N m w B q dq o)
    (hf : ∀ k, k < w.heap.size → k ≠ C → some k ≠ (Value.slice B q dq).ownBlock → w'.heap[k]? = w.heap[k]?) : PutAt b0 C N J w' T n d s := by
  have hJC := (h.ne ha).1
  refine ⟨(hf J (Array.getElem?_eq_some_iff.1 h.cell).1 hJC.symm (fun e => own_ne ha.row h.cell (by decide) J e.symm rfl)).trans h.cell, ?_, h.len⟩
  refine ⟨h.row.1, ?_⟩
  rcases h.row.2 with hn | ⟨g, cap, cur, e1, h1, h2, h3⟩
  · exact .inl hn
  · refine .inr ⟨g, cap, cur, e1, h1, (hf g (Array.getElem?_eq_some_iff.1 h2).1 (fun e => ?_) (fun e => ?_)).trans h2, h3⟩
    · subst e
      rw [ha.cell] at h2
      injection h2 with h2
      injection h2 with _ h2
      exact absurd h2 (by decide)
    · exact own_ne ha.row h2 (by decide) g e.symm rfl
theorem tellNil (C N : Nat) : ∀ w : World, (binOp .eql 77 (.func (.func 47) #[] #[.pointer (some ⟨C, 0, none⟩), .pointer (some ⟨N, 0, none⟩)]) .nilFunc).run Try.prog w = .ok (.bool false) w := fun _ => by kernel_rfl
set_option maxHeartbeats 4000000 in
theorem flushP_any (b0 C N J m : Nat) (B T : Option Addr) (q dq n d : Nat) (o : List Ev) (s : List UInt8) (w : World) (hb0 : b0 ≤ C) (hbJ : b0 ≤ J) (ha : OutAt b0 C N m w B q dq o) (h : PutAt b0 C N J w T n d s) (hqm : q ≤ m) (hm9 : m ≤ 4000000) :
    Calls Try.prog 49 #[.pointer (some ⟨J, 0, none⟩)] w fun en w' => en = .returned (.int .i64 (if (flushJ (o, s)).length ≤ m then 0 else 11)) ∧
      (∀ k, k < w.heap.size → k ≠ C → k ≠ J → some k ≠ (Value.slice B q dq).ownBlock → w'.heap[k]? = w.heap[k]?) ∧ Below b0 w w' ∧ (∃ B' q' dq', OutAt b0 C N m w' B' q' dq' ((flushJ (o, s)).take m)) ∧ ∃ T' n' d', PutAt b0 C N J w' T' n' d' [] := by
  have c0 := cell_at (k := 0) h.cell rfl
  have c1 := cell_at (k := 1) h.cell rfl
  have f1 := froz_at 1 h.cell
  have H := Lib.hid h
  have HA := Lib.hid ha
  have hl := h.len
  have kf := tellNil C N
  by_cases hs : s = []
  · have hn0 : n = 0 := by rw [← hl, hs]; rfl
    subst hn0 hs
    have hol : o.length ≤ m := by rw [ha.len]; exact hqm
    have HOL := Lib.hid hol
    clear h ha hl hol
    rw [show flushJ (o, []) = o by unfold flushJ; rw [if_pos rfl], if_pos HOL.out, List.take_of_length_le HOL.out]
    go_enter Try.func49, Try.ntmps49
    go_wp2_with fail
    go_ret
    exact ⟨rfl, fun _ _ _ _ _ => rfl, Below.refl _ _, ⟨B, q, dq, HA.out⟩, ⟨T, 0, d, H.out⟩⟩
  · have hn0 : n ≠ 0 := by rw [← hl]; simpa using hs
    have hn1 : ((n : Int) == 0) = false := by simp; omega
    have kc := conv_row w T n d s hl (own_sees h.row)
    have hcap := own_cap2 h.row
    have HL := Lib.hid hl
    have hfe : flushJ (o, s) = o ++ [textE s] := by unfold flushJ; rw [if_neg hs]
    rw [hfe]
    have hiff : (if (o ++ [textE s]).length ≤ m then (0 : Int) else 11) = if q < m then 0 else 11 := by
      rw [List.length_append, ha.len]
      simp only [List.length_cons, List.length_nil]
      by_cases hq : q < m
      · rw [if_pos hq, if_pos (by omega)]
      · rw [if_neg hq, if_neg (by omega)]
    obtain ⟨r, hr⟩ : ∃ r : Int, (if q < m then (0 : Int) else 11) = r := ⟨_, rfl⟩
    rw [hiff, hr]
    have HR := Lib.hid hr
    clear h ha hl hiff hfe hr
    go_enter Try.func49, Try.ntmps49
    go_wp2_with fail
    have hJ' : (w.setCell ⟨J, 1, none⟩ (.slice T 0 d)).heap[J]? = some (.cells #[.func (.func 47) #[] #[.pointer (some ⟨C, 0, none⟩), .pointer (some ⟨N, 0, none⟩)], .slice T 0 d] 118 (0, 0)) := set_at (k := 1) _ H.out.cell
    obtain ⟨hJC, hJN⟩ := H.out.ne HA.out
    have ho : ∀ k, k < w.heap.size → some k ≠ some J → (w.setCell ⟨J, 1, none⟩ (.slice T 0 d)).heap[k]? = w.heap[k]? := fun k _ hk => Below.heap_setCell _ _ _ _ (fun e => hk (by simp [e]))
    have hj1 : PutAt b0 C N J (w.setCell ⟨J, 1, none⟩ (.slice T 0 d)) T 0 d [] := ⟨hJ', own_frame (own_take H.out.row (Nat.zero_le n)) ho (own_ne (own_take H.out.row (Nat.zero_le n)) H.out.cell (by decide)), rfl⟩
    have ha1 : OutAt b0 C N m (w.setCell ⟨J, 1, none⟩ (.slice T 0 d)) B q dq o := ⟨(Below.heap_setCell _ _ _ _ hJC).trans HA.out.cell, (Below.heap_setCell _ _ _ _ hJN).trans HA.out.num, own_frame HA.out.row ho (own_ne HA.out.row H.out.cell (by decide)), HA.out.len⟩
    have hb1 : Below b0 w (w.setCell ⟨J, 1, none⟩ (.slice T 0 d)) := (Below.refl _ _).setCell hbJ _
    have KK : Calls Try.prog 47 #[.agg #[.int .i64 3, .string ⟨#[]⟩, .string ⟨#[]⟩, .slice none 0 0, .string ⟨s.toArray⟩], .pointer (some ⟨C, 0, none⟩), .pointer (some ⟨N, 0, none⟩)] (w.setCell ⟨J, 1, none⟩ (.slice T 0 d)) _ := tell_any (textE s) b0 C N m B q dq o (w.setCell ⟨J, 1, none⟩ (.slice T 0 d)) hb0 ha1 hqm hm9
    rw [HR.out] at KK
    refine KK.mono ?_
    rintro en w2 ⟨rfl, hf, hsz, hb2, B', q', d', ha2⟩
    have hj2 := hj1.keep B q dq ha1 hf
    have HJ2 := Lib.hid hj2
    have HA2 := Lib.hid ha2
    have HB2 := Lib.hid (hb1.trans hb2)
    have HF2 := Lib.hid (fun k (h1 : k < w.heap.size) (h2 : k ≠ C) (h3 : k ≠ J) (h4 : some k ≠ (Value.slice B q dq).ownBlock) => (hf k (by simpa using h1) h2 h4).trans (Below.heap_setCell w ⟨J, 1, none⟩ (.slice T 0 d) k h3))
    clear hj2 ha2 hf hb2 hsz hj1 ha1 hJ' ho hJC hb1 KK
    go_wp2_with fail
    go_ret
    exact ⟨rfl, HF2.out, HB2.out, ⟨B', q', d', HA2.out⟩, ⟨T, 0, d, HJ2.out⟩⟩
end Go.Proofs.Ytoiplpmjocemfaa
