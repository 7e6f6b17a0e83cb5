/- What JoinPuts is told: its own function, over a row that it keeps. -/
import Derived.Test.YtoiplpmjocemfaaJnf
import Derived.Test.YtoiplpmjocemfaaJnq
namespace Go.Proofs.Ytoiplpmjocemfaa
open Go.ChangeShapes Go.WideShapes Go.ChangeAt Go.RowKit
set_option linter.unusedVariables false
set_option maxRecDepth 100000

/-- The row that JoinPuts fills, in block C, and its bound, in block N. -/
structure OutAt (b0 C N m : Nat) (w : World) (B : Option Addr) (q d : Nat) (o : List Ev) : Prop where
  cell : w.heap[C]? = some (.cells #[.slice B q d] 66 (0, 0))
  num : w.heap[N]? = some (.cells #[.int .i64 m] 3 (0, 0))
  row : w.ownsRow b0 76 5 (.slice B q d) q (evsV o)
  len : o.length = q
theorem OutAt.below {b0 C N m : Nat} {w w' : World} {B : Option Addr} {q d : Nat} {o : List Ev} (h : OutAt b0 C N m w B q d o) (hb : Below w.heap.size w w') : OutAt b0 C N m w' B q d o :=
  ⟨(hb.block C (Array.getElem?_eq_some_iff.1 h.cell).1).trans h.cell, (hb.block N (Array.getElem?_eq_some_iff.1 h.num).1).trans h.num, own_below2 h.row hb, h.len⟩
theorem OutAt.drew {b0 C N m : Nat} {w : World} {B : Option Addr} {q d : Nat} {o : List Ev} (h : OutAt b0 C N m w B q d o) : OutAt b0 C N m w.drew B q d o :=
  ⟨h.cell, h.num, h.row.drew, h.len⟩
theorem OutAt.ne {b0 C N m : Nat} {w : World} {B : Option Addr} {q d : Nat} {o : List Ev} (h : OutAt b0 C N m w B q d o) : N ≠ C := by
  rintro rfl
  have h1 := h.num
  rw [h.cell] at h1
  injection h1 with h1
  injection h1 with _ h1
  exact absurd h1 (by decide)
set_option maxHeartbeats 4000000 in
theorem tell_any (e : Ev) (b0 C N m : Nat) (B : Option Addr) (q d : Nat) (o : List Ev) (w : World) (hb0 : b0 ≤ C) (h : OutAt b0 C N m w B q d o) (hqm : q ≤ m) (hq9 : m ≤ 4000000) :
    Calls Try.prog 47 #[evW e, .pointer (some ⟨C, 0, none⟩), .pointer (some ⟨N, 0, none⟩)] w fun en w' => en = .returned (.int .i64 (if q < m then 0 else 11)) ∧
      (∀ k, k < w.heap.size → k ≠ C → some k ≠ (Value.slice B q d).ownBlock → w'.heap[k]? = w.heap[k]?) ∧ w.heap.size ≤ w'.heap.size ∧ Below b0 w w' ∧ ∃ B' q' d', OutAt b0 C N m w' B' q' d' ((o ++ [e]).take m) := by
  obtain ⟨k, sp, lo, at_, A1, c1, tx⟩ := e
  unfold evW
  obtain ⟨i0, hi0, hz0, hz1, hz2⟩ := info_parts evInfo
  have hCl : C < w.heap.size := (Array.getElem?_eq_some_iff.1 h.cell).1
  simp only
  obtain ⟨W1, hW1⟩ : ∃ W1, w.alloc (.cells #[.int .i64 k, .string sp, .string lo, .slice A1 at_.length c1, .string tx] 76) = W1 := ⟨_, rfl⟩
  have hbW : Below w.heap.size w W1 := by rw [← hW1]; exact (Below.refl w.heap.size w).alloc (Nat.le_refl _) _
  have hX : W1.heap[w.heap.size]? = some (.cells #[.int .i64 k, .string sp, .string lo, .slice A1 at_.length c1, .string tx] 76) := by rw [← hW1]; exact alloc_at w _
  have h1 := h.below hbW
  have c0 := cell_at (k := 0) h1.cell rfl
  have n0 := cell_at (k := 0) h1.num rfl
  have v0 := cell_at (k := 0) hX rfl
  have v1 := cell_at (k := 1) hX rfl
  have v2 := cell_at (k := 2) hX rfl
  have v3 := cell_at (k := 3) hX rfl
  have v4 := cell_at (k := 4) hX rfl
  have hs1 : W1.heap.size = w.heap.size + 1 := by rw [← hW1]; simp
  have H := Lib.hid h
  have H1 := Lib.hid h1
  have HNE := Lib.hid h.ne
  have HBW := Lib.hid hbW
  rw [← hW1] at c0 n0 v0 v1 v2 v3 v4
  by_cases hlt : q < m
  · have g1 : ¬ ((m : Int) ≤ (q : Int)) := by omega
    have HS1 := Lib.hid hW1
    have HZ1 := Lib.hid hs1
    clear h h1 hX hW1 hbW hs1
    rw [if_pos hlt]
    go_enter Try.func47, Try.ntmps47
    go_wp2_with (first | (at_builtin; rw [HS1.out]; refine wpList_append_own _ rfl _ _ 66 rfl b0 76 i0 (.agg #[.int .i64 0, .string ⟨#[]⟩, .string ⟨#[]⟩, .slice none 0 0, .string ⟨#[]⟩]) 5 80 Try.underlying66 hi0 hz0 hz1 hz2 rfl (by decide) _ q (evsV o) rfl (H1.out.row.alloc _) ⟨w.heap.size + 1, 0, none⟩ 1 1 (evsV [⟨k, sp, lo, at_, A1, c1, tx⟩]) rfl rfl (ev_new_at W1 ⟨k, sp, lo, at_, A1, c1, tx⟩ _ (w.heap.size + 1) HZ1.out) (evsV_one _) (by unfold maxLen; omega) (by omega) (by have := HZ1.out; simp; omega) ?_; intro v' w5 hown5 hgrow5 _; obtain ⟨B5, d5, rfl⟩ := own_form2 hown5; have hC4 := (Below.heap_alloc W1 (.cells #[.int .i64 k, .string sp, .string lo, .slice A1 at_.length c1, .string tx] 76) C (by have := HZ1.out; omega)).trans H1.out.cell; have hC5 := (hgrow5.block C (by have := HZ1.out; simp; omega) (fun e => own_ne (H1.out.row.alloc _) hC4 (by decide) C e.symm rfl)).trans hC4; have c5 := cell_at (k := 0) hC5 rfl; have f5 := froz_at 0 hC5; have HO5 := Lib.hid hown5; have HG5 := Lib.hid hgrow5; have HC5 := Lib.hid hC5; clear hown5 hgrow5 hC5 hC4))
    go_ret
    have hg : (W1.alloc (.cells #[.int .i64 k, .string sp, .string lo, .slice A1 at_.length c1, .string tx] 76)).grownBy w5 (Value.slice B q d).ownBlock := HG5.out
    have hgs := hg.size
    simp only [World.size_alloc] at hgs
    have hz := HZ1.out
    have hNl : N < w.heap.size := (Array.getElem?_eq_some_iff.1 H.out.num).1
    have hN4 := (Below.heap_alloc W1 (.cells #[.int .i64 k, .string sp, .string lo, .slice A1 at_.length c1, .string tx] 76) N (by omega)).trans H1.out.num
    have hN5 := (hg.block N (by simp; omega) (fun e => own_ne (H1.out.row.alloc _) hN4 (by decide) N e.symm rfl)).trans hN4
    have hb5 : Below b0 w w5 := (((HBW.out.mono (show b0 ≤ w.heap.size by omega)).alloc (by omega) _).grown hg (by simp; omega) (fun g hg' => (H1.out.row.lt g hg').1))
    have hln : (o ++ [(⟨k, sp, lo, at_, A1, c1, tx⟩ : Ev)]).length ≤ m := by rw [List.length_append, H.out.len]; simp; omega
    refine ⟨rfl, fun j hj h1 h2 => ?_, by simp; omega, hb5.setCell hb0 _, B5, q + 1, d5, ⟨set_at (k := 0) _ HC5.out, (Below.heap_setCell _ _ _ _ HNE.out).trans hN5, ?_, by rw [List.take_of_length_le hln, List.length_append, H.out.len]; rfl⟩⟩
    rotate_left
    · rw [List.take_of_length_le hln, evsV_append]
      exact own_frame (row := some C) HO5.out (fun j _ hj => Below.heap_setCell _ _ _ _ (fun e => hj (by simp [e]))) (own_ne HO5.out HC5.out (by decide))
    · exact (Below.heap_setCell _ _ _ _ h1).trans ((hg.block j (by simp; omega) h2).trans ((Below.heap_alloc W1 _ j (by omega)).trans (HBW.out.block j hj)))
  · have g1 : (m : Int) ≤ (q : Int) := by omega
    have hqm' : q = m := by omega
    rw [hW1] at c0 n0 v0 v1 v2 v3 v4
    clear h h1 hX hbW
    rw [← hW1] at c0 n0 v0 v1 v2 v3 v4
    have HS1 := Lib.hid hW1
    clear hW1
    rw [if_neg hlt]
    go_enter Try.func47, Try.ntmps47
    go_wp2_with fail
    go_ret
    rw [HS1.out]
    have hl : (o ++ [(⟨k, sp, lo, at_, A1, c1, tx⟩ : Ev)]).take m = o := by rw [List.take_append_of_le_length (by rw [H.out.len]; omega), List.take_of_length_le (by rw [H.out.len]; omega)]
    exact ⟨rfl, fun j hj _ _ => HBW.out.block j hj, HBW.out.size, HBW.out.mono (by omega), B, q, d, by rw [hl]; exact H1.out⟩
end Go.Proofs.Ytoiplpmjocemfaa
