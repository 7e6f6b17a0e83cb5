/- Put, into what JoinPuts keeps. -/
import Derived.Test.YtoiplpmjocemfaaJpb
namespace Go.Proofs.Ytoiplpmjocemfaa
open Go.ChangeShapes Go.WideShapes Go.ChangeAt Go.RowKit
set_option linter.unusedVariables false
set_option maxRecDepth 100000

set_option maxHeartbeats 4000000 in
theorem putTextP_any (e : Ev) (b0 C N J m : Nat) (B T : Option Addr) (q dq n d : Nat) (o : List Ev) (s tx : List UInt8) (w : World) (hb0 : b0 ≤ C) (hbJ : b0 ≤ J) (ha : OutAt b0 C N m w B q dq o) (h : PutAt b0 C N J w T n d s) (hk : e.kind = 3) (htx : e.tx = ⟨tx.toArray⟩) (hlen : n + tx.length ≤ 140737488355328) :
    Calls Try.prog 48 #[.pointer (some ⟨J, 0, none⟩), evW e] w fun en w' => en = .returned (.int .i64 0) ∧ ∃ T' n' d', OutAt b0 C N m w' B q dq o ∧ PutAt b0 C N J w' T' n' d' (s ++ tx) ∧ Below b0 w w' := by
  obtain ⟨k, sp, lo, at_, A1, c1, tx0⟩ := e
  simp only at hk htx
  subst hk htx
  unfold evW
  simp only
  obtain ⟨i0, hi, hz0, hz1, hz2⟩ := info_parts bByte
  have hJl : J < w.heap.size := (Array.getElem?_eq_some_iff.1 h.cell).1
  have hms : (⟨tx.toArray⟩ : ByteArray).size = tx.length := by simp [ByteArray.size]
  obtain ⟨W1, hW1⟩ : ∃ W1, w.alloc (.cells #[.int .i64 3, .string sp, .string lo, .slice A1 at_.length c1, .string ⟨tx.toArray⟩] 76) = W1 := ⟨_, rfl⟩
  have hbW : Below w.heap.size w W1 := by rw [← hW1]; exact (Below.refl w.heap.size w).alloc (Nat.le_refl _) _
  have hX : W1.heap[w.heap.size]? = some (.cells #[.int .i64 3, .string sp, .string lo, .slice A1 at_.length c1, .string ⟨tx.toArray⟩] 76) := by rw [← hW1]; exact alloc_at w _
  have hJ1 : W1.heap[J]? = _ := (hbW.block J hJl).trans h.cell
  have row1 : W1.drew.ownsRow b0 5 1 (.slice T n d) n (vB s) := (own_below2 h.row hbW).drew
  obtain ⟨v', w2, hr, hown, hgrow, _⟩ := Lib.run_append_own_string (P := Try.prog) (w := W1.drew) b0 116 9 116 5 i0 Try.underlying116 Try.underlying9 hi hz0 hz1 hz2 _ _ _ row1 ⟨tx.toArray⟩ (by rw [hms]; unfold maxLen; omega) (by rw [hms]; exact hlen) (by have := hbW.size; show b0 ≤ W1.heap.size; omega)
  rw [hms] at hown
  obtain ⟨T2, d2, rfl⟩ := own_form2 hown
  have hJ2 := (hgrow.block J (show J < W1.heap.size by have := hbW.size; omega) (fun e => own_ne row1 hJ1 (by decide) J e.symm rfl)).trans hJ1
  have hX2 := (hgrow.block w.heap.size (show w.heap.size < W1.heap.size by rw [← hW1]; simp) (fun e => own_ne row1 hX (by decide) _ e.symm rfl)).trans hX
  have kf := tellNil C N
  have H := Lib.hid h
  have HA := Lib.hid ha
  have a0 := cell_at (k := 0) hJ1 rfl
  have a1 := cell_at (k := 1) hJ1 rfl
  have x0 := cell_at (k := 0) hX rfl
  have x4 := cell_at (k := 4) hX rfl
  have e1 := cell_at (k := 1) hJ2 rfl
  have f1 := froz_at 1 hJ2
  rw [← hW1] at a0 a1 x0 x4 hr
  have a1d : (w.alloc (.cells #[.int .i64 3, .string sp, .string lo, .slice A1 at_.length c1, .string ⟨tx.toArray⟩] 76)).drew.cell? ⟨J, 1, none⟩ = some (.slice T n d) := a1
  have x4d : (w.alloc (.cells #[.int .i64 3, .string sp, .string lo, .slice A1 at_.length c1, .string ⟨tx.toArray⟩] 76)).drew.cell? ⟨w.heap.size, 4, none⟩ = some (.string ⟨tx.toArray⟩) := x4
  have HR := Lib.hid hr
  clear hr
  have HW1 := Lib.hid hW1
  have HO2 := Lib.hid hown
  have HG2 := Lib.hid hgrow
  have HJ2 := Lib.hid hJ2
  have FIN : Hid (∃ T' n' d', OutAt b0 C N m (w2.setCell ⟨J, 1, none⟩ (.slice T2 (n + tx.length) d2)) B q dq o ∧ PutAt b0 C N J (w2.setCell ⟨J, 1, none⟩ (.slice T2 (n + tx.length) d2)) T' n' d' (s ++ tx) ∧ Below b0 w (w2.setCell ⟨J, 1, none⟩ (.slice T2 (n + tx.length) d2))) := by
    have hbs := hbW.size
    have hCl : C < w.heap.size := (Array.getElem?_eq_some_iff.1 ha.cell).1
    obtain ⟨hJC, hJN⟩ := h.ne ha
    have hNl : N < w.heap.size := (Array.getElem?_eq_some_iff.1 ha.num).1
    have hN1 := (hbW.block N hNl).trans ha.num
    have hN2 := (hgrow.block N (show N < W1.heap.size by omega) (fun e => own_ne row1 hN1 (by decide) N e.symm rfl)).trans hN1
    have hC1 := (hbW.block C hCl).trans ha.cell
    have hC2 := (hgrow.block C (show C < W1.heap.size by omega) (fun e => own_ne row1 hC1 (by decide) C e.symm rfl)).trans hC1
    have hset : ∀ k, k < w2.heap.size → some k ≠ some J → (w2.setCell ⟨J, 1, none⟩ (.slice T2 (n + tx.length) d2)).heap[k]? = w2.heap[k]? := fun k _ hk => Below.heap_setCell _ _ _ _ (fun e => hk (by simp [e]))
    have hrow1 : W1.drew.ownsRow b0 76 5 (.slice B q dq) q (evsV o) := (own_below2 ha.row hbW).drew
    have hrow2 := own_frame hrow1 hgrow.block (own_apart hrow1 row1 (by decide))
    refine ⟨T2, n + tx.length, d2, ⟨(Below.heap_setCell _ _ _ _ hJC).trans hC2, (Below.heap_setCell _ _ _ _ hJN).trans hN2, own_frame hrow2 hset (own_ne hrow2 hJ2 (by decide)), ha.len⟩, ⟨set_at (k := 1) _ hJ2, ?_, by rw [List.length_append, h.len]⟩, ?_⟩
    · rw [vB_append]
      exact own_frame hown hset (own_ne hown hJ2 (by decide))
    · exact (((hbW.mono (show b0 ≤ w.heap.size by omega)).drew).grown hgrow (show b0 ≤ W1.heap.size by omega) (fun g hg => (row1.lt g hg).1)).setCell hbJ _
  clear h ha hJ1 hX hJ2 hX2 hown hgrow row1 hW1
  go_enter Try.func48, Try.ntmps48
  go_wp2_with fail
  go_region_law ((with_reducible refine step_append_run2 ?_ (.tmp 22) (.tmp 24) 116 9 ?_ _ _ _ _ ?_ ?_ HR.out ?_); rfl; rfl; rfl; rfl)
  all_goals
    go_wp2_with fail
    go_ret
    exact ⟨rfl, FIN.out⟩
set_option maxHeartbeats 4000000 in
theorem putElseP_any (e : Ev) (b0 C N J m : Nat) (B T : Option Addr) (q dq n d : Nat) (o : List Ev) (s : List UInt8) (w : World) (hb0 : b0 ≤ C) (hbJ : b0 ≤ J) (hbw : b0 ≤ w.heap.size) (ha : OutAt b0 C N m w B q dq o) (h : PutAt b0 C N J w T n d s) (hk : e.kind ≠ 3) (hqm : q ≤ m) (hm9 : m ≤ 4000000) :
    Calls Try.prog 48 #[.pointer (some ⟨J, 0, none⟩), evW e] w fun en w' => en = .returned (.int .i64 (if (flushJ (o, s) ++ [e]).length ≤ m then 0 else 11)) ∧ Below b0 w w' ∧ (∃ B' q' dq', OutAt b0 C N m w' B' q' dq' ((flushJ (o, s) ++ [e]).take m)) ∧ ∃ T' n' d', PutAt b0 C N J w' T' n' d' [] := by
  have hJl : J < w.heap.size := (Array.getElem?_eq_some_iff.1 h.cell).1
  have hCl : C < w.heap.size := (Array.getElem?_eq_some_iff.1 ha.cell).1
  have HE := Lib.hid (fun w' (B' : Option Addr) (q' dq' : Nat) (o' : List Ev) (h1 : OutAt b0 C N m w' B' q' dq' o') (h2 : q' ≤ m) => tell_any e b0 C N m B' q' dq' o' w' hb0 h1 h2 hm9)
  have hbW := (Below.refl w.heap.size w).alloc (Nat.le_refl _) (.cells #[.int .i64 e.kind, .string e.sp, .string e.lo, .slice e.A e.at_.length e.c, .string e.tx] 76)
  have hX := alloc_at w (.cells #[.int .i64 e.kind, .string e.sp, .string e.lo, .slice e.A e.at_.length e.c, .string e.tx] 76)
  have a0 := cell_at (k := 0) ((hbW.block J hJl).trans h.cell) rfl
  have x0 := cell_at (k := 0) hX rfl
  have t1 : (e.kind == 3) = false := by simpa using hk
  have kf := tellNil C N
  have KF' := flushP_any b0 C N J m B T q dq n d o s (w.alloc (.cells #[.int .i64 e.kind, .string e.sp, .string e.lo, .slice e.A e.at_.length e.c, .string e.tx] 76)) hb0 hbJ (ha.below hbW) (h.below hbW) hqm hm9
  have hne : some w.heap.size ≠ (Value.slice B q dq).ownBlock := fun ee => by have := (ha.row.lt _ ee.symm).2; omega
  have HX := Lib.hid hX
  obtain ⟨r1, hr1⟩ : ∃ r : Int, (if (flushJ (o, s)).length ≤ m then (0 : Int) else 11) = r := ⟨_, rfl⟩
  obtain ⟨r2, hr2⟩ : ∃ r : Int, (if (flushJ (o, s) ++ [e]).length ≤ m then (0 : Int) else 11) = r := ⟨_, rfl⟩
  rw [hr1] at KF'
  rw [hr2]
  have KF := Lib.hid KF'
  have HR1 := Lib.hid hr1
  have HR2 := Lib.hid hr2
  obtain ⟨fo, hfo⟩ : ∃ fo, flushJ (o, s) = fo := ⟨_, rfl⟩
  rw [hfo] at KF HR1 HR2
  simp only [hfo]
  unfold evW
  clear h ha hk hX KF' hr1 hr2 hfo
  go_enter Try.func48, Try.ntmps48
  go_wp2_with fail
  refine KF.out.mono ?_
  rintro en w2 ⟨rfl, hf2, hb2, ⟨B2, q2, dq2, ha2⟩, T2, n2, d2, hj2⟩
  have hbw2 : Below b0 w w2 := (hbW.mono hbw).trans hb2
  have hX2 := (hf2 w.heap.size (by simp) (by omega) (by omega) hne).trans HX.out
  have b1 := cell_at (k := 0) hj2.cell rfl
  have y0 := cell_at (k := 0) hX2 rfl
  have y1 := cell_at (k := 1) hX2 rfl
  have y2 := cell_at (k := 2) hX2 rfl
  have y3 := cell_at (k := 3) hX2 rfl
  have y4 := cell_at (k := 4) hX2 rfl
  by_cases hfm : fo.length ≤ m
  · have hr := HR1.out
    rw [if_pos hfm] at hr
    subst hr
    have ht : fo.take m = fo := List.take_of_length_le hfm
    rw [ht] at ha2
    have hql := ha2.len
    have KE' := HE.out w2.drew B2 q2 dq2 fo ha2.drew (by omega)
    have hr3 : (if q2 < m then (0 : Int) else 11) = r2 := by
      rw [← HR2.out, List.length_append, hql]
      simp only [List.length_cons, List.length_nil]
      by_cases hq : q2 < m
      · rw [if_pos hq, if_pos (by omega)]
      · rw [if_neg hq, if_neg (by omega)]
    rw [hr3] at KE'
    have KE := Lib.hid KE'
    have HJ2 := Lib.hid hj2
    have HA2 := Lib.hid ha2
    clear ha2 hj2 hb2 hf2 hX2 KE' hr3 ht
    go_wp2_with fail
    go_region_with (refine KE.out.mono ?_; rintro en w3 ⟨rfl, hf3, hsz3, hb3, B3, q3, d3, ha3⟩)
    all_goals
      have HJ3 := Lib.hid (PutAt.keep HJ2.out.drew B2 q2 dq2 HA2.out.drew hf3)
      have HA3 := Lib.hid ha3
      have HB3 := Lib.hid (hbw2.drew.trans hb3)
      clear ha3 hf3 hsz3 hb3
      go_wp2_with fail
      go_ret
      exact ⟨rfl, HB3.out, ⟨B3, q3, d3, HA3.out⟩, ⟨T2, n2, d2, HJ3.out⟩⟩
  · have hr := HR1.out
    rw [if_neg hfm] at hr
    subst hr
    have hr := HR2.out
    rw [if_neg (by rw [List.length_append]; omega)] at hr
    subst hr
    have ht : (fo ++ [e]).take m = fo.take m := List.take_append_of_le_length (by omega)
    have HT := Lib.hid ht
    have HJ2 := Lib.hid hj2
    have HA2 := Lib.hid ha2
    clear ha2 hj2 hb2 hf2 hX2 ht
    go_wp2_with fail
    go_ret
    exact ⟨rfl, hbw2, ⟨B2, q2, dq2, by rw [HT.out]; exact HA2.out⟩, ⟨T2, n2, d2, HJ2.out⟩⟩
end Go.Proofs.Ytoiplpmjocemfaa
