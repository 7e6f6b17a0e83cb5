/- Put of a text, into what join.All keeps. -/
import Derived.Test.YtoiplpmjocemfaaJnd
import Derived.Lib.AppendStr
import Derived.Deep.RegionLaw
namespace Go.Proofs.Ytoiplpmjocemfaa
open Go.ChangeShapes Go.WideShapes Go.ChangeAt Go.RowKit
set_option linter.unusedVariables false
set_option maxRecDepth 100000

section
variable {P : Program} {w : World}
/-- An append whose run is known, as a step of a region that draws its order. -/
theorem step_append_run2 {ops : Array Oper} {o : Oper} {a : Act} {K : Act → World → Prop} {Q : Exit → Act → World → Prop} {E : Prop} (hgd : o.guard = none) (s x : Operand) (t u : TypeId)
    (ho : o.op = .call { callee := .builtin .append, args := #[s, x], argTypes := #[t, u] }) (v xv v' : Value) (w' : World) (hs : a.eval s = v) (hx : a.eval x = xv)
    (hrun : (Builtin.append_ #[t, u] o.type #[v, xv]).run P w = .ok v' w') (h : K (a.put o.dst v') w') : if Region.wanted o (yielded ops a.tmps) = true then Oper.wp P o a w K Q else E := by
  have hw : Region.wanted o (yielded ops a.tmps) = true := by simp [Region.wanted, hgd]
  rw [if_pos hw]
  unfold Oper.wp execOp
  simp only [ho, resolve, invoke, builtin, Sem.run_bind, Sem.run_pure, Result.andThen_ok, List.map_toArray, List.map_cons, List.map_nil, hs, hx, hrun]
  exact h
end
set_option maxHeartbeats 4000000 in
theorem putText_any (e : Ev) (b0 C J : Nat) (B T : Option Addr) (q dq n d : Nat) (o : List Ev) (s tx : List UInt8) (w : World) (hb0 : b0 ≤ C) (hbJ : b0 ≤ J) (ha : AllAt b0 C w B q dq o) (h : JoinAt b0 C J w T n d s) (hk : e.kind = 3) (htx : e.tx = ⟨tx.toArray⟩) (hlen : n + tx.length ≤ 140737488355328) :
    Calls Try.prog 48 #[.pointer (some ⟨J, 0, none⟩), evW e] w fun en w' => en = .returned (.int .i64 0) ∧ ∃ T' n' d', AllAt b0 C w' B q dq o ∧ JoinAt b0 C J w' T' n' d' (s ++ tx) ∧ Below b0 w w' := by
  obtain ⟨k, sp, lo, at_, A1, c1, tx0⟩ := e
  simp only at hk htx
  subst hk htx
  unfold evW
  simp only
  obtain ⟨i0, hi, hz0, hz1, hz2⟩ := info_parts bByte
  have hJl : J < w.heap.size := (Array.getElem?_eq_some_iff.1 h.cell).1
  have hms : (⟨tx.toArray⟩ : ByteArray).size = tx.length := by simp [ByteArray.size]
  obtain ⟨W1, hW1⟩ : ∃ W1, w.alloc (.cells #[.int .i64 3, .string sp, .string lo, .slice A1 at_.length c1, .string ⟨tx.toArray⟩] 76) = W1 := ⟨_, rfl⟩
  have hbW : Below w.heap.size w W1 := by rw [← hW1]; exact (Below.refl w.heap.size w).alloc (Nat.le_refl _) _
  have hX : W1.heap[w.heap.size]? = some (.cells #[.int .i64 3, .string sp, .string lo, .slice A1 at_.length c1, .string ⟨tx.toArray⟩] 76) := by rw [← hW1]; exact alloc_at w _
  have hJ1 : W1.heap[J]? = _ := (hbW.block J hJl).trans h.cell
  have row1 : W1.drew.ownsRow b0 5 1 (.slice T n d) n (vB s) := (own_below2 h.row hbW).drew
  obtain ⟨v', w2, hr, hown, hgrow, _⟩ := Lib.run_append_own_string (P := Try.prog) (w := W1.drew) b0 116 9 116 5 i0 Try.underlying116 Try.underlying9 hi hz0 hz1 hz2 _ _ _ row1 ⟨tx.toArray⟩ (by rw [hms]; unfold maxLen; omega) (by rw [hms]; exact hlen) (by have := hbW.size; show b0 ≤ W1.heap.size; omega)
  rw [hms] at hown
  obtain ⟨T2, d2, rfl⟩ := own_form2 hown
  have hJ2 := (hgrow.block J (show J < W1.heap.size by have := hbW.size; omega) (fun e => own_ne row1 hJ1 (by decide) J e.symm rfl)).trans hJ1
  have hX2 := (hgrow.block w.heap.size (show w.heap.size < W1.heap.size by rw [← hW1]; simp) (fun e => own_ne row1 hX (by decide) _ e.symm rfl)).trans hX
  have kf := keepNil C
  have H := Lib.hid h
  have HA := Lib.hid ha
  have a0 := cell_at (k := 0) hJ1 rfl
  have a1 := cell_at (k := 1) hJ1 rfl
  have x0 := cell_at (k := 0) hX rfl
  have x4 := cell_at (k := 4) hX rfl
  have e1 := cell_at (k := 1) hJ2 rfl
  have f1 := froz_at 1 hJ2
  rw [← hW1] at a0 a1 x0 x4 hr
  have a1d : (w.alloc (.cells #[.int .i64 3, .string sp, .string lo, .slice A1 at_.length c1, .string ⟨tx.toArray⟩] 76)).drew.cell? ⟨J, 1, none⟩ = some (.slice T n d) := a1
  have x4d : (w.alloc (.cells #[.int .i64 3, .string sp, .string lo, .slice A1 at_.length c1, .string ⟨tx.toArray⟩] 76)).drew.cell? ⟨w.heap.size, 4, none⟩ = some (.string ⟨tx.toArray⟩) := x4
  have HR := Lib.hid hr
  clear hr
  have HW1 := Lib.hid hW1
  have HO2 := Lib.hid hown
  have HG2 := Lib.hid hgrow
  have HJ2 := Lib.hid hJ2
  have FIN : Hid (∃ T' n' d', AllAt b0 C (w2.setCell ⟨J, 1, none⟩ (.slice T2 (n + tx.length) d2)) B q dq o ∧ JoinAt b0 C J (w2.setCell ⟨J, 1, none⟩ (.slice T2 (n + tx.length) d2)) T' n' d' (s ++ tx) ∧ Below b0 w (w2.setCell ⟨J, 1, none⟩ (.slice T2 (n + tx.length) d2))) := by
    have hbs := hbW.size
    have hCl : C < w.heap.size := (Array.getElem?_eq_some_iff.1 ha.cell).1
    have hJC : C ≠ J := by
      rintro rfl
      have h1 := h.cell
      rw [ha.cell] at h1
      injection h1 with h1
      injection h1 with _ h1
      exact absurd h1 (by decide)
    have hC1 := (hbW.block C hCl).trans ha.cell
    have hC2 := (hgrow.block C (show C < W1.heap.size by omega) (fun e => own_ne row1 hC1 (by decide) C e.symm rfl)).trans hC1
    have hset : ∀ k, k < w2.heap.size → some k ≠ some J → (w2.setCell ⟨J, 1, none⟩ (.slice T2 (n + tx.length) d2)).heap[k]? = w2.heap[k]? := fun k _ hk => Below.heap_setCell _ _ _ _ (fun e => hk (by simp [e]))
    have hrow1 : W1.drew.ownsRow b0 76 5 (.slice B q dq) q (evsV o) := (own_below2 ha.row hbW).drew
    have hrow2 := own_frame hrow1 hgrow.block (own_apart hrow1 row1 (by decide))
    refine ⟨T2, n + tx.length, d2, ⟨(Below.heap_setCell _ _ _ _ hJC).trans hC2, own_frame hrow2 hset (own_ne hrow2 hJ2 (by decide)), fun e he => ?_, ha.len⟩, ⟨set_at (k := 1) _ hJ2, ?_, by rw [List.length_append, h.len]⟩, ?_⟩
    · have ht1 : W1.drew.ownsRow b0 113 3 _ _ _ := (own_below2 (ha.atts e he).1 hbW).drew
      have ht2 := own_frame ht1 hgrow.block (own_apart ht1 row1 (by decide))
      exact ⟨own_frame ht2 hset (own_ne ht2 hJ2 (by decide)), (ha.atts e he).2⟩
    · rw [vB_append]
      exact own_frame hown hset (own_ne hown hJ2 (by decide))
    · exact (((hbW.mono (show b0 ≤ w.heap.size by omega)).drew).grown hgrow (show b0 ≤ W1.heap.size by omega) (fun g hg => (row1.lt g hg).1)).setCell hbJ _
  clear h ha hJ1 hX hJ2 hX2 hown hgrow row1 hW1
  go_enter Try.func48, Try.ntmps48
  go_wp2_with fail
  go_region_law ((with_reducible refine step_append_run2 ?_ (.tmp 22) (.tmp 24) 116 9 ?_ _ _ _ _ ?_ ?_ HR.out ?_); rfl; rfl; rfl; rfl)
  all_goals
    go_wp2_with fail
    go_ret
    exact ⟨rfl, FIN.out⟩
end Go.Proofs.Ytoiplpmjocemfaa
