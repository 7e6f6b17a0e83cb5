/- The elements that are open ahead of a place, by the document. -/
import Derived.Test.YtoiplpmjocemfaaDfe
import Derived.Laws.AppendOwnNone
import Derived.Deep.RegionHeld3
import Derived.Deep.AppendLies
namespace Go.Proofs.Ytoiplpmjocemfaa
open Go.ChangeShapes Go.WideShapes Go.ChangeAt Go.RowKit
set_option linter.unusedVariables false
set_option maxRecDepth 100000

section
variable {P : Program} {w : World}
/-- An append whose run is known, as a step of a region that draws its order. -/
theorem step_append_run {ops : Array Oper} {o : Oper} {a : Act} {K : Act → World → Prop} {Q : Exit → Act → World → Prop} {E : Prop} (hgd : o.guard = none) (s x : Operand) (t : TypeId)
    (ho : o.op = .call { callee := .builtin .append, args := #[s, x], argTypes := #[t, t] }) (v xv v' : Value) (w' : World) (hs : a.eval s = v) (hx : a.eval x = xv)
    (hrun : (Builtin.append_ #[t, t] o.type #[v, xv]).run P w = .ok v' w') (h : K (a.put o.dst v') w') : if Region.wanted o (yielded ops a.tmps) = true then Oper.wp P o a w K Q else E := by
  have hw : Region.wanted o (yielded ops a.tmps) = true := by simp [Region.wanted, hgd]
  rw [if_pos hw]
  unfold Oper.wp execOp
  simp only [ho, resolve, invoke, builtin, Sem.run_bind, Sem.run_pure, Result.andThen_ok, List.map_toArray, List.map_cons, List.map_nil, hs, hx, hrun]
  exact h
end
/-- A copy behind an empty row: what append leaves of strings that a row shows. -/
theorem append_copy (w : World) (base : Nat) (A : Option Addr) (n c : Nat) (xs : List ByteArray) (ty : TypeId) (hbase : base ≤ w.heap.size) (hn : xs.length = n) (hn9 : n ≤ 1000000) (hs : Sees w A (sV xs)) (hA : A = none → n = 0 ∧ c = 0)
    (v : Value) (hown : w.ownsRow base 9 1 v 0 []) :
    ∃ A' c' w', (Builtin.append_ #[82, 82] ty #[v, .slice A n c]).run Try.prog w = .ok (.slice A' n c') w' ∧ w'.ownsRow base 9 1 (.slice A' n c') n (sV xs) ∧ w.grownBy w' v.ownBlock ∧
      ((Value.slice A' n c').ownBlock = v.ownBlock ∨ (Value.slice A' n c').ownBlock = some w.heap.size) := by
  obtain ⟨i0, hi0, hz0, hz1, hz2⟩ := info_parts strInfo
  cases A with
  | none =>
    obtain ⟨rfl, rfl⟩ := hA rfl
    obtain rfl := List.eq_nil_of_length_eq_zero hn
    obtain ⟨A1, c1, rfl⟩ := own_form2 hown
    refine ⟨A1, c1, w, ?_, hown, World.grownBy.refl w _, .inl rfl⟩
    rcases hown.2 with ⟨e, _⟩ | ⟨g, cap, cur, e, _, _, hnc, _⟩
    · injection e with e1 _ e2
      subst e1 e2
      simp [Builtin.append_, run_underlying Try.underlying82, sizeOf, typeInfo, hi0, Builtin.lenOf, Builtin.firstCells]
    · injection e with e1 _ e2
      subst e1 e2
      simp [Builtin.append_, run_underlying Try.underlying82, sizeOf, typeInfo, hi0, Builtin.lenOf, Builtin.firstCells, storeCells]
  | some ad =>
    obtain ⟨v', w', hr, h1, h2, _, h3⟩ := run_append_own_at (P := Try.prog) w base 82 ty 9 i0 (.string ⟨#[]⟩) 1 16 Try.underlying82 hi0 hz0 hz1 hz2 rfl (by decide) v 0 [] hown ad n c (sV xs) (by rw [sV_len, hn, Nat.mul_one]) (fun j u hu => by
      obtain ⟨a2, e, h⟩ := hs (by intro h0; rw [h0] at hu; simp at hu)
      injection e with e
      subst e
      exact h j u hu) (sV_one xs) (by unfold maxLen; omega) (by omega) hbase
    rw [Nat.zero_add, List.nil_append] at h1
    obtain ⟨A', c', rfl⟩ := own_form2 h1
    exact ⟨A', c', w', hr, h1, h2, h3⟩
end Go.Proofs.Ytoiplpmjocemfaa
