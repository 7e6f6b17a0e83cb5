/- A slice that reads as a list of values of one cell each: nil, empty and other slices alike; and its pieces. -/
import Derived.Test.YtdmfladcldkmeaaDoorRows
import Derived.WalkKit
import Derived.WalkSpells
import Derived.WalkLawsBesides
import Derived.ProofKit
import Derived.OpenShut
import Derived.Lib.Hide
import Derived.Below
import Derived.Deep.QuietTactic
import Derived.BigQuiet
import Derived.LoopTactic
import Derived.Outline
namespace Go.Proofs.YtdmfladcldkmeaaDoor
open Go.ChangeShapes Go.WideShapes Go.ChangeAt Go.RowKit
set_option linter.unusedVariables false

theorem ret_int {k : IntKind} {a b : Int} (h : a = b) : Ending.returned (.int k a) = .returned (.int k b) := by rw [h]
theorem ret_bool {a b : Bool} (h : a = b) : Ending.returned (.bool a) = .returned (.bool b) := by rw [h]
/-- An int of 64 bits. -/
def I64 (a : Int) : Prop := -9223372036854775808 ≤ a ∧ a ≤ 9223372036854775807
theorem i64_of_wf {a : Int} (h : (Lit.int .i64 a).wf = true) : I64 a := bounds_i64 h

theorem addr_add_block (a : Addr) (n : Nat) : (a.add n).block = a.block := by unfold Addr.add; split <;> rfl
theorem addr_add_add (a : Addr) (i j : Nat) : (a.add i).add j = a.add (i + j) := by
  unfold Addr.add
  by_cases hi : i = 0 <;> by_cases hj : j = 0 <;> simp [hi, hj, Nat.add_assoc]

/-- The slice at address A shows the values us, one by one. -/
def Sees (w : World) (A : Option Addr) (us : List Value) : Prop :=
  us ≠ [] → ∃ ad, A = some ad ∧ ∀ j u, us[j]? = some u → w.cell? (ad.add j) = some u

theorem sees_nil (w : World) (A : Option Addr) : Sees w A [] := fun h => absurd rfl h
theorem Sees.at {w : World} {A : Option Addr} {us : List Value} (h : Sees w A us) {k : Nat} (hk : k < us.length) :
    ∃ ad u, A = some ad ∧ us[k]? = some u ∧ w.cell? (ad.add k) = some u := by
  obtain ⟨ad, e, hc⟩ := h (by intro h0; rw [h0] at hk; simp at hk)
  exact ⟨ad, us[k], e, List.getElem?_eq_getElem hk, hc k _ (List.getElem?_eq_getElem hk)⟩
theorem Sees.take {w : World} {A : Option Addr} {us : List Value} (h : Sees w A us) (k : Nat) : Sees w A (us.take k) := by
  intro hne
  obtain ⟨ad, e, hc⟩ := h (by intro h0; rw [h0] at hne; simp at hne)
  refine ⟨ad, e, fun j u hu => hc j u ?_⟩
  rw [List.getElem?_take] at hu
  split at hu
  · exact hu
  · cases hu
theorem Sees.drop {w : World} {A : Option Addr} {us : List Value} (h : Sees w A us) {k cap : Nat} (hk : us.length ≤ cap) :
    Sees w (if cap = k then A else A.map (·.add k)) (us.drop k) := by
  intro hne
  have hlt : k < us.length := by
    rcases Nat.lt_or_ge k us.length with h1 | h1
    · exact h1
    · exact absurd (List.drop_eq_nil_of_le h1) hne
  obtain ⟨ad, e, hc⟩ := h (by intro h0; rw [h0] at hlt; simp at hlt)
  rw [if_neg (by omega), e]
  refine ⟨ad.add k, rfl, fun j u hu => ?_⟩
  rw [addr_add_add]
  exact hc _ u (by rw [← hu, List.getElem?_drop])
theorem Sees.below {w w' : World} {A : Option Addr} {us : List Value} (h : Sees w A us) (hb : Below w.heap.size w w') : Sees w' A us := by
  intro hne
  obtain ⟨ad, e, hc⟩ := h hne
  exact ⟨ad, e, fun j u hu => cell_later hb (hc j u hu)⟩
theorem below_dr {B : Nat} {a w : World} (h : Below B a w) (n : Nat) : Below B a (w.drewN n) := ⟨h.os, h.tape, h.output, h.size, h.block⟩
/-- The elements of a row of integers that came in, as the shells tell of it. -/
theorem sees_row {k : IntKind} {w : World} {x : Addr} {len cap : Nat} {zs : List Int} (hz : zs.length = cap) (hl : len ≤ cap)
    (hc : ∀ i, i < zs.length → w.cell? (x.add i) = some (.int k (zs.getD i 0))) : (zs.take len).length = len ∧ Sees w (some x) ((zs.take len).map (Value.int k)) := by
  refine ⟨by rw [List.length_take]; omega, fun _ => ⟨x, rfl, fun j u hu => ?_⟩⟩
  rw [List.getElem?_map, List.getElem?_take] at hu
  split at hu
  · have hj : j < zs.length := by omega
    rw [List.getElem?_eq_getElem hj] at hu
    rw [hc j hj, List.getD_eq_getElem?_getD, List.getElem?_eq_getElem hj]
    simpa using hu
  · cases hu
theorem sees_lit (w : World) (l : List Value) (t : TypeId) (f : Nat × Nat) : Sees (w.alloc (.cells l.toArray t f)) (some ⟨w.heap.size, 0, none⟩) l := by
  intro _
  refine ⟨_, rfl, fun j u h => ?_⟩
  have e : (⟨w.heap.size, 0, none⟩ : Addr).add j = ⟨w.heap.size, j, none⟩ := by
    unfold Addr.add; split
    · next h0 => rw [h0]
    · simp
  have hh : (w.alloc (.cells l.toArray t f)).heap[w.heap.size]? = some (.cells l.toArray t f) := by
    show (w.heap.push _)[w.heap.size]? = _
    simp
  rw [e]
  unfold World.cell?
  rw [hh]
  simpa using h
theorem Sees.drewN {w : World} {A : Option Addr} {us : List Value} (h : Sees w A us) (n : Nat) : Sees (w.drewN n) A us := h
/-- A callee's contract that states the caller's world on the left, met in a region whose order is open. -/
theorem quiet_l {P : Program} {f : FuncId} {args : Array Value} {w : World} {n : Nat} {v : Value}
    (h : Calls P f args (w.drewN n) fun e w' => e = .returned v ∧ w.drewN n = w') : Calls P f args (w.drewN n) fun e w'' => e = .returned v ∧ ∃ m, w'' = w.drewN m :=
  h.mono fun _ _ ⟨he, hm⟩ => ⟨he, n, hm.symm⟩
theorem quiet_ll {P : Program} {f : FuncId} {args : Array Value} {w : World} {a n : Nat} {v : Value}
    (h : Calls P f args (w.drewN (a + n)) fun e w' => e = .returned v ∧ w.drewN (a + n) = w') :
    Calls P f args (w.drewN (a + n)) fun e w'' => e = .returned v ∧ ∃ m, w'' = w.drewN (a + m) :=
  h.mono fun _ _ ⟨he, hm⟩ => ⟨he, n, hm.symm⟩
end Go.Proofs.YtdmfladcldkmeaaDoor
