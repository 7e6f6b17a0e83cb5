/- Names: is a text wholly a name? -/
import Derived.Test.YtdmfladcldkmeaaDoorName
import Derived.Laws.IdiomStrings
import Derived.Laws.AppendOwn
import Derived.MapKept
namespace Go.Proofs.YtdmfladcldkmeaaDoor
open Go.ChangeShapes Go.WideShapes Go.ChangeAt Go.RowKit
set_option linter.unusedVariables false
set_option maxRecDepth 100000

/-- Is the text wholly such a row? -/
def wholeB (l : List UInt8) (p q : Int → Bool) : Bool := !l.isEmpty && decide (endN l q l.length p 0 = l.length)
abbrev strV (l : List UInt8) : Value := .string ⟨l.toArray⟩
/-- The slice that '[]byte(s)' makes. -/
theorem made_sees (W : World) (l : List UInt8) (t : TypeId) (f : Nat × Nat) (cap b : Nat) (hb : W.heap.size = b) : Sees ((W.alloc (.cells (bytesRow ⟨l.toArray⟩ cap) t f)).drew) (some ⟨b, 0, none⟩) (vB l) := by
  subst hb
  intro hne
  refine ⟨_, rfl, fun j u hu => ?_⟩
  have hj : j < l.length := by
    have := (List.getElem?_eq_some_iff.1 hu).1
    rwa [vB_len] at this
  have e : (⟨W.heap.size, 0, none⟩ : Addr).add j = ⟨W.heap.size, j, none⟩ := by
    unfold Addr.add; split
    · next h0 => rw [h0]
    · simp
  rw [e]
  have e2 : ((W.alloc (.cells (bytesRow ⟨l.toArray⟩ cap) t f)).drew).cell? ⟨W.heap.size, j, none⟩ = (bytesRow ⟨l.toArray⟩ cap)[j]? := by
    show (W.alloc (.cells (bytesRow ⟨l.toArray⟩ cap) t f)).cell? ⟨W.heap.size, j, none⟩ = _
    unfold World.cell?
    rw [heap_alloc_new]
    simp
  rw [e2]
  unfold bytesRow
  rw [Array.getElem?_append_left (by simp; exact hj)]
  rw [← hu]
  unfold vB
  simp
theorem below_bytes {B : Nat} {a W : World} (h : Below B a W) (hB : B ≤ W.heap.size) (o : Obj) : Below B a (W.drew.alloc o) := (h.drew).alloc hB o

set_option maxHeartbeats 1000000 in
theorem whole_any (l : List UInt8) (w : World) (F G : Nat) (cf cg : Array Value) (p q : Int → Bool) (hl : l.length ≤ 1000000)
    (hF : Enters F) (hG : Enters G) (tF : Tells F cf p w.heap.size w) (tG : Tells G cg q w.heap.size w) :
    Calls Tryd.prog 105 #[.agg #[.func (.func F) #[] cf, .func (.func G) #[] cg], strV l] w fun e w' =>
      e = .returned (.bool (wholeB l p q)) ∧ Below w.heap.size w w' := by
  by_cases h0 : l = []
  · subst h0
    go_enter Tryd.func105, Tryd.ntmps105
    go_wp2_with fail
    go_ret
    exact ⟨rfl, (Below.refl _ _).alloc (Nat.le_refl _) _⟩
  · have H := fun (w' : World) (cap : Nat) (A : Option Addr) (hb : Below w.heap.size w w') (hs : Sees w' A (vB l)) (h1 : l.length ≤ cap) (h2 : cap ≤ maxLen) =>
      end_any l A l.length cap 0 w' F G cf cg p q rfl h1 (by unfold maxLen at h2; omega) (Nat.zero_le _) hs hF hG (fun r w'' hb' => tF r w'' (hb.trans (hb'.mono hb.size))) (fun r w'' hb' => tG r w'' (hb.trans (hb'.mono hb.size)))
    have hie : l.isEmpty = false := List.isEmpty_eq_false_iff.2 h0
    have hw : wholeB l p q = decide (endN l q l.length p 0 = l.length) := by
      unfold wholeB; rw [List.isEmpty_eq_false_iff.2 h0]; rfl
    rw [hw]
    obtain ⟨z, hz⟩ : ∃ z, endN l q l.length p 0 = z := ⟨_, rfl⟩
    rw [hz] at H ⊢
    have HH := Lib.hid H
    clear H hw hz
    have kc := fun W => run_bytes_of_string (P := Tryd.prog) W 9 36 5 ⟨l.toArray⟩ Tryd.underlying9 Tryd.underlying36 Tryd.underlying5
    go_enter Tryd.func105, Tryd.ntmps105
    go_wp2_with fail
    have hcg := grownCap_ge (w.alloc (.cells #[.func (.func F) #[] cf, .func (.func G) #[] cg] 153)) l.length 0 5
    have hcl := grownCap_le_maxLen (w.alloc (.cells #[.func (.func F) #[] cf, .func (.func G) #[] cg] 153)) l.length 0 5 (by unfold maxLen; omega)
    have hB : Below w.heap.size w (w.alloc (.cells #[.func (.func F) #[] cf, .func (.func G) #[] cg] 153)) := (Below.refl _ _).alloc (Nat.le_refl _) _
    have hB2 := fun o => (hB.alloc (by simp) o).drew
    refine (HH.out _ _ _ (hB2 _) (made_sees _ l _ _ _ _ (by simp)) hcg hcl).mono ?_
    rintro e w2 ⟨rfl, hb⟩
    go_wp2_with fail
    go_ret
    exact ⟨ret_bool (by rw [Bool.eq_iff_iff]; simp; try omega), (hB2 _).trans (hb.mono (hB2 _).size)⟩
end Go.Proofs.YtdmfladcldkmeaaDoor
