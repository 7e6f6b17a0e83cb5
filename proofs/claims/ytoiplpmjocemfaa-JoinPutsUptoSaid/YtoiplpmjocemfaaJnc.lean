/- What join.All keeps of an event. -/
import Derived.Test.YtoiplpmjocemfaaJnb
namespace Go.Proofs.Ytoiplpmjocemfaa
open Go.ChangeShapes Go.WideShapes Go.ChangeAt Go.RowKit
set_option linter.unusedVariables false
set_option maxRecDepth 100000

/-- Attributes in blocks of the call's own. -/
def AttsOwn (w : World) (b0 : Nat) (o : List Ev) : Prop := ∀ e ∈ o, w.ownsRow b0 113 3 (.slice e.A e.at_.length e.c) e.at_.length (attsV e.at_) ∧ I64 e.kind
/-- The row that join.All fills, in block C. -/
structure AllAt (b0 C : Nat) (w : World) (B : Option Addr) (q d : Nat) (o : List Ev) : Prop where
  cell : w.heap[C]? = some (.cells #[.slice B q d] 66 (0, 0))
  row : w.ownsRow b0 76 5 (.slice B q d) q (evsV o)
  atts : AttsOwn w b0 o
  len : o.length = q
theorem cell_at {w : World} {C : Nat} {xs : Array Value} {t : TypeId} {f : Nat × Nat} {v : Value} {k : Nat} (h : w.heap[C]? = some (.cells xs t f)) (hv : xs[k]? = some v) : w.cell? ⟨C, k, none⟩ = some v := by
  rw [Lib.cell_of_heap h]; exact hv
theorem froz_at {w : World} {C : Nat} {xs : Array Value} {t : TypeId} (k : Nat) (h : w.heap[C]? = some (.cells xs t (0, 0))) : w.frozen? ⟨C, k, none⟩ = false := by simp [World.frozen?, h]
theorem set_at {w : World} {C k : Nat} {xs : Array Value} {t : TypeId} (v : Value) (h : w.heap[C]? = some (.cells xs t (0, 0))) : (w.setCell ⟨C, k, none⟩ v).heap[C]? = some (.cells (xs.setIfInBounds k v) t (0, 0)) := by simp [World.setCell, Array.getElem?_modify, h]
theorem own_ne {w : World} {base C : Nat} {e t : TypeId} {size n : Nat} {v : Value} {xs : List Value} {cs : Array Value} {f : Nat × Nat} (h : w.ownsRow base e size v n xs) (hC : w.heap[C]? = some (.cells cs t f)) (hne : t ≠ e) : ∀ g, v.ownBlock = some g → some g ≠ some C := by
  intro g hg hgC
  injection hgC with hgC
  subst hgC
  rcases h.2 with ⟨rfl, _⟩ | ⟨g1, c1, cur1, rfl, _, k1, _⟩
  · cases hg
  · obtain rfl : g1 = g := by injection hg
    rw [k1] at hC
    injection hC with hC
    injection hC with _ hC
    exact hne hC.symm
theorem own_base {w : World} {b0 base : Nat} {e : TypeId} {size n : Nat} {v : Value} {xs : List Value} (h : w.ownsRow base e size v n xs) (hb : b0 ≤ base) : w.ownsRow b0 e size v n xs := by
  refine ⟨h.1, ?_⟩
  rcases h.2 with hn | ⟨g, cap, cur, e1, h1, h2⟩
  · exact .inl hn
  · exact .inr ⟨g, cap, cur, e1, by omega, h2⟩
theorem alloc_at (w : World) (o : Obj) : (w.alloc o).heap[w.heap.size]? = some o := by
  show (w.heap.push o)[w.heap.size]? = some o
  exact Array.getElem?_push_size ..
theorem ev_new_at (w : World) (e : Ev) (t : TypeId) (B : Nat) (hB : w.heap.size = B) : ∀ j u, (evsV [e])[j]? = some u → (w.alloc (.cells #[.int .i64 e.kind, .string e.sp, .string e.lo, .slice e.A e.at_.length e.c, .string e.tx] t)).cell? ((⟨B, 0, none⟩ : Addr).add j) = some u := by
  subst hB; exact ev_new w e t
set_option maxHeartbeats 4000000 in
theorem keep1_any (e : Ev) (b0 C : Nat) (B : Option Addr) (q d : Nat) (o : List Ev) (w : World) (hb0 : b0 ≤ C) (h : AllAt b0 C w B q d o) (hq9 : q ≤ 4000000) (he : EvOk w e) (hn9 : e.at_.length ≤ 1000000) :
    Calls Try.prog 70 #[evW e, .pointer (some ⟨C, 0, none⟩)] w fun en w' => en = .returned (.int .i64 0) ∧ ∃ A' c' B' d', AllAt b0 C w' B' (q + 1) d' (o ++ [{ e with A := A', c := c' }]) ∧
      (∀ k, k < w.heap.size → k ≠ C → some k ≠ (Value.slice B q d).ownBlock → w'.heap[k]? = w.heap[k]?) ∧ w.heap.size ≤ w'.heap.size ∧ Below b0 w w' := by
  obtain ⟨k, sp, lo, at_, A1, c1, tx⟩ := e
  unfold evW
  obtain ⟨i0, hi0, hz0, hz1, hz2⟩ := info_parts evInfo
  have hCl : C < w.heap.size := (Array.getElem?_eq_some_iff.1 h.cell).1
  simp only at hn9 ⊢
  have hbW := (Below.refl w.heap.size w).alloc (Nat.le_refl _) (.cells #[.int .i64 k, .string sp, .string lo, .slice A1 at_.length c1, .string tx] 76)
  have KC := Lib.hid (aClone_any (w.alloc (.cells #[.int .i64 k, .string sp, .string lo, .slice A1 at_.length c1, .string tx] 76)) A1 at_.length c1 at_ rfl (by omega) (he.at_.below hbW))
  obtain ⟨z0, z1, z2, z3, z4⟩ := ev_block w _ w.heap.size (.int .i64 k) (.string sp) (.string lo) (.slice A1 at_.length c1) (.string tx) 76 rfl (Below.refl _ _)
  have H := Lib.hid h
  have HWF := Lib.hid he.wf
  clear h he
  go_enter Try.func70, Try.ntmps70
  go_wp2_with fail
  refine KC.out.mono ?_
  rintro en w2 ⟨A2, c2, rfl, hown2, hb2⟩
  have hb2' : Below w.heap.size w w2 := hbW.trans (hb2.mono hbW.size)
  have hX : w2.heap[w.heap.size]? = some (.cells #[.int .i64 k, .string sp, .string lo, .slice A1 at_.length c1, .string tx] 76 (0, 0)) := (hb2.block w.heap.size (by simp)).trans (alloc_at w _)
  have y3 := cell_at (k := 3) hX rfl
  have f3 := froz_at 3 hX
  have hX3 := set_at (k := 3) (.slice A2 at_.length c2) hX
  have hb3 : Below w.heap.size w (w2.setCell ⟨w.heap.size, 3, none⟩ (.slice A2 at_.length c2)) := hb2'.setCell (Nat.le_refl _) _
  have hown3 := own_frame (row := some w.heap.size) hown2 (w' := w2.setCell ⟨w.heap.size, 3, none⟩ (.slice A2 at_.length c2)) (fun k _ hk => Below.heap_setCell _ _ _ _ (fun e => hk (by simp [e]))) (own_ne hown2 hX (by decide))
  have hown3' : (w2.setCell ⟨w.heap.size, 3, none⟩ (.slice A2 at_.length c2)).ownsRow b0 113 3 (.slice A2 at_.length c2) at_.length (attsV at_) := own_base hown3 (by simp; omega)
  have hC3 := (hb3.block C hCl).trans H.out.cell
  have c0 := cell_at (k := 0) hC3 rfl
  have v0 := cell_at (k := 0) hX3 rfl
  have v1 := cell_at (k := 1) hX3 rfl
  have v2 := cell_at (k := 2) hX3 rfl
  have v3 := cell_at (k := 3) hX3 rfl
  have v4 := cell_at (k := 4) hX3 rfl
  have HO3 := Lib.hid (own_below2 H.out.row hb3)
  have HN3 := Lib.hid hown3'
  have hsz3 := hb3.size
  clear hX hown3 hown3' hown2 z0 z1 z2 z3 z4 hX3
  obtain ⟨W3, hW3⟩ : ∃ W3, w2.setCell ⟨w.heap.size, 3, none⟩ (.slice A2 at_.length c2) = W3 := ⟨_, rfl⟩
  have hs23 : W3.heap.size = w2.heap.size := by rw [← hW3]; simp
  have HCL := Lib.hid hCl
  have HAT : Hid (AttsOwn W3 b0 o) := fun e he => ⟨by rw [← hW3]; exact own_below2 (H.out.atts e he).1 hb3, (H.out.atts e he).2⟩
  rw [hW3] at hb3 hC3 HO3 HN3 hsz3
  have HS3 := Lib.hid hW3
  clear hW3
  go_wp2_with (first | (at_builtin; rw [HS3.out]; refine wpList_append_own _ rfl _ _ 66 rfl b0 76 i0 (.agg #[.int .i64 0, .string ⟨#[]⟩, .string ⟨#[]⟩, .slice none 0 0, .string ⟨#[]⟩]) 5 80 Try.underlying66 hi0 hz0 hz1 hz2 rfl (by decide) _ q (evsV o) rfl (HO3.out.alloc _) ⟨w2.heap.size, 0, none⟩ 1 1 (evsV [⟨k, sp, lo, at_, A2, c2, tx⟩]) rfl rfl (ev_new_at W3 ⟨k, sp, lo, at_, A2, c2, tx⟩ _ w2.heap.size hs23) (evsV_one _) (by unfold maxLen; omega) (by omega) (by simp; omega) ?_; intro v' w5 hown5 hgrow5 _; obtain ⟨B5, d5, rfl⟩ := own_form2 hown5; have hC4 := (Below.heap_alloc W3 (.cells #[.int .i64 k, .string sp, .string lo, .slice A2 at_.length c2, .string tx] 76) C (by have := HCL.out; omega)).trans hC3; have hC5 := (hgrow5.block C (by have := HCL.out; simp; omega) (fun e => own_ne (HO3.out.alloc _) hC4 (by decide) C e.symm rfl)).trans hC4; have c5 := cell_at (k := 0) hC5 rfl; have f5 := froz_at 0 hC5; have HO5 := Lib.hid hown5; have HG5 := Lib.hid hgrow5; have HC5 := Lib.hid hC5; clear hown5 hgrow5 hC5 hC4))
  go_ret
  have hg : (W3.alloc (.cells #[.int .i64 k, .string sp, .string lo, .slice A2 at_.length c2, .string tx] 76)).grownBy w5 (Value.slice B q d).ownBlock := HG5.out
  have hgs := hg.size
  simp only [World.size_alloc] at hgs
  have hcl := HCL.out
  have far : ∀ {n : Nat} {v : Value} {xs : List Value}, W3.ownsRow b0 113 3 v n xs → (w5.setCell ⟨C, 0, none⟩ (.slice B5 (q + 1) d5)).ownsRow b0 113 3 v n xs := fun {n v xs} h => by
    have h4 := h.alloc (.cells #[.int .i64 k, .string sp, .string lo, .slice A2 at_.length c2, .string tx] 76)
    have h5 := own_frame h4 hg.block (own_apart h4 (HO3.out.alloc _) (by decide))
    exact own_frame (row := some C) h5 (fun j _ hj => Below.heap_setCell _ _ _ _ (fun e => hj (by simp [e]))) (own_ne h5 HC5.out (by decide))
  refine ⟨rfl, A2, c2, B5, d5, ⟨set_at (k := 0) _ HC5.out, ?_, fun e he => ?_, by rw [List.length_append, H.out.len]; rfl⟩, fun j hj h1 h2 => ?_, by simp; omega, (((hb3.mono (show b0 ≤ w.heap.size by omega)).alloc (by omega) _).grown hg (by simp; omega) (fun g hg' => (HO3.out.lt g hg').1)).setCell hb0 _⟩
  · rw [evsV_append]
    exact own_frame (row := some C) HO5.out (fun j _ hj => Below.heap_setCell _ _ _ _ (fun e => hj (by simp [e]))) (own_ne HO5.out HC5.out (by decide))
  · rcases List.mem_append.1 he with h1 | h1
    · exact ⟨far (HAT.out e h1).1, (HAT.out e h1).2⟩
    · obtain rfl := List.mem_singleton.1 h1
      exact ⟨far HN3.out, HWF.out⟩
  · exact (Below.heap_setCell _ _ _ _ h1).trans ((hg.block j (by simp; omega) h2).trans ((Below.heap_alloc W3 _ j (by omega)).trans (hb3.block j hj)))
end Go.Proofs.Ytoiplpmjocemfaa
