/- A slice of events that came in, read as a list. -/
import Derived.Test.YtoiplpmjocemfaaEvt
import Derived.Deep.Slices
import Derived.ChangeSame
namespace Go.Proofs.Ytoiplpmjocemfaa
open Go.ChangeShapes Go.WideShapes Go.ChangeAt Go.RowKit
set_option linter.unusedVariables false
set_option maxRecDepth 100000

/-- Where a value lies in rows of k cells each. -/
theorem flat_get {α : Type} {C : α → List Value} {k : Nat} (hk : 0 < k) (hC : ∀ x, (C x).length = k) : ∀ (l : List α) (j : Nat) (u : Value), (l.flatMap C)[j]? = some u → ∃ (i r : Nat) (x : α), l[i]? = some x ∧ j = i * k + r ∧ r < k ∧ (C x)[r]? = some u
  | [], j, u, h => by simp at h
  | x :: l, j, u, h => by
    rw [List.flatMap_cons] at h
    by_cases hj : j < k
    · rw [List.getElem?_append_left (by rw [hC]; exact hj)] at h
      exact ⟨0, j, x, rfl, by omega, hj, h⟩
    · rw [List.getElem?_append_right (by rw [hC]; omega), hC] at h
      obtain ⟨i, r, y, h1, h2, h3, h4⟩ := flat_get hk hC l (j - k) u h
      exact ⟨i + 1, r, y, by simpa using h1, by rw [Nat.add_mul]; omega, h3, h4⟩
theorem sees_rows {α : Type} [Inhabited α] {C : α → List Value} {k len : Nat} {w : World} {a : Addr} (hk : 0 < k) (hC : ∀ x, (C x).length = k) (h : ∀ i, i < len → ∃ x, ∀ j, j < k → w.cell? (a.add (i * k + j)) = (C x)[j]?) :
    ∃ l : List α, l.length = len ∧ Sees w (some a) (l.flatMap C) ∧ ∀ i x, l[i]? = some x → ∀ j, j < k → w.cell? (a.add (i * k + j)) = (C x)[j]? := by
  obtain ⟨f, hf⟩ := Go.Deep.choose_lt h
  have key : ∀ i x, ((List.range len).map f)[i]? = some x → i < len ∧ x = f i := by
    intro i x hx
    rw [List.getElem?_map] at hx
    by_cases hi : i < len
    · rw [List.getElem?_range hi] at hx
      exact ⟨hi, (Option.some.inj hx).symm⟩
    · rw [List.getElem?_eq_none (by simpa using hi)] at hx
      cases hx
  refine ⟨(List.range len).map f, by simp, fun _ => ⟨a, rfl, fun j u hu => ?_⟩, fun i x hx j hj => ?_⟩
  · obtain ⟨i, r, x, h1, rfl, h3, h4⟩ := flat_get hk hC _ j u hu
    obtain ⟨hi, rfl⟩ := key i x h1
    rw [hf i hi r h3, h4]
  · obtain ⟨hi, rfl⟩ := key i x hx
    exact hf i hi j hj
section
variable {H : Type} {enc : TypeId × Value → H} {W : World} {base : Nat} {spare : Nat → Bool} {held : Bool}
theorem open_name {fuel : Nat} {cs : List Value} {x : DataW H × List MemPlace} (h : DataW.trod enc Try.prog W base spare held fuel 73 cs = some x) : ∃ s t : ByteArray, cs = [.string s, .string t] := by
  obtain ⟨xs, n, _, _, hl, hxl, hf⟩ := DataW.trod_struct Try.underlying73 h
  rw [show Try.prog.cellsOf 73 = 2 by kernel_rfl] at hl
  match cs, hl with
  | [c0, c1], _ =>
    have h0 : DataW.trod enc Try.prog W base spare held n 9 (([c0, c1].drop 0).take (Try.prog.cellsOf 9)) = xs[0]? := hf 0 _ rfl
    have h1 : DataW.trod enc Try.prog W base spare held n 9 (([c0, c1].drop 1).take (Try.prog.cellsOf 9)) = xs[1]? := hf 1 _ rfl
    rw [show Try.prog.cellsOf 9 = 1 by kernel_rfl, List.getElem?_eq_getElem (by rw [hxl]; decide)] at h0 h1
    obtain ⟨s, e0, _⟩ := DataW.trod_string Try.underlying9 h0
    obtain ⟨t, e1, _⟩ := DataW.trod_string Try.underlying9 h1
    simp at e0 e1
    exact ⟨s, t, by rw [e0, e1]⟩
theorem open_att {fuel : Nat} {cs : List Value} {x : DataW H × List MemPlace} (h : DataW.trod enc Try.prog W base spare held fuel 113 cs = some x) : ∃ a : Att, cs = aC a := by
  obtain ⟨xs, n, _, _, hl, hxl, hf⟩ := DataW.trod_struct Try.underlying113 h
  rw [show Try.prog.cellsOf 113 = 3 by kernel_rfl] at hl
  match cs, hl with
  | [c0, c1, c2], _ =>
    have h0 : DataW.trod enc Try.prog W base spare held n 73 (([c0, c1, c2].drop 0).take (Try.prog.cellsOf 73)) = xs[0]? := hf 0 _ rfl
    have h1 : DataW.trod enc Try.prog W base spare held n 9 (([c0, c1, c2].drop 2).take (Try.prog.cellsOf 9)) = xs[1]? := hf 1 _ rfl
    rw [show Try.prog.cellsOf 73 = 2 by kernel_rfl, List.getElem?_eq_getElem (by rw [hxl]; decide)] at h0
    rw [show Try.prog.cellsOf 9 = 1 by kernel_rfl, List.getElem?_eq_getElem (by rw [hxl]; decide)] at h1
    obtain ⟨s, t, e0⟩ := open_name h0
    obtain ⟨v, e1, _⟩ := DataW.trod_string Try.underlying9 h1
    simp at e0 e1
    exact ⟨(s, t, v), by rw [e0.1, e0.2, e1]; rfl⟩
theorem open_atts {fuel : Nat} {cs : List Value} {x : DataW H × List MemPlace} (h : DataW.trod enc Try.prog W base spare held fuel 74 cs = some x) :
    ∃ (l : List Att) (A : Option Addr) (c : Nat), cs = [.slice A l.length c] ∧ l.length ≤ c ∧ c ≤ 9223372036854775807 ∧ Sees W A (attsV l) := by
  rcases Go.Deep.open_slice Try.underlying74 h with ⟨h1, _⟩ | ⟨a, len, cap, m, n, D, Pl, h1, _, hl, hm, hmm, _, hel⟩
  · exact ⟨[], none, 0, h1, Nat.le_refl _, by omega, sees_nil _ _⟩
  · have hlm : len ≤ m := by rw [hmm]; split <;> omega
    rw [show Try.prog.cellsOf 113 = 3 by kernel_rfl] at hel
    obtain ⟨l, h2, h3, _⟩ := sees_rows (C := aC) (k := 3) (len := len) (w := W) (a := a) (by omega) (fun _ => rfl) (fun i hi => by
      obtain ⟨cs', hc, ht⟩ := hel i (by omega)
      obtain ⟨_, _, hcell⟩ := World.cells?_some hc
      obtain ⟨at_, rfl⟩ := open_att ht
      exact ⟨at_, fun j hj => by rw [← hcell j hj, addr_add_add]⟩)
    exact ⟨l, some a, cap, by rw [h1, h2], by omega, by unfold maxLen at hm; omega, h3⟩
theorem open_event {fuel : Nat} {cs : List Value} {x : DataW H × List MemPlace} (h : DataW.trod enc Try.prog W base spare held fuel 76 cs = some x) : ∃ e : Ev, cs = evC e ∧ EvOk W e := by
  obtain ⟨xs, n, _, _, hl, hxl, hf⟩ := DataW.trod_struct Try.underlying76 h
  rw [show Try.prog.cellsOf 76 = 5 by kernel_rfl] at hl
  match cs, hl with
  | [c0, c1, c2, c3, c4], _ =>
    have h0 : DataW.trod enc Try.prog W base spare held n 3 (([c0, c1, c2, c3, c4].drop 0).take (Try.prog.cellsOf 3)) = xs[0]? := hf 0 _ rfl
    have h1 : DataW.trod enc Try.prog W base spare held n 73 (([c0, c1, c2, c3, c4].drop 1).take (Try.prog.cellsOf 73)) = xs[1]? := hf 1 _ rfl
    have h2 : DataW.trod enc Try.prog W base spare held n 74 (([c0, c1, c2, c3, c4].drop 3).take (Try.prog.cellsOf 74)) = xs[2]? := hf 2 _ rfl
    have h3 : DataW.trod enc Try.prog W base spare held n 9 (([c0, c1, c2, c3, c4].drop 4).take (Try.prog.cellsOf 9)) = xs[3]? := hf 3 _ rfl
    rw [show Try.prog.cellsOf 3 = 1 by kernel_rfl, List.getElem?_eq_getElem (by rw [hxl]; decide)] at h0
    rw [show Try.prog.cellsOf 73 = 2 by kernel_rfl, List.getElem?_eq_getElem (by rw [hxl]; decide)] at h1
    rw [show Try.prog.cellsOf 74 = 1 by kernel_rfl, List.getElem?_eq_getElem (by rw [hxl]; decide)] at h2
    rw [show Try.prog.cellsOf 9 = 1 by kernel_rfl, List.getElem?_eq_getElem (by rw [hxl]; decide)] at h3
    obtain ⟨k, e0, _, hwf⟩ := DataW.trod_int Try.underlying3 h0
    obtain ⟨s, t, e1⟩ := open_name h1
    obtain ⟨l, A, c, e2, hlc, hcm, hs⟩ := open_atts h2
    obtain ⟨v, e3, _⟩ := DataW.trod_string Try.underlying9 h3
    simp at e0 e1 e2 e3
    exact ⟨⟨k, s, t, l, A, c, v⟩, by rw [e0, e1.1, e1.2, e2, e3]; rfl, hs, hlc, hcm, i64_of_wf hwf⟩
instance : Inhabited Ev := ⟨⟨0, ⟨#[]⟩, ⟨#[]⟩, [], none, 0, ⟨#[]⟩⟩⟩
theorem open_evs {fuel : Nat} {a : Option Addr} {len cap : Nat} {x : DataW H × List MemPlace} (hf : DataW.trod enc Try.prog W base spare held fuel 66 (Value.slice a len cap).cells.toList = some x) :
    ∃ l : List Ev, l.length = len ∧ len ≤ cap ∧ cap ≤ maxLen ∧ EvsOk W a l := by
  rcases Go.Deep.open_slice Try.underlying66 hf with ⟨hcs, _⟩ | ⟨y, l', c', m, n, D, Pl, hcs, _, hl, hm, hmm, _, hel⟩
  · simp [Value.cells] at hcs
    obtain ⟨rfl, rfl, rfl⟩ := hcs
    exact ⟨[], rfl, Nat.le_refl _, by unfold maxLen; omega, sees_nil _ _, fun e he => absurd he (by simp)⟩
  · simp [Value.cells] at hcs
    obtain ⟨rfl, rfl, rfl⟩ := hcs
    have hlm : len ≤ m := by rw [hmm]; split <;> omega
    rw [show Try.prog.cellsOf 76 = 5 by kernel_rfl] at hel
    have hel' : ∀ i, i < len → ∃ e : Ev, EvOk W e ∧ ∀ j, j < 5 → W.cell? (y.add (i * 5 + j)) = (evC e)[j]? := fun i hi => by
      obtain ⟨cs', hc, ht⟩ := hel i (by omega)
      obtain ⟨_, _, hcell⟩ := World.cells?_some hc
      obtain ⟨e, rfl, he⟩ := open_event ht
      exact ⟨e, he, fun j hj => by rw [← hcell j hj, addr_add_add]⟩
    obtain ⟨f, hf'⟩ := Go.Deep.choose_lt hel'
    have key : ∀ i x, ((List.range len).map f)[i]? = some x → i < len ∧ x = f i := by
      intro i x hx
      rw [List.getElem?_map] at hx
      by_cases hi : i < len
      · rw [List.getElem?_range hi] at hx
        exact ⟨hi, (Option.some.inj hx).symm⟩
      · rw [List.getElem?_eq_none (by simpa using hi)] at hx
        cases hx
    refine ⟨(List.range len).map f, by simp, hl, hm, fun _ => ⟨y, rfl, fun j u hu => ?_⟩, fun e he => ?_⟩
    · obtain ⟨i, r, x, h1, rfl, h3, h4⟩ := flat_get (C := evC) (k := 5) (by omega) (fun _ => rfl) _ j u hu
      obtain ⟨hi, rfl⟩ := key i x h1
      rw [(hf' i hi).2 r h3, h4]
    · obtain ⟨i, hi⟩ := List.getElem?_of_mem he
      obtain ⟨h1, rfl⟩ := key i e hi
      exact (hf' i h1).1
end
end Go.Proofs.Ytoiplpmjocemfaa
