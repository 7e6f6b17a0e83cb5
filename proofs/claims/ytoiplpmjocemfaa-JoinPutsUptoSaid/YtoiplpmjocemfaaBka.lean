/- Events that came in: the number of their attributes, by the bulk. -/
import Derived.Test.YtoiplpmjocemfaaDph
namespace Go.Proofs.Ytoiplpmjocemfaa
open Go.ChangeShapes Go.WideShapes Go.ChangeAt Go.RowKit
set_option linter.unusedVariables false
set_option maxRecDepth 100000

theorem bulk_one {H : Type} (d : DataW H) : 1 ≤ Rows.uptoBulk d := by
  cases d with
  | lit l => cases l <;> simp [Rows.uptoBulk]
  | nil => simp [Rows.uptoBulk]
  | ptr d => simp [Rows.uptoBulk]
  | slice elems spare => simp [Rows.uptoBulk]
  | agg parts => simp [Rows.uptoBulk]
  | iface t d => simp [Rows.uptoBulk]
  | map entries => simp [Rows.uptoBulk]
  | held h => simp [Rows.uptoBulk]
theorem bulk_each {H : Type} (D : Nat → DataW H) (m : Nat) (h : ∀ i, i < m → 2 ≤ Rows.uptoBulk (D i)) : ∀ k, k ≤ m → k * 2 ≤ Rows.uptoBulkAll ((List.range k).map D)
  | 0, _ => by simp
  | k + 1, hk => by
    have ih := bulk_each D m h k (by omega)
    have hb := h k (by omega)
    rw [List.range_succ, List.map_append, bulk_append]
    simp only [List.map_cons, List.map_nil, Rows.uptoBulkAll]
    omega
section
variable {H : Type} {enc : TypeId × Value → H} {W : World} {base : Nat} {spare : Nat → Bool} {held : Bool}
theorem open_attN {fuel : Nat} {cs : List Value} {x : DataW H × List MemPlace} (h : DataW.trod enc Try.prog W base spare held fuel 113 cs = some x) : 2 ≤ Rows.uptoBulk x.1 := by
  obtain ⟨xs, n, _, rfl, hl, hxl, hf⟩ := DataW.trod_struct Try.underlying113 h
  have hxl2 : xs.length = 2 := hxl.trans (by decide)
  match xs, hxl2 with
  | [x0, x1], _ =>
    have b0 := bulk_one x0.1
    simp only [List.map_cons, List.map_nil, Rows.uptoBulk, Rows.uptoBulkAll]
    omega
theorem open_attsN {fuel : Nat} {A : Option Addr} {k c : Nat} {x : DataW H × List MemPlace} (h : DataW.trod enc Try.prog W base spare held fuel 74 [.slice A k c] = some x) : k * 2 ≤ Rows.uptoBulk x.1 := by
  rcases Go.Deep.open_slice Try.underlying74 h with ⟨h1, _⟩ | ⟨a, len, cap, m, n, D, Pl, h1, _, hl, hm, hmm, rfl, hel⟩
  · injection h1 with h1
    injection h1 with _ h1
    subst h1
    simp
  · injection h1 with h1
    injection h1 with _ h1
    subst h1
    have hlm : k ≤ m := by rw [hmm]; split <;> omega
    have := bulk_each D m (fun i hi => by
      obtain ⟨cs', hc, ht⟩ := hel i hi
      exact open_attN ht) k hlm
    simp only [Rows.uptoBulk]
    omega
theorem open_eventC {fuel : Nat} {cs : List Value} {x : DataW H × List MemPlace} (h : DataW.trod enc Try.prog W base spare held fuel 76 cs = some x) : ∃ e : Ev, cs = evC e ∧ EvOk W e ∧ e.tx.toList.length + 5 ≤ Rows.uptoBulk x.1 ∧ e.at_.length * 2 ≤ Rows.uptoBulk x.1 := by
  obtain ⟨e, rfl, he⟩ := open_event h
  refine ⟨e, rfl, he, ?_⟩
  obtain ⟨xs, n, _, rfl, hl, hxl, hf⟩ := DataW.trod_struct Try.underlying76 h
  have h2 : DataW.trod enc Try.prog W base spare held n 74 ([Value.slice e.A e.at_.length e.c]) = xs[2]? := hf 2 _ rfl
  have h3 : DataW.trod enc Try.prog W base spare held n 9 ([Value.string e.tx]) = xs[3]? := hf 3 _ rfl
  have hxl4 : xs.length = 4 := hxl.trans (by decide)
  match xs, hxl4, h2, h3 with
  | [x0, x1, x2, x3], _, h2, h3 =>
    have h4 := open_attsN (x := x2) h2
    obtain ⟨v, e3, hx3, _⟩ := DataW.trod_string Try.underlying9 (x := x3) h3
    injection e3 with e3 _
    injection e3 with e3
    subst e3
    have b0 := bulk_one x0.1
    have b1 := bulk_one x1.1
    have b2 := bulk_one x2.1
    have b3 : Rows.uptoBulk x3.1 = e.tx.toList.length + 1 := by rw [hx3, ByteArray.toList_eq]; rfl
    simp only [List.map_cons, List.map_nil, Rows.uptoBulk, Rows.uptoBulkAll]
    omega
theorem bulk_rows5 {H : Type} (D : Nat → DataW H) (l : List Ev) (h : ∀ i e, l[i]? = some e → e.tx.toList.length + 5 ≤ Rows.uptoBulk (D i)) : ∀ k, k ≤ l.length → txLen l k + k * 5 ≤ Rows.uptoBulkAll ((List.range k).map D)
  | 0, _ => by simp [txLen]
  | k + 1, hk => by
    have ih := bulk_rows5 D l h k (by omega)
    have he : l[k]? = some l[k] := List.getElem?_eq_getElem (by omega)
    have hb := h k _ he
    rw [List.range_succ, List.map_append, bulk_append, txLen, he]
    simp only [List.map_cons, List.map_nil, Rows.uptoBulkAll]
    omega
theorem open_evsC {fuel : Nat} {a : Option Addr} {len cap : Nat} {x : DataW H × List MemPlace} (hf : DataW.trod enc Try.prog W base spare held fuel 66 (Value.slice a len cap).cells.toList = some x) :
    ∃ l : List Ev, l.length = len ∧ len ≤ cap ∧ cap ≤ maxLen ∧ EvsOk W a l ∧ txLen l len + len * 5 ≤ Rows.uptoBulk x.1 ∧ ∀ e ∈ l, e.at_.length * 2 ≤ Rows.uptoBulk x.1 := by
  rcases Go.Deep.open_slice Try.underlying66 hf with ⟨hcs, _⟩ | ⟨y, l', c', m, n, D, Pl, hcs, _, hl, hm, hmm, rfl, hel⟩
  · simp [Value.cells] at hcs
    obtain ⟨rfl, rfl, rfl⟩ := hcs
    exact ⟨[], rfl, Nat.le_refl _, by unfold maxLen; omega, ⟨sees_nil _ _, fun e he => absurd he (by simp)⟩, by simp [txLen], fun e he => absurd he (by simp)⟩
  · simp [Value.cells] at hcs
    obtain ⟨rfl, rfl, rfl⟩ := hcs
    have hlm : len ≤ m := by rw [hmm]; split <;> omega
    rw [show Try.prog.cellsOf 76 = 5 by kernel_rfl] at hel
    have hel' : ∀ i, i < len → ∃ e : Ev, (EvOk W e ∧ e.tx.toList.length + 5 ≤ Rows.uptoBulk (D i) ∧ e.at_.length * 2 ≤ Rows.uptoBulk (D i)) ∧ ∀ j, j < 5 → W.cell? (y.add (i * 5 + j)) = (evC e)[j]? := fun i hi => by
      obtain ⟨cs', hc, ht⟩ := hel i (by omega)
      obtain ⟨_, _, hcell⟩ := World.cells?_some hc
      obtain ⟨e, rfl, he, hb⟩ := open_eventC ht
      exact ⟨e, ⟨he, hb⟩, fun j hj => by rw [← hcell j hj, addr_add_add]⟩
    obtain ⟨f, hf'⟩ := Go.Deep.choose_lt hel'
    have key : ∀ i x, ((List.range len).map f)[i]? = some x → i < len ∧ x = f i := by
      intro i x hx
      rw [List.getElem?_map] at hx
      by_cases hi : i < len
      · rw [List.getElem?_range hi] at hx
        exact ⟨hi, (Option.some.inj hx).symm⟩
      · rw [List.getElem?_eq_none (by simpa using hi)] at hx
        cases hx
    have hr := bulk_rows5 D ((List.range len).map f) (fun i e he => by
      obtain ⟨h1, rfl⟩ := key i e he
      exact (hf' i h1).1.2.1) len (by simp)
    refine ⟨(List.range len).map f, by simp, hl, hm, ⟨fun _ => ⟨y, rfl, fun j u hu => ?_⟩, fun e he => ?_⟩, ?_, fun e he => ?_⟩
    · obtain ⟨i, r, x, h1, rfl, h3, h4⟩ := flat_get (C := evC) (k := 5) (by omega) (fun _ => rfl) _ j u hu
      obtain ⟨hi, rfl⟩ := key i x h1
      rw [(hf' i hi).2 r h3, h4]
    · obtain ⟨i, hi⟩ := List.getElem?_of_mem he
      obtain ⟨h1, rfl⟩ := key i e hi
      exact (hf' i h1).1.1
    · simp only [Rows.uptoBulk]
      omega
    · obtain ⟨i, hi⟩ := List.getElem?_of_mem he
      obtain ⟨h1, rfl⟩ := key i e hi
      have h2 := (hf' i h1).1.2.2
      have h3 : ((List.range len).map D)[i]? = some (D i) := by rw [List.getElem?_map, List.getElem?_range h1]; rfl
      have h4 := bulk_mem h3
      simp only [Rows.uptoBulk]
      omega
end
end Go.Proofs.Ytoiplpmjocemfaa
