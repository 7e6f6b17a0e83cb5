/- Events and strings that came in, with the bulk of what came in. -/
import Derived.Test.YtoiplpmjocemfaaRows
import Derived.Test.YtoiplpmjocemfaaEvo
import Derived.Test.YtoiplpmjocemfaaDpe
import Derived.SliceStrings
namespace Go.Proofs.Ytoiplpmjocemfaa
open Go.ChangeShapes Go.WideShapes Go.ChangeAt Go.RowKit
set_option linter.unusedVariables false
set_option maxRecDepth 100000

theorem bulk_append {H : Type} : ∀ l m : List (DataW H), Rows.uptoBulkAll (l ++ m) = Rows.uptoBulkAll l + Rows.uptoBulkAll m
  | [], m => by simp [Rows.uptoBulkAll]
  | x :: l, m => by rw [List.cons_append, Rows.uptoBulkAll, Rows.uptoBulkAll, bulk_append l m]; omega
theorem bulk_mem {H : Type} : ∀ {l : List (DataW H)} {i : Nat} {x : DataW H}, l[i]? = some x → Rows.uptoBulk x ≤ Rows.uptoBulkAll l
  | [], _, _, h => by simp at h
  | y :: l, 0, x, h => by
    obtain rfl : y = x := by simpa using h
    rw [Rows.uptoBulkAll]; omega
  | y :: l, i + 1, x, h => by
    have := bulk_mem (l := l) (i := i) (x := x) (by simpa using h)
    rw [Rows.uptoBulkAll]; omega
theorem bulk_rows {H : Type} (D : Nat → DataW H) (l : List Ev) (h : ∀ i e, l[i]? = some e → e.tx.toList.length + 2 ≤ Rows.uptoBulk (D i)) : ∀ k, k ≤ l.length → txLen l k + k * 2 ≤ Rows.uptoBulkAll ((List.range k).map D)
  | 0, _ => by simp [txLen]
  | k + 1, hk => by
    have ih := bulk_rows D l h k (by omega)
    have he : l[k]? = some l[k] := List.getElem?_eq_getElem (by omega)
    have hb := h k _ he
    rw [List.range_succ, List.map_append, bulk_append, txLen, he]
    simp only [List.map_cons, List.map_nil, Rows.uptoBulkAll]
    omega
section
variable {H : Type} {enc : TypeId × Value → H} {W : World} {base : Nat} {spare : Nat → Bool} {held : Bool}
theorem open_eventB {fuel : Nat} {cs : List Value} {x : DataW H × List MemPlace} (h : DataW.trod enc Try.prog W base spare held fuel 76 cs = some x) : ∃ e : Ev, cs = evC e ∧ EvOk W e ∧ e.tx.toList.length + 2 ≤ Rows.uptoBulk x.1 := by
  obtain ⟨e, rfl, he⟩ := open_event h
  refine ⟨e, rfl, he, ?_⟩
  obtain ⟨xs, n, _, rfl, hl, hxl, hf⟩ := DataW.trod_struct Try.underlying76 h
  have h3 : DataW.trod enc Try.prog W base spare held n 9 ([Value.string e.tx]) = xs[3]? := hf 3 _ rfl
  rw [List.getElem?_eq_getElem (by rw [hxl]; decide)] at h3
  obtain ⟨v, e3, hx3, _⟩ := DataW.trod_string Try.underlying9 h3
  injection e3 with e3 _
  injection e3 with e3
  subst e3
  have hm : (xs.map (·.1))[3]? = some (.lit (.string e.tx.data.toList)) := by
    rw [List.getElem?_map, List.getElem?_eq_getElem (by rw [hxl]; decide), hx3]; rfl
  have hb := bulk_mem hm
  rw [ByteArray.toList_eq]
  simp only [Rows.uptoBulk] at hb ⊢
  omega
theorem open_evsB {fuel : Nat} {a : Option Addr} {len cap : Nat} {x : DataW H × List MemPlace} (hf : DataW.trod enc Try.prog W base spare held fuel 66 (Value.slice a len cap).cells.toList = some x) :
    ∃ l : List Ev, l.length = len ∧ len ≤ cap ∧ cap ≤ maxLen ∧ EvsOk W a l ∧ txLen l len + len * 2 ≤ Rows.uptoBulk x.1 := by
  rcases Go.Deep.open_slice Try.underlying66 hf with ⟨hcs, _⟩ | ⟨y, l', c', m, n, D, Pl, hcs, _, hl, hm, hmm, rfl, hel⟩
  · simp [Value.cells] at hcs
    obtain ⟨rfl, rfl, rfl⟩ := hcs
    exact ⟨[], rfl, Nat.le_refl _, by unfold maxLen; omega, ⟨sees_nil _ _, fun e he => absurd he (by simp)⟩, by simp [txLen]⟩
  · simp [Value.cells] at hcs
    obtain ⟨rfl, rfl, rfl⟩ := hcs
    have hlm : len ≤ m := by rw [hmm]; split <;> omega
    rw [show Try.prog.cellsOf 76 = 5 by kernel_rfl] at hel
    have hel' : ∀ i, i < len → ∃ e : Ev, (EvOk W e ∧ e.tx.toList.length + 2 ≤ Rows.uptoBulk (D i)) ∧ ∀ j, j < 5 → W.cell? (y.add (i * 5 + j)) = (evC e)[j]? := fun i hi => by
      obtain ⟨cs', hc, ht⟩ := hel i (by omega)
      obtain ⟨_, _, hcell⟩ := World.cells?_some hc
      obtain ⟨e, rfl, he, hb⟩ := open_eventB ht
      exact ⟨e, ⟨he, hb⟩, fun j hj => by rw [← hcell j hj, addr_add_add]⟩
    obtain ⟨f, hf'⟩ := Go.Deep.choose_lt hel'
    have key : ∀ i x, ((List.range len).map f)[i]? = some x → i < len ∧ x = f i := by
      intro i x hx
      rw [List.getElem?_map] at hx
      by_cases hi : i < len
      · rw [List.getElem?_range hi] at hx
        exact ⟨hi, (Option.some.inj hx).symm⟩
      · rw [List.getElem?_eq_none (by simpa using hi)] at hx
        cases hx
    refine ⟨(List.range len).map f, by simp, hl, hm, ⟨fun _ => ⟨y, rfl, fun j u hu => ?_⟩, fun e he => ?_⟩, ?_⟩
    · obtain ⟨i, r, x, h1, rfl, h3, h4⟩ := flat_get (C := evC) (k := 5) (by omega) (fun _ => rfl) _ j u hu
      obtain ⟨hi, rfl⟩ := key i x h1
      rw [(hf' i hi).2 r h3, h4]
    · obtain ⟨i, hi⟩ := List.getElem?_of_mem he
      obtain ⟨h1, rfl⟩ := key i e hi
      exact (hf' i h1).1.1
    · have hr := bulk_rows D ((List.range len).map f) (fun i e he => by
        obtain ⟨h1, rfl⟩ := key i e he
        exact (hf' i h1).1.2) len (by simp)
      simp only [Rows.uptoBulk]
      omega
theorem open_txs {fuel : Nat} {a : Option Addr} {len cap : Nat} {x : DataW H × List MemPlace} (hf : DataW.trod enc Try.prog W base spare held fuel 82 (Value.slice a len cap).cells.toList = some x) :
    ∃ l : List ByteArray, l.length = len ∧ len ≤ cap ∧ cap ≤ maxLen ∧ Sees W a (sV l) := by
  rcases open_strings Try.underlying82 Try.underlying9 (by kernel_rfl) hf with ⟨hcs, _⟩ | ⟨y, l', c', ss, hcs, _, hl, hm, hss, _, hc, _⟩
  · simp [Value.cells] at hcs
    obtain ⟨rfl, rfl, rfl⟩ := hcs
    exact ⟨[], rfl, Nat.le_refl _, by unfold maxLen; omega, sees_nil _ _⟩
  · simp [Value.cells] at hcs
    obtain ⟨rfl, rfl, rfl⟩ := hcs
    have hlm : len ≤ ss.length := by rw [hss]; split <;> omega
    refine ⟨ss.take len, by simp; omega, hl, hm, fun _ => ⟨y, rfl, fun j u hu => ?_⟩⟩
    unfold sV at hu
    rw [List.getElem?_map] at hu
    by_cases hj : j < len
    · rw [List.getElem?_take_of_lt hj, List.getElem?_eq_getElem (by omega)] at hu
      rw [hc j (by omega), ← hu]
      simp [List.getD, List.getElem?_eq_getElem (show j < ss.length by omega)]
    · rw [List.getElem?_eq_none (by simp; omega)] at hu
      cases hu
end
end Go.Proofs.Ytoiplpmjocemfaa
