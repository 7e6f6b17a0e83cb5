/- How much a joined row holds: pure. -/
import Derived.Test.YtoiplpmjocemfaaJnj
namespace Go.Proofs.Ytoiplpmjocemfaa
open Go.ChangeShapes Go.WideShapes Go.ChangeAt Go.RowKit
set_option linter.unusedVariables false
set_option maxRecDepth 100000

def txS : List Ev → Nat
  | [] => 0
  | e :: o => e.tx.toList.length + txS o
theorem txS_append : ∀ o p : List Ev, txS (o ++ p) = txS o + txS p
  | [], p => by simp [txS]
  | e :: o, p => by rw [List.cons_append, txS, txS, txS_append o p]; omega
theorem txLen_S (l : List Ev) : ∀ k, txLen l k = txS (l.take k)
  | 0 => by simp [txLen, txS]
  | k + 1 => by
    rw [txLen, txLen_S l k]
    by_cases hk : k < l.length
    · rw [List.getElem?_eq_getElem hk, List.take_succ_eq_append_getElem hk, txS_append]
      simp [txS]
    · rw [List.getElem?_eq_none (by omega), List.take_of_length_le (by omega), List.take_of_length_le (by omega)]
      rfl
theorem flush_txS (p : List Ev × List UInt8) : txS (flushJ p) = txS p.1 + p.2.length := by
  unfold flushJ
  split
  · next h => simp [h]
  · rw [txS_append]; simp [txS, textE, ByteArray.toList_eq]
theorem join_txS (l : List Ev) : ∀ k, txS (joinN l k).1 + (joinN l k).2.length = txLen l k
  | 0 => rfl
  | k + 1 => by
    have ih := join_txS l k
    rw [joinN, txLen]
    cases h : l[k]? with
    | none => simpa using ih
    | some e =>
      simp only
      unfold stepJ
      split
      · simp only [List.length_append]; omega
      · simp only [txS_append, flush_txS, txS, List.length_nil]; omega
theorem joinA_txS (l : List Ev) : txS (joinA l) = txLen l l.length := by
  unfold joinA
  rw [flush_txS, join_txS]
theorem like_txS : ∀ {o o' : List Ev}, o'.map nrm = o.map nrm → txS o' = txS o
  | [], [], _ => rfl
  | a :: o, b :: o', h => by
    rw [List.map_cons, List.map_cons] at h
    injection h with h1 h2
    rw [txS, txS, like_txS h2, nrm_tx h1]
  | [], _ :: _, h => by simp at h
  | _ :: _, [], h => by simp at h
theorem like_len {o o' : List Ev} (h : o'.map nrm = o.map nrm) : o'.length = o.length := by simpa using congrArg List.length h
theorem joinA_len (l : List Ev) : (joinA l).length ≤ 2 * l.length + 1 := by
  have h1 := flushJ_len (joinN l l.length)
  have h2 := (joinN_len l l.length).1
  unfold joinA
  omega
theorem like_txLen {l o' : List Ev} (h : o'.map nrm = (joinA l).map nrm) : txLen o' o'.length = txLen l l.length := by
  rw [txLen_S, List.take_length, like_txS h, joinA_txS]
theorem like_at {l o' : List Ev} {M : Nat} (h : o'.map nrm = (joinA l).map nrm) (hl : ∀ e ∈ l, e.at_.length ≤ M) : ∀ e ∈ o', e.at_.length ≤ M := by
  intro e he
  have h1 : nrm e ∈ (joinA l).map nrm := h ▸ List.mem_map_of_mem he
  obtain ⟨x, hx, hxe⟩ := List.mem_map.1 h1
  have h2 : x.at_ = e.at_ := by
    have : (nrm x).at_ = (nrm e).at_ := by rw [hxe]
    exact this
  rw [← h2]
  rcases (FromJ.join l l.length).flush x hx with h3 | ⟨t, rfl⟩
  · exact hl x h3
  · simp [textE]
end Go.Proofs.Ytoiplpmjocemfaa
