/- The texts of a joined row, and how they stand: pure. -/
import Derived.Test.YtoiplpmjocemfaaJnl
namespace Go.Proofs.Ytoiplpmjocemfaa
open Go.ChangeShapes Go.WideShapes Go.ChangeAt Go.RowKit
set_option linter.unusedVariables false
set_option maxRecDepth 100000

def txC : List Ev → List UInt8
  | [] => []
  | e :: o => (if e.kind = 3 then e.tx.toList else []) ++ txC o
theorem txC_append : ∀ o p : List Ev, txC (o ++ p) = txC o ++ txC p
  | [], p => by simp [txC]
  | e :: o, p => by rw [List.cons_append, txC, txC, txC_append o p, List.append_assoc]
theorem textN_C (l : List Ev) : ∀ k, textN l k = txC (l.take k)
  | 0 => by simp [textN, txC]
  | k + 1 => by
    rw [textN, textN_C l k]
    by_cases hk : k < l.length
    · rw [List.getElem?_eq_getElem hk, List.take_succ_eq_append_getElem hk, txC_append]
      simp [txC]
    · rw [List.getElem?_eq_none (by omega), List.take_of_length_le (by omega), List.take_of_length_le (by omega)]
      simp
theorem flush_txC (p : List Ev × List UInt8) : txC (flushJ p) = txC p.1 ++ p.2 := by
  unfold flushJ
  split
  · next h => simp [h]
  · rw [txC_append]; simp [txC, textE, ByteArray.toList_eq]
theorem join_txC (l : List Ev) : ∀ k, txC (joinN l k).1 ++ (joinN l k).2 = textN l k
  | 0 => rfl
  | k + 1 => by
    have ih := join_txC l k
    rw [joinN, textN]
    cases h : l[k]? with
    | none => simpa using ih
    | some e =>
      simp only
      unfold stepJ
      by_cases hk : e.kind = 3
      · rw [if_pos hk, if_pos hk, ← ih, List.append_assoc]
      · rw [if_neg hk, if_neg hk, ← ih]
        simp [txC_append, flush_txC, txC, if_neg hk]
theorem joinA_txC (l : List Ev) : txC (joinA l) = textN l l.length := by
  unfold joinA
  rw [flush_txC, join_txC]
theorem like_txC : ∀ {o o' : List Ev}, o'.map nrm = o.map nrm → txC o' = txC o
  | [], [], _ => rfl
  | a :: o, b :: o', h => by
    rw [List.map_cons, List.map_cons] at h
    injection h with h1 h2
    rw [txC, txC, like_txC h2, nrm_tx h1, nrm_kind h1]
  | [], _ :: _, h => by simp at h
  | _ :: _, [], h => by simp at h
theorem like_text {l o' : List Ev} (h : o'.map nrm = (joinA l).map nrm) : textN o' o'.length = textN l l.length := by
  rw [textN_C, List.take_length, like_txC h, joinA_txC]
theorem tidy_at : ∀ {p : Bool} {o : List Ev}, Tidy p o → ∀ {i : Nat} {e : Ev}, o[i]? = some e → e.kind = 3 → (∃ t, t ≠ [] ∧ e = textE t) ∧ (i = 0 → p = false) ∧ (∀ x, 0 < i → o[i - 1]? = some x → x.kind ≠ 3)
  | _, [], _, i, e, h, _ => by simp at h
  | p, y :: o, h, 0, e, he, hk => by
    obtain rfl : y = e := by simpa using he
    exact ⟨(h.1 hk).1, fun _ => (h.1 hk).2, fun x h0 => absurd h0 (by omega)⟩
  | p, y :: o, h, i + 1, e, he, hk => by
    obtain ⟨h1, h2, h3⟩ := tidy_at h.2 (i := i) (by simpa using he) hk
    refine ⟨h1, fun h0 => absurd h0 (by omega), fun x _ hx => ?_⟩
    cases i with
    | zero =>
      obtain rfl : y = x := by simpa using hx
      have := h2 rfl
      simpa using this
    | succ i => exact h3 x (by omega) (by simpa using hx)
/-- Texts of what join.All tells are none empty, and no two stand side by side. -/
theorem like_tidy {l o' : List Ev} (h : o'.map nrm = (joinA l).map nrm) {i : Nat} {e : Ev} (he : o'[i]? = some e) (hk : e.kind = 3) : e.tx.toList ≠ [] ∧ (∀ x, 0 < i → o'[i - 1]? = some x → x.kind ≠ 3) := by
  have hg := like_get h i
  rw [he] at hg
  cases h1 : (joinA l)[i]? with
  | none => rw [h1] at hg; simp at hg
  | some y =>
    rw [h1] at hg
    have hye : nrm e = nrm y := by simpa using hg
    obtain ⟨⟨t, ht, rfl⟩, _, h3⟩ := tidy_at (tidy_all l) h1 (by rw [← nrm_kind hye]; exact hk)
    refine ⟨by rw [nrm_tx hye]; simpa [textE, ByteArray.toList_eq] using ht, fun x h0 hx => ?_⟩
    have hg2 := like_get h (i - 1)
    rw [hx] at hg2
    cases h4 : (joinA l)[i - 1]? with
    | none => rw [h4] at hg2; simp at hg2
    | some z =>
      rw [h4] at hg2
      have hxz : nrm x = nrm z := by simpa using hg2
      rw [nrm_kind hxz]
      exact h3 z h0 h4
end Go.Proofs.Ytoiplpmjocemfaa
