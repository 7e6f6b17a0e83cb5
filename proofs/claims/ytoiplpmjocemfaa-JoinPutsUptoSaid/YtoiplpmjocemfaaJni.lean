/- Rows of events up to where their attributes lie: pure. -/
import Derived.Test.YtoiplpmjocemfaaJnh
import Derived.Test.YtoiplpmjocemfaaEvw
namespace Go.Proofs.Ytoiplpmjocemfaa
open Go.ChangeShapes Go.WideShapes Go.ChangeAt Go.RowKit
set_option linter.unusedVariables false
set_option maxRecDepth 100000

theorem nrm_kind {a b : Ev} (h : nrm a = nrm b) : a.kind = b.kind := by
  have : (nrm a).kind = (nrm b).kind := by rw [h]
  exact this
theorem nrm_tx {a b : Ev} (h : nrm a = nrm b) : a.tx = b.tx := by
  have : (nrm a).tx = (nrm b).tx := by rw [h]
  exact this
theorem flush_like {p p' : List Ev × List UInt8} (h1 : p'.1.map nrm = p.1.map nrm) (h2 : p'.2 = p.2) : (flushJ p').map nrm = (flushJ p).map nrm := by
  obtain ⟨o', s'⟩ := p'
  obtain ⟨o, s⟩ := p
  simp only at h1 h2
  subst h2
  exact flush_nrm h1
theorem evE_nrm (a b : Ev) : evE a b = evE (nrm a) (nrm b) := rfl
theorem like_same : ∀ {o o' : List Ev}, o.map nrm = o'.map nrm → rowE evE o o' = true
  | [], [], _ => rfl
  | a :: o, b :: o', h => by
    rw [List.map_cons, List.map_cons] at h
    injection h with h1 h2
    rw [rowE, evE_nrm, h1, evE_self, like_same h2]; rfl
  | [], _ :: _, h => by simp at h
  | _ :: _, [], h => by simp at h
theorem like_get {o o' : List Ev} (h : o.map nrm = o'.map nrm) (k : Nat) : (o[k]?).map nrm = (o'[k]?).map nrm := by
  rw [← List.getElem?_map, ← List.getElem?_map, h]
theorem joinN_like {l l' : List Ev} (h : l'.map nrm = l.map nrm) : ∀ k, (joinN l' k).1.map nrm = (joinN l k).1.map nrm ∧ (joinN l' k).2 = (joinN l k).2
  | 0 => ⟨rfl, rfl⟩
  | k + 1 => by
    obtain ⟨ih1, ih2⟩ := joinN_like h k
    have hg := like_get h k
    cases h1 : l'[k]? with
    | none =>
      rw [h1] at hg
      cases h2 : l[k]? with
      | none => rw [joinN, joinN, h1, h2]; exact ⟨ih1, ih2⟩
      | some e => rw [h2] at hg; simp at hg
    | some a =>
      rw [h1] at hg
      cases h2 : l[k]? with
      | none => rw [h2] at hg; simp at hg
      | some b =>
        rw [h2] at hg
        have hab : nrm a = nrm b := by simpa using hg
        rw [joinN_at h1, joinN_at h2]
        unfold stepJ
        rw [nrm_kind hab]
        split
        · exact ⟨ih1, by rw [ih2, nrm_tx hab]⟩
        · exact ⟨by rw [List.map_append, List.map_append, List.map_cons, List.map_cons, hab, flush_like ih1 ih2], rfl⟩
theorem joinA_like {l l' : List Ev} (h : l'.map nrm = l.map nrm) : (joinA l').map nrm = (joinA l).map nrm := by
  have hl : l'.length = l.length := by simpa using congrArg List.length h
  obtain ⟨h1, h2⟩ := joinN_like h l.length
  unfold joinA
  rw [hl]
  exact flush_like h1 h2
end Go.Proofs.Ytoiplpmjocemfaa
