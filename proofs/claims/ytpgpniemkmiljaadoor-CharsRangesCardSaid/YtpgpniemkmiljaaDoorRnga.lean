/- Runs of a class: what is told of numbers one by one; the contract of Ranges over any function that says yes or no. -/
import Derived.Test.YtpgpniemkmiljaaDoorUtfP
import Derived.Test.YtpgpniemkmiljaaDoorChk
import Derived.Laws.AppendOwn
import Derived.OwnWalk
namespace Go.Proofs.YtpgpniemkmiljaaDoor
open Go.ChangeShapes Go.WideShapes Go.ChangeAt Go.RowKit
set_option linter.unusedVariables false

/-- The runs of those numbers from lo on, below hi, of which P says so. -/
structure RunsOf (P : Int → Bool) (lo hi : Int) (L : List (Int × Int)) : Prop where
  inn : ∀ p ∈ L, lo ≤ p.1 ∧ p.1 ≤ p.2 ∧ p.2 < hi
  ord : L.Pairwise fun p q => p.2 + 1 < q.1
  iff : ∀ r, lo ≤ r → r < hi → (P r = true ↔ ∃ p ∈ L, p.1 ≤ r ∧ r ≤ p.2)
/-- Whether the last run may grow. -/
def OpenAt (o : Bool) (hi : Int) (L : List (Int × Int)) : Prop :=
  match o with
  | true => ∃ init a, L = init ++ [(a, hi - 1)]
  | false => ∀ p ∈ L, p.2 + 1 < hi
theorem runs_none (P : Int → Bool) (lo : Int) : RunsOf P lo lo [] ∧ OpenAt false lo [] :=
  ⟨⟨fun p h => by simp at h, List.Pairwise.nil, fun r h1 h2 => by omega⟩, fun p h => by simp at h⟩
theorem runs_skip {P : Int → Bool} {lo hi : Int} {L : List (Int × Int)} (h : RunsOf P lo hi L) (hl : lo ≤ hi) (hP : P hi = false) : RunsOf P lo (hi + 1) L ∧ OpenAt false (hi + 1) L := by
  refine ⟨⟨fun p hp => ?_, h.ord, fun r h1 h2 => ?_⟩, fun p hp => ?_⟩
  · have := h.inn p hp; omega
  · by_cases hr : r = hi
    · subst hr
      rw [hP]
      constructor
      · intro h; cases h
      · rintro ⟨p, hp, h3, h4⟩; have := h.inn p hp; omega
    · exact h.iff r h1 (by omega)
  · have := h.inn p hp; omega
theorem runs_new {P : Int → Bool} {lo hi : Int} {L : List (Int × Int)} (h : RunsOf P lo hi L) (ho : OpenAt false hi L) (hl : lo ≤ hi) (hP : P hi = true) :
    RunsOf P lo (hi + 1) (L ++ [(hi, hi)]) ∧ OpenAt true (hi + 1) (L ++ [(hi, hi)]) := by
  refine ⟨⟨fun p hp => ?_, ?_, fun r h1 h2 => ?_⟩, L, hi, by rw [Int.add_sub_cancel]⟩
  · rw [List.mem_append, List.mem_singleton] at hp
    rcases hp with hp | rfl
    · have := h.inn p hp; omega
    · exact ⟨hl, Int.le_refl _, by show hi < hi + 1; omega⟩
  · rw [List.pairwise_append]
    refine ⟨h.ord, by simp, fun p hp q hq => ?_⟩
    rw [List.mem_singleton] at hq
    subst hq
    exact ho p hp
  · by_cases hr : r = hi
    · subst hr
      rw [hP]
      exact ⟨fun _ => ⟨(r, r), by simp, Int.le_refl _, Int.le_refl _⟩, fun _ => rfl⟩
    · rw [h.iff r h1 (by omega)]
      constructor
      · rintro ⟨p, hp, h3⟩; exact ⟨p, by simp [hp], h3⟩
      · rintro ⟨p, hp, h3⟩
        rw [List.mem_append, List.mem_singleton] at hp
        rcases hp with hp | rfl
        · exact ⟨p, hp, h3⟩
        · simp only [] at h3; omega
theorem runs_grow {P : Int → Bool} {lo hi a : Int} {init : List (Int × Int)} (h : RunsOf P lo hi (init ++ [(a, hi - 1)])) (hl : lo ≤ hi) (hP : P hi = true) :
    RunsOf P lo (hi + 1) (init ++ [(a, hi)]) ∧ OpenAt true (hi + 1) (init ++ [(a, hi)]) := by
  have ho := h.ord
  rw [List.pairwise_append] at ho
  have hlast := h.inn (a, hi - 1) (by simp)
  simp only [] at hlast
  refine ⟨⟨fun p hp => ?_, ?_, fun r h1 h2 => ?_⟩, init, a, by rw [Int.add_sub_cancel]⟩
  · rw [List.mem_append, List.mem_singleton] at hp
    rcases hp with hp | rfl
    · have := h.inn p (by simp [hp]); omega
    · exact ⟨hlast.1, by show a ≤ hi; omega, by show hi < hi + 1; omega⟩
  · rw [List.pairwise_append]
    refine ⟨ho.1, by simp, fun p hp q hq => ?_⟩
    rw [List.mem_singleton] at hq
    subst hq
    exact ho.2.2 p hp (a, hi - 1) (by simp)
  · by_cases hr : r = hi
    · subst hr
      rw [hP]
      exact ⟨fun _ => ⟨(a, r), by simp, by show a ≤ r; omega, Int.le_refl _⟩, fun _ => rfl⟩
    · rw [h.iff r h1 (by omega)]
      constructor
      · rintro ⟨p, hp, h3⟩
        rw [List.mem_append, List.mem_singleton] at hp
        rcases hp with hp | rfl
        · exact ⟨p, by simp [hp], h3⟩
        · exact ⟨(a, hi), by simp, h3.1, by show r ≤ hi; omega⟩
      · rintro ⟨p, hp, h3⟩
        rw [List.mem_append, List.mem_singleton] at hp
        rcases hp with hp | rfl
        · exact ⟨p, by simp [hp], h3⟩
        · exact ⟨(a, hi - 1), by simp, h3.1, by simp only [] at h3 ⊢; omega⟩

/-- Pairs of numbers as the cells of a row. -/
def vP : List (Int × Int) → List Value
  | [] => []
  | p :: l => .int .i64 p.1 :: .int .i64 p.2 :: vP l
theorem vP_len (l : List (Int × Int)) : (vP l).length = l.length * 2 := by
  induction l with
  | nil => rfl
  | cons p l ih => simp only [vP, List.length_cons, ih]; omega
theorem vP_append (l m : List (Int × Int)) : vP (l ++ m) = vP l ++ vP m := by
  induction l with
  | nil => rfl
  | cons p l ih => simp only [vP, List.cons_append, ih]
theorem vP_at (l : List (Int × Int)) (k : Nat) (h : k < l.length) : (vP l)[k * 2]? = some (.int .i64 l[k].1) ∧ (vP l)[k * 2 + 1]? = some (.int .i64 l[k].2) := by
  induction l generalizing k with
  | nil => simp at h
  | cons p l ih =>
    cases k with
    | zero => simp [vP]
    | succ k =>
      have := ih k (by simpa using h)
      rw [show (k + 1) * 2 = k * 2 + 2 by omega]
      simpa [vP] using this
theorem vP_set (l : List (Int × Int)) (a b c : Int) : (vP (l ++ [(a, b)])).set (l.length * 2 + 1) (.int .i64 c) = vP (l ++ [(a, c)]) := by
  induction l with
  | nil => rfl
  | cons p l ih =>
    simp only [List.cons_append, vP, List.length_cons]
    rw [show (l.length + 1) * 2 + 1 = l.length * 2 + 1 + 1 + 1 by omega, List.set_cons_succ, List.set_cons_succ, ih]
theorem vP_one (l : List (Int × Int)) : ∀ u ∈ vP l, u.oneCell' = true := by
  induction l with
  | nil => intro u h; simp [vP] at h
  | cons p l ih =>
    intro u h
    simp only [vP, List.mem_cons] at h
    rcases h with rfl | rfl | h
    · rfl
    · rfl
    · exact ih u h
end Go.Proofs.YtpgpniemkmiljaaDoor
