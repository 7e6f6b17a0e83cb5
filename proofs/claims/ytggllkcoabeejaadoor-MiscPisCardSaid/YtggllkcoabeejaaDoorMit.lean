/- What misc.Reserved tells. -/
import Derived.Test.YtggllkcoabeejaaDoorMis
import Derived.Test.YtggllkcoabeejaaDoorShl
namespace Go.Proofs.YtggllkcoabeejaaDoor
open Go.ChangeShapes Go.WideShapes Go.ChangeAt Go.RowKit
set_option linter.unusedVariables false
set_option maxRecDepth 100000

theorem resB_big {l : List UInt8} {j : Nat} (hj : j < 3) (h : 128 ≤ byteAt l j) : resB l = false := by
  unfold resB
  rw [decide_eq_false_iff_not]
  rintro ⟨_, h0, h1, h2⟩
  match j, hj with
  | 0, _ => omega
  | 1, _ => omega
  | 2, _ => omega
theorem fold_any (l : List UInt8) (h3 : l.length = 3) (w : World) (hf : FoldAt w) :
    Calls Tryd.prog 37 #[strV l, strV [120, 109, 108]] w fun e w' => e = .returned (.bool (resB l)) ∧ Below w.heap.size w w' := by
  by_cases hbig : ∃ j, j < 3 ∧ 128 ≤ byteAt l j
  · obtain ⟨j, hj, hb⟩ := id hbig
    rw [resB_big hj hb]
    exact efold_big l h3 hbig w hf
  · have hlow : ∀ (j : Nat) (b : UInt8), l[j]? = some b → b.toNat < 128 := by
      intro j b hb
      obtain ⟨hj, e⟩ := List.getElem?_eq_some_iff.1 hb
      by_cases h : b.toNat < 128
      · exact h
      · refine absurd ⟨j, by omega, ?_⟩ hbig
        unfold byteAt
        rw [hb]
        simp only [Option.getD_some]
        omega
    refine (Tryd.strings_EqualFold ⟨l.toArray⟩ ⟨([120, 109, 108] : List UInt8).toArray⟩ w (by rw [str_size]; omega) (by simpa using hlow) ?_).mono fun e w' ⟨h1, h2⟩ => ⟨?_, h2 ▸ Below.refl _ _⟩
    · intro j b hb
      have := List.mem_of_getElem? hb
      simp at this
      rcases this with rfl | rfl | rfl <;> decide
    · rw [h1]
      show Ending.returned (.bool (Lib.equalFold l [120, 109, 108])) = _
      rw [fold_res l h3]
theorem reserved_any (l : List UInt8) (w : World) (hf : FoldAt w) : Calls Tryd.prog 18 #[strV l] w fun e w' => e = .returned (.bool (resB l)) ∧ Below w.heap.size w w' := by
  have hsz := str_size l
  by_cases h3 : l.length = 3
  · have t1 : ((l.length : Int) == 3) = true := by simp; omega
    have FA := fold_any l h3 w hf
    clear h3
    go_enter Tryd.func18, Tryd.ntmps18
    go_wp2_with fail
    refine FA.mono ?_
    rintro e w2 ⟨rfl, b2⟩
    go_wp2_with fail
    go_ret
    exact ⟨rfl, b2⟩
  · have t1 : ((l.length : Int) == 3) = false := by simp; omega
    rw [show resB l = false by unfold resB; rw [decide_eq_false_iff_not]; exact fun h => h3 h.1]
    clear hf
    go_enter Tryd.func18, Tryd.ntmps18
    go_wp2_with fail
    go_ret
    exact ⟨rfl, Below.refl _ _⟩
theorem res_ok {w : World} (hf : FoldAt w) : ResOk w := fun m w' hb => reserved_any m w' (hf.below hb)
end Go.Proofs.YtggllkcoabeejaaDoor
