/- Names: the readers of names and of plain names; what is read at a place. -/
import Derived.Test.YtdmfladcldkmeaaDoorNama
import Derived.Test.YtdmfladcldkmeaaDoorUtfK
import Derived.Handy
import Derived.Deep.RegionHeld
import Derived.Laws.EntriesVeiled
namespace Go.Proofs.YtdmfladcldkmeaaDoor
open Go.ChangeShapes Go.WideShapes Go.ChangeAt Go.RowKit
set_option linter.unusedVariables false
set_option maxRecDepth 100000

def startN (r : Int) : Bool := hasT startT r
def charN (r : Int) : Bool := hasT followT r || hasT startT r
def plainP (f : Int → Bool) (r : Int) : Bool := decide (r ≠ 58) && f r
theorem TabN.low {p : Nat} {w w' : World} (h : TabN w) (hp : w.heap.size ≤ p) (hb : Below p w w') : TabN w' := h.below (hb.mono hp)

set_option maxHeartbeats 400000 in
theorem plain1_any (F b : Nat) (f : Int → Bool) (r : Int) (w : World) (hc : w.cell? ⟨b, 0, none⟩ = some (.func (.func F) #[] #[])) (hF : Enters F)
    (h : Calls Tryd.prog F #[.int .i64 r] w fun e w' => e = .returned (.bool (f r)) ∧ Below w.heap.size w w') :
    Calls Tryd.prog 196 #[.int .i64 r, .pointer (some ⟨b, 0, none⟩)] w fun e w' => e = .returned (.bool (plainP f r)) ∧ Below w.heap.size w w' := by
  have hF' : ∀ args w, (callFunc F args).run Tryd.prog w = .ok (.enter F args) w := hF
  by_cases h58 : r = 58
  · subst h58
    go_enter Tryd.func196, Tryd.ntmps196
    go_wp2_with fail
    go_ret
    exact ⟨rfl, Below.refl _ _⟩
  · cases hr : f r with
    | true =>
      rw [hr] at h
      have H := Lib.hid h
      have HP := Lib.hid (show true = plainP f r by unfold plainP; rw [hr]; simp [h58])
      have t1 : (r != 58) = true := by simpa using h58
      clear h hr
      go_enter Tryd.func196, Tryd.ntmps196
      go_wp2_with fail
      refine H.out.mono ?_
      rintro e w1 ⟨rfl, hb⟩
      go_wp2_with fail
      go_ret
      exact ⟨ret_bool HP.out, hb⟩
    | false =>
      rw [hr] at h
      have H := Lib.hid h
      have HP := Lib.hid (show false = plainP f r by unfold plainP; rw [hr]; simp)
      have t1 : (r != 58) = true := by simpa using h58
      clear h hr
      go_enter Tryd.func196, Tryd.ntmps196
      go_wp2_with fail
      refine H.out.mono ?_
      rintro e w1 ⟨rfl, hb⟩
      go_wp2_with fail
      go_ret
      exact ⟨ret_bool HP.out, hb⟩

/-- A function value with a box of its own. -/
abbrev boxed (b : Nat) : Value := .func (.func 196) #[] #[.pointer (some ⟨b, 0, none⟩)]
set_option maxHeartbeats 400000 in
theorem plain_any (F : Nat) (w : World) (b : Nat) (hb : w.heap.size = b) :
    Calls Tryd.prog 185 #[.func (.func F) #[] #[]] w fun e w' => e = .returned (boxed b) ∧ w'.cell? ⟨b, 0, none⟩ = some (.func (.func F) #[] #[]) ∧ Below b w w' ∧ w'.heap.size = b + 1 := by
  subst hb
  go_enter Tryd.func185, Tryd.ntmps185
  go_wp2_with fail
  go_ret
  exact ⟨rfl, by simp [World.cell?_alloc_new], (Below.refl _ _).alloc (Nat.le_refl _) _, by simp⟩

abbrev fn0 (F : Nat) : Value := .func (.func F) #[] #[]
set_option maxHeartbeats 400000 in
theorem names_any (w : World) :
    Calls Tryd.prog 104 #[] w fun e w' => e = .returned (.agg #[fn0 142, fn0 143]) ∧ Below w.heap.size w w' := by
  go_enter Tryd.func104, Tryd.ntmps104
  go_wp2_with fail
  go_returns
  exact ⟨rfl, (Below.refl _ _).alloc (Nat.le_refl _) _⟩
set_option maxHeartbeats 400000 in
theorem plains_any (w : World) :
    Calls Tryd.prog 162 #[] w fun e w' => ∃ b c, e = .returned (.agg #[boxed b, boxed c]) ∧ b < w'.heap.size ∧ c < w'.heap.size ∧
      w'.cell? ⟨b, 0, none⟩ = some (fn0 142) ∧ w'.cell? ⟨c, 0, none⟩ = some (fn0 143) ∧ Below w.heap.size w w' := by
  go_enter Tryd.func162, Tryd.ntmps162
  go_wp2_with fail
  have z0 : (w.alloc (.cells #[.nilFunc, .nilFunc] 153)).heap.size = w.heap.size + 1 := by simp
  have y0 : (w.alloc (.cells #[.nilFunc, .nilFunc] 153)).cell? ⟨w.heap.size, 0, none⟩ = some .nilFunc := by simp [World.cell?_alloc_new]
  have y1 : (w.alloc (.cells #[.nilFunc, .nilFunc] 153)).cell? ⟨w.heap.size, 1, none⟩ = some .nilFunc := by simp [World.cell?_alloc_new]
  have f0 : ∀ i, (w.alloc (.cells #[.nilFunc, .nilFunc] 153)).frozen? ⟨w.heap.size, i, none⟩ = false := fun i => World.frozen?_alloc_new ..
  refine (plain_any _ _ (w.heap.size + 1) z0).mono ?_
  rintro e w1 ⟨rfl, hc1, hb1, hs1⟩
  go_wp2_with fail
  refine (plain_any _ _ (w.heap.size + 2) hs1).mono ?_
  rintro e w2 ⟨rfl, hc2, hb2, hs2⟩
  have g1 := (hb2.cell (p := ⟨w.heap.size + 1, 0, none⟩) (by simp)).trans hc1
  have x0 := (hb2.cell (p := ⟨w.heap.size, 0, none⟩) (by simp only; omega)).trans ((hb1.cell (p := ⟨w.heap.size, 0, none⟩) (by simp)).trans y0)
  have x1 := (hb2.cell (p := ⟨w.heap.size, 1, none⟩) (by simp only; omega)).trans ((hb1.cell (p := ⟨w.heap.size, 1, none⟩) (by simp)).trans y1)
  have v0 := (hb2.frozen (p := ⟨w.heap.size, 0, none⟩) (by simp only; omega)).trans ((hb1.frozen (p := ⟨w.heap.size, 0, none⟩) (by simp)).trans (f0 0))
  have v1 := (hb2.frozen (p := ⟨w.heap.size, 1, none⟩) (by simp only; omega)).trans ((hb1.frozen (p := ⟨w.heap.size, 1, none⟩) (by simp)).trans (f0 1))
  have B := (((Below.refl w.heap.size w).alloc (Nat.le_refl _) (.cells #[.nilFunc, .nilFunc] 153)).trans (hb1.mono (by omega))).trans (hb2.mono (by omega))
  clear y0 y1 f0 hb1 hb2
  go_wp2_with fail
  (try simp only [Exit.inBlock, Exit.then])
  have c0 := World.cell?_setCell_same' w2 ⟨w.heap.size, 0, none⟩ (boxed (w.heap.size + 1)) (by rw [x0]; rfl)
  have x1' : (w2.setCell ⟨w.heap.size, 0, none⟩ (boxed (w.heap.size + 1))).cell? ⟨w.heap.size, 1, none⟩ = some .nilFunc := by rw [World.cell?_setCell_other (h := by simp)]; exact x1
  have c1 := World.cell?_setCell_same' (w2.setCell ⟨w.heap.size, 0, none⟩ (boxed (w.heap.size + 1))) ⟨w.heap.size, 1, none⟩ (boxed (w.heap.size + 2)) (by rw [x1']; rfl)
  have c2 : ((w2.setCell ⟨w.heap.size, 0, none⟩ (boxed (w.heap.size + 1))).setCell ⟨w.heap.size, 1, none⟩ (boxed (w.heap.size + 2))).cell? ⟨w.heap.size, 0, none⟩ = some (boxed (w.heap.size + 1)) := by rw [World.cell?_setCell_other (h := by simp)]; exact c0
  refine bodyPost_ret (v := .agg #[boxed (w.heap.size + 1), boxed (w.heap.size + 2)]) (by simp [results, Tryd.results162, go_sem, c1, c2]) rfl ⟨_, _, rfl, ?_, ?_, ?_, ?_, ?_⟩
  · simp; omega
  · simp; omega
  · rw [World.cell?_setCell_far _ _ _ _ (by simp), World.cell?_setCell_far _ _ _ _ (by simp)]; exact g1
  · rw [World.cell?_setCell_far _ _ _ _ (by simp), World.cell?_setCell_far _ _ _ _ (by simp)]; exact hc2
  · exact (B.setCell (Nat.le_refl _) _).setCell (Nat.le_refl _) _
end Go.Proofs.YtdmfladcldkmeaaDoor
