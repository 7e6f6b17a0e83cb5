/- join.All. -/
import Derived.Test.YtoiplpmjocemfaaJng
namespace Go.Proofs.Ytoiplpmjocemfaa
open Go.ChangeShapes Go.WideShapes Go.ChangeAt Go.RowKit
set_option linter.unusedVariables false
set_option maxRecDepth 100000

theorem new_any (g : Fn) (x y : Array Value) (w : World) : Calls Try.prog 46 #[.func g x y] w fun en w' => en = .returned (.pointer (some ⟨w.heap.size, 0, none⟩)) ∧ w' = w.alloc (.cells #[.func g x y, .slice none 0 0] 118) := by
  go_enter Try.func46, Try.ntmps46
  go_wp2_with fail
  go_ret
  exact ⟨rfl, rfl⟩
theorem AllAt.ok {b0 C : Nat} {w : World} {B : Option Addr} {q d : Nat} {o : List Ev} (h : AllAt b0 C w B q d o) : EvsOk w B o :=
  ⟨own_seesK h.row, fun e he => ⟨own_seesK (h.atts e he).1, (own_capK (h.atts e he).1).1, (own_capK (h.atts e he).1).2, (h.atts e he).2⟩⟩
/-- Rows of events that say what others do. -/
def LikePost (w : World) (o : List Ev) (en : Ending) (w' : World) : Prop :=
  ∃ A c o', en = .returned (.slice A o'.length c) ∧ EvsOk w' A o' ∧ o'.map nrm = o.map nrm ∧ o'.length ≤ c ∧ c ≤ 9223372036854775807 ∧ Below w.heap.size w w'
set_option maxHeartbeats 4000000 in
theorem jall_any (l : List Ev) (A : Option Addr) (n c : Nat) (w : World) (hl : l.length = n) (hnc : n ≤ c) (hc9 : c ≤ 9223372036854775807) (hn9 : n ≤ 1000000) (ht : txLen l n ≤ 140737488355328) (hat : ∀ e ∈ l, e.at_.length ≤ 1000000) (hA : EvsOk w A l) :
    Calls Try.prog 43 #[.slice A n c] w (LikePost w (joinA l)) := by
  have hb1 := (Below.refl w.heap.size w).alloc (Nat.le_refl _) (.cells #[.slice none 0 0] 66)
  have hb2 := hb1.alloc hb1.size (.cells #[.func (.func 70) #[] #[.pointer (some ⟨w.heap.size, 0, none⟩)], .slice none 0 0] 118)
  have hC : ((w.alloc (.cells #[.slice none 0 0] 66)).alloc (.cells #[.func (.func 70) #[] #[.pointer (some ⟨w.heap.size, 0, none⟩)], .slice none 0 0] 118)).heap[w.heap.size]? = some (.cells #[.slice none 0 0] 66) := (Below.heap_alloc _ _ _ (by simp)).trans (alloc_at w _)
  have hJ : ((w.alloc (.cells #[.slice none 0 0] 66)).alloc (.cells #[.func (.func 70) #[] #[.pointer (some ⟨w.heap.size, 0, none⟩)], .slice none 0 0] 118)).heap[w.heap.size + 1]? = some (.cells #[.func (.func 70) #[] #[.pointer (some ⟨w.heap.size, 0, none⟩)], .slice none 0 0] 118) := by
    have h := alloc_at (w.alloc (.cells #[.slice none 0 0] 66)) (.cells #[.func (.func 70) #[] #[.pointer (some ⟨w.heap.size, 0, none⟩)], .slice none 0 0] 118)
    rw [World.size_alloc] at h
    exact h
  have KE := Lib.hid (each_any l A n c w.heap.size (w.heap.size + 1) w _ hl hnc hc9 hn9 ht hat hA hb2 (Nat.le_refl _) (by omega) none none 0 0 ⟨hC, World.ownsRow_nil _ _ _ _, fun e he => absurd he (by simp), rfl⟩ ⟨hJ, World.ownsRow_nil _ _ _ _, rfl⟩)
  have HL := Lib.hid hl
  clear hl hA hat hC hJ
  go_enter Try.func43, Try.ntmps43
  go_wp2_with fail
  refine (new_any _ _ _ _).mono ?_
  rintro en w1 ⟨rfl, rfl⟩
  rw [World.size_alloc]
  go_wp2_with fail
  refine KE.out.mono ?_
  rintro en w2 ⟨rfl, j, q, dq, m, d, B, T, o', hj, hjn, hq, HAL, HMP, HJO, hbe⟩
  have hjn' : j = n := by injection hjn with _ h; omega
  subst hjn'
  have KF := Lib.hid (flush_any w.heap.size w.heap.size (w.heap.size + 1) B T q dq m d o' (joinN l j).2 w2 (Nat.le_refl _) (by omega) HAL.out HJO.out (by omega))
  go_wp2_with fail
  refine KF.out.mono ?_
  rintro en w3 ⟨rfl, B3, q3, dq3, T3, m3, d3, o3, ha3, ho3, hq3, hj3, hb3, hf3⟩
  have c3 := cell_at (k := 0) ha3.cell rfl
  have HA3 := Lib.hid ha3
  have HO3 := Lib.hid ho3
  have HB3 := Lib.hid ((hb2.trans hbe).trans hb3)
  clear ha3 ho3 hj3 hf3 hb3
  go_wp2_with fail
  go_ret
  have hcp := own_capK HA3.out.row
  have hlen := HA3.out.len
  subst hlen
  refine ⟨B3, dq3, o3, rfl, HA3.out.ok, ?_, hcp.1, hcp.2, HB3.out⟩
  rw [HO3.out]
  unfold joinA
  rw [HL.out]
  exact flush_nrm (o := (joinN l j).1) HMP.out
end Go.Proofs.Ytoiplpmjocemfaa
