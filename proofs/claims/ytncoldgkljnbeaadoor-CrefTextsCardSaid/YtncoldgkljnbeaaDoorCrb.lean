/- References: Entity and Param; which names are always known, by the document. -/
import Derived.Test.YtncoldgkljnbeaaDoorCra
namespace Go.Proofs.YtncoldgkljnbeaaDoor
open Go.ChangeShapes Go.WideShapes Go.ChangeAt Go.RowKit
set_option linter.unusedVariables false
set_option maxRecDepth 100000

theorem entV_tup (l : List UInt8) (k : Int) (mark : Nat) : ∃ s z e, entV l k mark = .tuple #[.string s, .int .i64 z, .int .i64 e] := by
  unfold entV noV
  split
  · exact ⟨_, _, _, rfl⟩
  · split
    · exact ⟨_, _, _, rfl⟩
    · split
      · exact ⟨_, _, _, rfl⟩
      · split
        · exact ⟨_, _, _, rfl⟩
        · split <;> exact ⟨_, _, _, rfl⟩

set_option maxHeartbeats 1000000 in
theorem entity_any (l : List UInt8) (A : Option Addr) (n c : Nat) (k : Int) (w : World)
    (hn : l.length = n) (hnc : n ≤ c) (hm : c ≤ 9223372036854775807) (hk : I64 k) (hn9 : n ≤ 1000000) (hs : Sees w A (vB l)) (ht : TabN w) :
    Calls Tryd.prog 27 #[.slice A n c, .int .i64 k] w fun e w' => e = .returned (entV l k 38) ∧ Below w.heap.size w w' := by
  have H := cread_any l A n c k 38 w hn hnc hm hk hn9 (by omega) hs ht
  obtain ⟨x, y, z, hv⟩ := entV_tup l k 38
  rw [hv] at H ⊢
  have HH := Lib.hid H
  clear H hv
  go_enter Tryd.func27, Tryd.ntmps27
  go_wp2_with fail
  refine HH.out.mono ?_
  rintro e w1 ⟨rfl, hb⟩
  go_wp2_with fail
  go_ret3
  exact ⟨rfl, hb⟩

set_option maxHeartbeats 1000000 in
theorem param_any (l : List UInt8) (A : Option Addr) (n c : Nat) (k : Int) (w : World)
    (hn : l.length = n) (hnc : n ≤ c) (hm : c ≤ 9223372036854775807) (hk : I64 k) (hn9 : n ≤ 1000000) (hs : Sees w A (vB l)) (ht : TabN w) :
    Calls Tryd.prog 28 #[.slice A n c, .int .i64 k] w fun e w' => e = .returned (entV l k 37) ∧ Below w.heap.size w w' := by
  have H := cread_any l A n c k 37 w hn hnc hm hk hn9 (by omega) hs ht
  obtain ⟨x, y, z, hv⟩ := entV_tup l k 37
  rw [hv] at H ⊢
  have HH := Lib.hid H
  clear H hv
  go_enter Tryd.func28, Tryd.ntmps28
  go_wp2_with fail
  refine HH.out.mono ?_
  rintro e w1 ⟨rfl, hb⟩
  go_wp2_with fail
  go_ret3
  exact ⟨rfl, hb⟩

def knownN (l : List UInt8) : Int := if l = [108, 116] then 60 else if l = [103, 116] then 62 else if l = [97, 109, 112] then 38 else if l = [97, 112, 111, 115] then 39 else if l = [113, 117, 111, 116] then 34 else 0
set_option maxHeartbeats 1000000 in
theorem rknown_any (l : List UInt8) (w : World) :
    Calls Tryd.prog 31 #[strV l] w fun e w' => e = .returned (.int .i64 (knownN l)) ∧ w = w' := by
  unfold knownN
  by_cases h1 : l = [108, 116]
  · subst h1
    go_enter Tryd.func31, Tryd.ntmps31
    go_wp2_with fail
    go_ret
    exact ⟨rfl, rfl⟩
  rw [if_neg h1]
  by_cases h2 : l = [103, 116]
  · subst h2
    go_enter Tryd.func31, Tryd.ntmps31
    go_wp2_with fail
    go_ret
    exact ⟨rfl, rfl⟩
  rw [if_neg h2]
  by_cases h3 : l = [97, 109, 112]
  · subst h3
    go_enter Tryd.func31, Tryd.ntmps31
    go_wp2_with fail
    go_ret
    exact ⟨rfl, rfl⟩
  rw [if_neg h3]
  by_cases h4 : l = [97, 112, 111, 115]
  · subst h4
    go_enter Tryd.func31, Tryd.ntmps31
    go_wp2_with fail
    go_ret
    exact ⟨rfl, rfl⟩
  rw [if_neg h4]
  by_cases h5 : l = [113, 117, 111, 116]
  · subst h5
    go_enter Tryd.func31, Tryd.ntmps31
    go_wp2_with fail
    go_ret
    exact ⟨rfl, rfl⟩
  rw [if_neg h5]
  have e1 : (l == [108, 116]) = false := by rw [beq_eq_false_iff_ne]; exact h1
  have e2 : (l == [103, 116]) = false := by rw [beq_eq_false_iff_ne]; exact h2
  have e3 : (l == [97, 109, 112]) = false := by rw [beq_eq_false_iff_ne]; exact h3
  have e4 : (l == [97, 112, 111, 115]) = false := by rw [beq_eq_false_iff_ne]; exact h4
  have e5 : (l == [113, 117, 111, 116]) = false := by rw [beq_eq_false_iff_ne]; exact h5
  clear h1 h2 h3 h4 h5
  go_enter Tryd.func31, Tryd.ntmps31
  go_wp2_with fail
  go_ret
  exact ⟨rfl, rfl⟩
end Go.Proofs.YtncoldgkljnbeaaDoor
