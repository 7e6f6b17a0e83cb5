/- References: bytes.Equal and HasPrefix over two bytes that are known. -/
import Derived.Test.YtdmfladcldkmeaaDoorCra
import Derived.Test.YtdmfladcldkmeaaDoorNamf
namespace Go.Proofs.YtdmfladcldkmeaaDoor
open Go.ChangeShapes Go.WideShapes Go.ChangeAt Go.RowKit
set_option linter.unusedVariables false
set_option maxRecDepth 100000

set_option maxHeartbeats 1000000 in
theorem bEqual_any (l m : List UInt8) (A B : Option Addr) (n k c d : Nat) (w : World) (hn : l.length = n) (hk : m.length = k) (hs : Sees w A (vB l)) (ht : Sees w B (vB m)) :
    Calls Tryd.prog 108 #[.slice A n c, .slice B k d] w fun e w' => e = .returned (.bool (l == m)) ∧ w = w' := by
  have k1 : ∀ W : World, Sees W A (vB l) → (convert 36 9 (.slice A n c)).run Tryd.prog W = .ok (.string ⟨l.toArray⟩) W := fun W hW => conv_sees W A n c l hn hW
  have k2 : ∀ W : World, Sees W B (vB m) → (convert 36 9 (.slice B k d)).run Tryd.prog W = .ok (.string ⟨m.toArray⟩) W := fun W hW => conv_sees W B k d m hk hW
  have c1 := k1 w hs
  have c2 := k2 w ht
  clear k1 k2 hs ht hn hk
  go_enter Tryd.func108, Tryd.ntmps108
  go_wp2_with fail
  go_ret
  exact ⟨rfl, rfl⟩

set_option maxHeartbeats 1000000 in
theorem hasPre_any (l m : List UInt8) (A B : Option Addr) (n k c d : Nat) (w : World) (hn : l.length = n) (hnc : n ≤ c) (h9 : n ≤ 1000000) (hk : m.length = k) (h0 : 0 < k) (h8 : k ≤ 1000000) (hs : Sees w A (vB l)) (ht : Sees w B (vB m)) :
    Calls Tryd.prog 66 #[.slice A n c, .slice B k d] w fun e w' => e = .returned (.bool (l.take k == m)) ∧ w = w' := by
  by_cases hkn : k ≤ n
  · obtain ⟨ad, rfl, _⟩ := hs.byte (k := 0) (by omega)
    have hs2 := hs.take k
    rw [← vB_take] at hs2
    have H := Lib.hid (bEqual_any (l.take k) m (some ad) B k k c d w (by rw [List.length_take]; omega) hk hs2 ht)
    clear hs hs2 ht
    go_enter Tryd.func66, Tryd.ntmps66
    go_wp2_with fail
    refine H.out.mono ?_
    rintro e w1 ⟨rfl, rfl⟩
    go_wp2_with fail
    go_ret
    exact ⟨rfl, rfl⟩
  · have hf : false = (l.take k == m) := by
      symm
      rw [beq_eq_false_iff_ne]
      intro e
      have := congrArg List.length e
      rw [List.length_take] at this
      omega
    have HF := Lib.hid hf
    have hlt : n < k := by omega
    clear hs ht hf hkn
    go_enter Tryd.func66, Tryd.ntmps66
    go_wp2_with fail
    go_ret
    exact ⟨ret_bool HF.out, rfl⟩
end Go.Proofs.YtdmfladcldkmeaaDoor
