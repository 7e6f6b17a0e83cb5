/- Contracts: the character at a place, as package utf and the document's own answer have it. -/
import Derived.Test.YtdmfladcldkmeaaDoorUtfA
namespace Go.Proofs.YtdmfladcldkmeaaDoor
open Go.ChangeShapes Go.WideShapes Go.ChangeAt Go.RowKit
set_option linter.unusedVariables false

set_option maxHeartbeats 400000 in
theorem rest_any (l : List UInt8) (A : Option Addr) (n c k : Nat) (w : World) (hn : l.length = n) (hm : n ≤ 9223372036854775807) (hs : Sees w A (vB l)) :
    Calls Tryd.prog 159 #[.slice A n c, .int .i64 k] w fun e w' => e = .returned (.int .i64 (restS l k)) ∧ w = w' := by
  by_cases hk : k < n
  · obtain ⟨ad, rfl, hc⟩ := hs.byte (k := k) (by omega)
    have hb := byteAt_lt l k
    have hr : restS l k = if 128 ≤ byteAt l k ∧ byteAt l k ≤ 191 then (byteAt l k : Int) - 128 else -1 := by unfold restS; simp [hn, hk]
    obtain ⟨x, hx⟩ : ∃ x, byteAt l k = x := ⟨_, rfl⟩
    rw [hx] at hc hb hr
    have HR := Lib.hid hr
    clear hr hx hs hn
    by_cases h1 : x < 128
    · go_enter Tryd.func159, Tryd.ntmps159
      go_wp2
      go_ret
      exact ⟨ret_int (by rw [HR.out, if_neg (by omega)]), rfl⟩
    by_cases h2 : 191 < x
    · go_enter Tryd.func159, Tryd.ntmps159
      go_wp2
      go_ret
      exact ⟨ret_int (by rw [HR.out, if_neg (by omega)]), rfl⟩
    · go_enter Tryd.func159, Tryd.ntmps159
      go_wp2
      go_ret
      exact ⟨ret_int (by rw [HR.out, if_pos (by omega)]), rfl⟩
  · have hr : restS l k = -1 := by unfold restS; rw [if_neg (by omega)]
    have HR := Lib.hid hr
    clear hr hs hn
    go_enter Tryd.func159, Tryd.ntmps159
    go_wp2
    go_ret
    exact ⟨ret_int (by rw [HR.out]), rfl⟩

theorem least_any (n : Nat) (w : World) (h : n = 1 ∨ n = 2 ∨ n = 3 ∨ n = 4) :
    Calls Tryd.prog 183 #[.int .i64 n] w fun e w' => e = .returned (.int .i64 (if n = 2 then 128 else if n = 3 then 2048 else if n = 4 then 65536 else 0)) ∧ w = w' := by
  rcases h with rfl | rfl | rfl | rfl
  all_goals
    go_enter Tryd.func183, Tryd.ntmps183
    go_wp2
    go_ret
    exact ⟨rfl, rfl⟩
end Go.Proofs.YtdmfladcldkmeaaDoor
