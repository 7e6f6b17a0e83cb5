/- References: Entity and Param; which names are always known, by the document. -/
import Derived.Test.YtdmfladcldkmeaaDoorCra
import Derived.Test.YtdmfladcldkmeaaDoorNamf
namespace Go.Proofs.YtdmfladcldkmeaaDoor
open Go.ChangeShapes Go.WideShapes Go.ChangeAt Go.RowKit
set_option linter.unusedVariables false
set_option maxRecDepth 100000

theorem entV_tup (l : List UInt8) (k : Int) (mark : Nat) : ∃ s z e, entV l k mark = .tuple #[.string s, .int .i64 z, .int .i64 e] := by
  unfold entV noV
  split
  · exact ⟨_, _, _, rfl⟩
  · split
    · exact ⟨_, _, _, rfl⟩
    · split
      · exact ⟨_, _, _, rfl⟩
      · split
        · exact ⟨_, _, _, rfl⟩
        · split <;> exact ⟨_, _, _, rfl⟩

set_option maxHeartbeats 1000000 in
theorem entity_any (l : List UInt8) (A : Option Addr) (n c : Nat) (k : Int) (w : World)
    (hn : l.length = n) (hnc : n ≤ c) (hm : c ≤ 9223372036854775807) (hk : I64 k) (hn9 : n ≤ 1000000) (hs : Sees w A (vB l)) (ht : TabN w) :
    Calls Tryd.prog 164 #[.slice A n c, .int .i64 k] w fun e w' => e = .returned (entV l k 38) ∧ Below w.heap.size w w' := by
  have H := cread_any l A n c k 38 w hn hnc hm hk hn9 (by omega) hs ht
  obtain ⟨x, y, z, hv⟩ := entV_tup l k 38
  rw [hv] at H ⊢
  have HH := Lib.hid H
  clear H hv
  go_enter Tryd.func164, Tryd.ntmps164
  go_wp2_with fail
  refine HH.out.mono ?_
  rintro e w1 ⟨rfl, hb⟩
  go_wp2_with fail
  go_ret3
  exact ⟨rfl, hb⟩


def knownN (l : List UInt8) : Int := if l = [108, 116] then 60 else if l = [103, 116] then 62 else if l = [97, 109, 112] then 38 else if l = [97, 112, 111, 115] then 39 else if l = [113, 117, 111, 116] then 34 else 0
end Go.Proofs.YtdmfladcldkmeaaDoor
