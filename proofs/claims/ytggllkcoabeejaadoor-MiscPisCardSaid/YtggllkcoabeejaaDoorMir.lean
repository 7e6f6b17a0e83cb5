/- strings.EqualFold beyond ASCII: three bytes, one of them from 128 on, against "xml": never equal. -/
import Derived.Test.YtggllkcoabeejaaDoorMiq
import Derived.Laws.BitsAllLaws
import Derived.WalkMore
import Derived.ScopeJumps
import Derived.Deep.LoopGhost
namespace Go.Proofs.YtggllkcoabeejaaDoor
open Go.ChangeShapes Go.WideShapes Go.ChangeAt Go.RowKit
set_option linter.unusedVariables false
set_option maxRecDepth 1000000

theorem run_next_any (w : World) (s : ByteArray) (pos : Nat) (ty : TypeId) (h : pos < s.size) (c k : Nat) (e : Utf8.decode s pos = (c, k)) :
    (Instr.next (.pointer (some ⟨w.heap.size, 0, none⟩)) true ty).run Tryd.prog (w.iter s pos) =
      .ok (.tuple #[.bool true, .int .i64 pos, .int .i32 c]) (w.iter s (pos + k)) := by
  simp only [Instr.next, getObj, setObj, Sem.run_bind, Sem.run, World.iter_heap, Result.andThen, h, if_true, e, World.iter_set]
  rfl
theorem below_iter {w w' : World} {k : Nat} (h : Below k w w') (hk : k ≤ w'.heap.size) (s : ByteArray) (pos : Nat) : Below k w (w'.iter s pos) := by
  exact h.alloc hk _
theorem str_from (l : List UInt8) (q : Nat) (hq : q ≤ l.length) (W : World) : (Instr.slice 9 (strV l) (some (.int .i64 (q : Int))) none none).run Tryd.prog W = .ok (strV (l.drop q)) W := by
  rw [show strV l = .string ⟨l.toArray⟩ from rfl, run_slice_string_from_if W 9 _ _ _ Tryd.underlying9, if_pos ⟨by omega, by rw [str_size]; omega⟩]
  congr 2
  rw [str_size, Int.toNat_natCast]
  apply ByteArray.ext
  simp [ByteArray.data_extract]
  rw [List.take_of_length_le (by simp)]
theorem drune_any (c : UInt8) (r : List UInt8) (w : World) (h : c.toNat < 128) : Calls Tryd.prog 48 #[strV (c :: r)] w fun e w' => e = .returned (.tuple #[.int .i32 (c.toNat : Int), .int .i64 1]) ∧ w = w' := by
  have x0 : ∀ W : World, (Instr.index 9 (strV (c :: r)) (.int .i64 (0 : Int))).run Tryd.prog W = .ok (.int .u8 (c.toNat : Int)) W := fun W => str_idx (c :: r) 0 (by simp) W
  have i1 : (c.toNat : Int) < 128 := by omega
  go_enter Tryd.func48, Tryd.ntmps48
  go_wp2_with fail
  go_returns
  exact ⟨rfl, rfl⟩
end Go.Proofs.YtggllkcoabeejaaDoor
