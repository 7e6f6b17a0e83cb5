/- Strings of known bytes: an index, a piece, two of them one behind the other. -/
import Derived.Test.YtncoldgkljnbeaaDoorNamf
import Derived.Laws.Strings
namespace Go.Proofs.YtncoldgkljnbeaaDoor
open Go.ChangeShapes Go.WideShapes Go.ChangeAt Go.RowKit
set_option linter.unusedVariables false

theorem str_size (l : List UInt8) : (⟨l.toArray⟩ : ByteArray).size = l.length := by simp [ByteArray.size]
theorem str_idx (l : List UInt8) (k : Nat) (hk : k < l.length) (w : World) :
    (Instr.index 9 (.string ⟨l.toArray⟩) (.int .i64 (k : Int))).run Tryd.prog w = .ok (.int .u8 (byteAt l k : Int)) w := by
  rw [run_index_string w 9 _ _ _ Tryd.underlying9, dif_pos ⟨by omega, by rw [str_size]; omega⟩]
  congr 3
  unfold byteAt
  simp only [Int.toNat_natCast]
  show (l.toArray[k]'(by simpa using hk)).toNat = _
  rw [List.getElem?_eq_getElem hk]
  simp
theorem str_app (l m : List UInt8) : (⟨l.toArray⟩ : ByteArray) ++ ⟨m.toArray⟩ = ⟨(l ++ m).toArray⟩ := by
  apply ByteArray.ext
  simp [ByteArray.data_append]
end Go.Proofs.YtncoldgkljnbeaaDoor
