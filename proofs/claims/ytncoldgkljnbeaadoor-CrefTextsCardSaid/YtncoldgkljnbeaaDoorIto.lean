/- strconv.Itoa of a number from 0 on: its decimal digits. (The text YtncoldgkljnbeaaDoorItoa is laid by wip/bin/itoa.sh.) -/
import Derived.Test.YtncoldgkljnbeaaDoorItoa
import Derived.Test.YtncoldgkljnbeaaDoorNamf
import Derived.Lib.ItoaMem
import Derived.Lib.AppendIntMem
namespace Go.Proofs.YtncoldgkljnbeaaDoor
open Go.ChangeShapes Go.WideShapes Go.ChangeAt Go.RowKit
set_option linter.unusedVariables false

/-- The library's table of the powers of 10 lies as it was laid. -/
def Pow (w : World) : Prop := Lib.TabIs Tryd.prog w "internal/strconv.uint64pow10" .u64 Lib.pow10Tab
theorem Pow.below {w w' : World} (h : Pow w) (hb : Below w.heap.size w w') : Pow w' := Lib.tabBelow_of_tabIs h w' hb
theorem itoa_any (n : Nat) (w : World) (hn : n ≤ 9223372036854775807) (hp : Pow w) :
    Calls Tryd.prog 70 #[.int .i64 (n : Int)] w fun e w' => e = .returned (strV (Lib.decDigits n)) ∧ Below w.heap.size w w' := by
  have h := Tryd.strconv_Itoa (n : Int) (by omega) (by omega) w hp
  rw [Lib.itoa_nonneg] at h
  refine h.mono ?_
  rintro e w' ⟨rfl, k, os, rfl⟩
  exact ⟨rfl, Lib.below_grow _ w (Nat.le_refl _) k os⟩
end Go.Proofs.YtncoldgkljnbeaaDoor
