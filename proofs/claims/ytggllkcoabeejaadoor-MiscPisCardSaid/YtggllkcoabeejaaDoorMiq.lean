/- What EqualFold wants: a rune that is no ASCII, the fold of six letters. -/
import Derived.Test.YtggllkcoabeejaaDoorMip
import Derived.Lib.LaidTab
import Derived.Lib.AppendIntMem
import Derived.Laws.RangeString
import Derived.Lib.Fold
namespace Go.Proofs.YtggllkcoabeejaaDoor
open Go.ChangeShapes Go.WideShapes Go.ChangeAt Go.RowKit
set_option linter.unusedVariables false
set_option maxRecDepth 100000

/-- A rune whose first byte is no ASCII is none. -/
theorem dec_ge (s : ByteArray) (i : Nat) (h : 128 ≤ (s.get! i).toNat) : 128 ≤ (Utf8.decode s i).1 := by
  unfold Utf8.decode Utf8.runeError
  simp only [Nat.add_zero]
  rw [if_neg (by omega)]
  split
  · split
    · assumption
    · decide
  · split
    · split
      · next h1 => simp only [Bool.and_eq_true, decide_eq_true_eq] at h1; simp only; omega
      · decide
    · split
      · split
        · next h1 => simp only [Bool.and_eq_true, decide_eq_true_eq] at h1; simp only; omega
        · decide
      · decide
/-- The library's table of folds. -/
def foldN (i : Nat) : Nat := if 65 ≤ i ∧ i ≤ 90 then i + 32 else if i = 107 then 8490 else if i = 115 then 383 else if 97 ≤ i ∧ i ≤ 122 then i - 32 else i
def foldT : List Int := (List.range 128).map fun i => ((foldN i : Nat) : Int)
def FoldAt (w : World) : Prop := Lib.TabIs Tryd.prog w "unicode.asciiFold" .u16 foldT
theorem FoldAt.below {w w' : World} (h : FoldAt w) (hb : Below w.heap.size w w') : FoldAt w' := Lib.tabBelow_of_tabIs h w' hb
theorem gFold : Tryd.prog.globalNamed "unicode.asciiFold" = some 1 := by kernel_rfl
theorem fold_cell {w : World} (h : FoldAt w) (i : Nat) (s : Int) (hs : foldT[i]? = some s) : w.cell? ⟨1, i, none⟩ = some (.int .u16 s) := by
  have hi := (List.getElem?_eq_some_iff.1 hs).1
  have := Lib.TabIs.cell h gFold i hi
  rw [this, List.getD_eq_getElem?_getD, hs]
  rfl
set_option maxHeartbeats 1000000 in
theorem sfold_any (r s : Nat) (w : World) (hr : r < 128) (hs : s < 65536) (h : foldT[r]? = some (s : Int)) (hf : FoldAt w) :
    Calls Tryd.prog 49 #[.int .i32 r] w fun e w' => e = .returned (.int .i32 s) ∧ w = w' := by
  have hc := fold_cell hf r s h
  have i0 : (0 : Int) ≤ (r : Int) := by omega
  have i1 : (r : Int) < 128 := by omega
  have i2 : ¬ ((1114111 : Int) < (r : Int)) := by omega
  clear hf h
  go_enter Tryd.func49, Tryd.ntmps49
  go_wp2_with fail
  go_ret
  exact ⟨rfl, rfl⟩
/-- Three ASCII bytes: what folds is what is reserved. -/
theorem fold_res (l : List UInt8) (h3 : l.length = 3) : Lib.equalFold l [120, 109, 108] = resB l := by
  match l, h3 with
  | [a, b, c], _ =>
    have k0 : byteAt [a, b, c] 0 = a.toNat := rfl
    have k1 : byteAt [a, b, c] 1 = b.toNat := rfl
    have k2 : byteAt [a, b, c] 2 = c.toNat := rfl
    have f0 : Lib.foldEq a 120 = decide (a.toNat = 120 ∨ a.toNat = 88) := by unfold Lib.foldEq; rw [show (120 : UInt8).toNat = 120 from rfl]; exact decide_eq_decide.2 (by omega)
    have f1 : Lib.foldEq b 109 = decide (b.toNat = 109 ∨ b.toNat = 77) := by unfold Lib.foldEq; rw [show (109 : UInt8).toNat = 109 from rfl]; exact decide_eq_decide.2 (by omega)
    have f2 : Lib.foldEq c 108 = decide (c.toNat = 108 ∨ c.toNat = 76) := by unfold Lib.foldEq; rw [show (108 : UInt8).toNat = 108 from rfl]; exact decide_eq_decide.2 (by omega)
    unfold resB
    rw [k0, k1, k2]
    simp only [Lib.equalFold, f0, f1, f2, Bool.and_true]
    rw [Bool.eq_iff_iff]
    simp
end Go.Proofs.YtggllkcoabeejaaDoor
