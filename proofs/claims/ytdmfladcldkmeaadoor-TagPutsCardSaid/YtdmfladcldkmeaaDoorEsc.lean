/- Escape: what each byte comes to; the program's walk. -/
import Derived.Test.YtdmfladcldkmeaaDoorStr
import Derived.Test.YtdmfladcldkmeaaDoorBld
namespace Go.Proofs.YtdmfladcldkmeaaDoor
open Go.ChangeShapes Go.WideShapes Go.ChangeAt Go.RowKit
set_option linter.unusedVariables false
set_option maxRecDepth 100000

/-- What a byte comes to. -/
def escB (b : Nat) : List UInt8 :=
  if b = 38 then [38, 97, 109, 112, 59] else if b = 60 then [38, 108, 116, 59] else if b = 62 then [38, 103, 116, 59] else if b = 34 then [38, 113, 117, 111, 116, 59]
  else if b = 13 then [38, 35, 49, 51, 59] else if b = 10 then [38, 35, 49, 48, 59] else if b = 9 then [38, 35, 57, 59] else [UInt8.ofNat b]
/-- A text, escaped. -/
def escL (l : List UInt8) : List UInt8 := l.flatMap fun c => escB c.toNat
theorem escB_le (b : Nat) : (escB b).length ≤ 6 := by
  unfold escB
  repeat' split
  all_goals simp
theorem escL_nil : escL [] = [] := rfl
theorem escL_app (l m : List UInt8) : escL (l ++ m) = escL l ++ escL m := by unfold escL; rw [List.flatMap_append]
theorem escL_le (l : List UInt8) : (escL l).length ≤ 6 * l.length := by
  induction l with
  | nil => simp [escL]
  | cons c l ih =>
    have h := escB_le c.toNat
    rw [show escL (c :: l) = escB c.toNat ++ escL l from rfl, List.length_append, List.length_cons]
    omega
theorem escL_snoc (l : List UInt8) (k : Nat) (hk : k < l.length) : escL (l.take (k + 1)) = escL (l.take k) ++ escB (byteAt l k) := by
  rw [List.take_succ_eq_append_getElem hk, escL_app]
  congr 1
  unfold byteAt
  rw [List.getElem?_eq_getElem hk]
  show escB _ ++ [] = _
  rw [List.append_nil]
  rfl

theorem itoa_13 (w : World) : Calls Tryd.prog 131 #[.int .i64 13] w fun e w' => e = .returned (.string ⟨#[49, 51]⟩) ∧ w = w' := by
  go_enter Tryd.func131, Tryd.ntmps131
  go_wp2
  go_ret
  exact ⟨rfl, rfl⟩
theorem itoa_10 (w : World) : Calls Tryd.prog 131 #[.int .i64 10] w fun e w' => e = .returned (.string ⟨#[49, 48]⟩) ∧ w = w' := by
  go_enter Tryd.func131, Tryd.ntmps131
  go_wp2
  go_ret
  exact ⟨rfl, rfl⟩
theorem itoa_9 (w : World) : Calls Tryd.prog 131 #[.int .i64 9] w fun e w' => e = .returned (.string ⟨#[57]⟩) ∧ w = w' := by
  go_enter Tryd.func131, Tryd.ntmps131
  go_wp2
  go_ret
  exact ⟨rfl, rfl⟩
/-- At the loop's head: what is escaped so far. -/
def EscRel (l : List UInt8) (B : Nat) (w0 : World) (i : Value) (w : World) : Prop := ∃ k : Nat, k ≤ l.length ∧ i = .int .i64 k ∧ Bld B B (escL (l.take k)) w ∧ Below B w0 w
theorem escRel_mk {l : List UInt8} {B : Nat} {w0 w : World} {i : Int} (k : Nat) (h1 : k ≤ l.length) (h2 : i = k) (h3 : Bld B B (escL (l.take k)) w) (h4 : Below B w0 w) : EscRel l B w0 (.int .i64 i) w :=
  ⟨k, h1, by rw [h2], h3, h4⟩
end Go.Proofs.YtdmfladcldkmeaaDoor
