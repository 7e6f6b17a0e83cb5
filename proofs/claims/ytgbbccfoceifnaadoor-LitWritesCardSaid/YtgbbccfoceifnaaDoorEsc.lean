/- Escape: what each byte comes to; the program's walk. -/
import Derived.Test.YtgbbccfoceifnaaDoorStr
import Derived.Test.YtgbbccfoceifnaaDoorBld
namespace Go.Proofs.YtgbbccfoceifnaaDoor
open Go.ChangeShapes Go.WideShapes Go.ChangeAt Go.RowKit
set_option linter.unusedVariables false
set_option maxRecDepth 100000

/-- What a byte comes to. -/
def escB (b : Nat) : List UInt8 :=
  if b = 38 then [38, 97, 109, 112, 59] else if b = 60 then [38, 108, 116, 59] else if b = 62 then [38, 103, 116, 59] else if b = 34 then [38, 113, 117, 111, 116, 59]
  else if b = 13 then [38, 35, 49, 51, 59] else if b = 10 then [38, 35, 49, 48, 59] else if b = 9 then [38, 35, 57, 59] else [UInt8.ofNat b]
/-- A text, escaped. -/
def escL (l : List UInt8) : List UInt8 := l.flatMap fun c => escB c.toNat
theorem escB_le (b : Nat) : (escB b).length ≤ 6 := by
  unfold escB
  repeat' split
  all_goals simp
theorem escL_nil : escL [] = [] := rfl
theorem escL_app (l m : List UInt8) : escL (l ++ m) = escL l ++ escL m := by unfold escL; rw [List.flatMap_append]
theorem escL_le (l : List UInt8) : (escL l).length ≤ 6 * l.length := by
  induction l with
  | nil => simp [escL]
  | cons c l ih =>
    have h := escB_le c.toNat
    rw [show escL (c :: l) = escB c.toNat ++ escL l from rfl, List.length_append, List.length_cons]
    omega
theorem escL_snoc (l : List UInt8) (k : Nat) (hk : k < l.length) : escL (l.take (k + 1)) = escL (l.take k) ++ escB (byteAt l k) := by
  rw [List.take_succ_eq_append_getElem hk, escL_app]
  congr 1
  unfold byteAt
  rw [List.getElem?_eq_getElem hk]
  show escB _ ++ [] = _
  rw [List.append_nil]
  rfl

theorem itoa_13 (w : World) : Calls Tryd.prog 121 #[.int .i64 13] w fun e w' => e = .returned (.string ⟨#[49, 51]⟩) ∧ w = w' := by
  go_enter Tryd.func121, Tryd.ntmps121
  go_wp2
  go_ret
  exact ⟨rfl, rfl⟩
theorem itoa_10 (w : World) : Calls Tryd.prog 121 #[.int .i64 10] w fun e w' => e = .returned (.string ⟨#[49, 48]⟩) ∧ w = w' := by
  go_enter Tryd.func121, Tryd.ntmps121
  go_wp2
  go_ret
  exact ⟨rfl, rfl⟩
theorem itoa_9 (w : World) : Calls Tryd.prog 121 #[.int .i64 9] w fun e w' => e = .returned (.string ⟨#[57]⟩) ∧ w = w' := by
  go_enter Tryd.func121, Tryd.ntmps121
  go_wp2
  go_ret
  exact ⟨rfl, rfl⟩
/-- At the loop's head: what is escaped so far. -/
def EscRel (l : List UInt8) (B : Nat) (w0 : World) (i : Value) (w : World) : Prop := ∃ k : Nat, k ≤ l.length ∧ i = .int .i64 k ∧ Bld B B (escL (l.take k)) w ∧ Below B w0 w
theorem escRel_mk {l : List UInt8} {B : Nat} {w0 w : World} {i : Int} (k : Nat) (h1 : k ≤ l.length) (h2 : i = k) (h3 : Bld B B (escL (l.take k)) w) (h4 : Below B w0 w) : EscRel l B w0 (.int .i64 i) w :=
  ⟨k, h1, by rw [h2], h3, h4⟩

set_option maxHeartbeats 4000000 in
theorem escape_any (l : List UInt8) (w : World) (hl : l.length ≤ 1000000) :
    Calls Tryd.prog 75 #[strV l] w fun e w' => e = .returned (strV (escL l)) ∧ Below w.heap.size w w' := by
  have HM := Lib.hid (bld_made w)
  have HSZ := str_size l
  have hb0 : Below w.heap.size w (w.alloc (.cells #[.pointer none, .slice none 0 0] 119)) := (Below.refl _ w).alloc (Nat.le_refl _) _
  obtain ⟨B, hB⟩ : ∃ B, w.heap.size = B := ⟨_, rfl⟩
  rw [hB] at HM hb0 ⊢
  have HB := Lib.hid hB
  clear hB
  go_enter Tryd.func75, Tryd.ntmps75
  go_wp2_with fail
  rw [HB.out]
  go_loopw [8] (fun i wr => EscRel l B w i wr) (fun i _ => l.length - (intOf i).toNat)
  case atStart => exact escRel_mk 0 (by omega) rfl HM.out hb0
  case round =>
    obtain ⟨k, hk, rfl, hbl, hbw⟩ := hrel
    have HBL := Lib.hid hbl
    have hsz := hbw.size
    rw [HB.out] at hsz
    have hel := escL_le (l.take k)
    rw [List.length_take] at hel
    clear hbl
    by_cases hlt : k < l.length
    · have hix := str_idx l k hlt
      have hsn := escL_snoc l k hlt
      obtain ⟨c, hc⟩ : ∃ c, byteAt l k = c := ⟨_, rfl⟩
      have hc9 := byteAt_lt l k
      rw [hc] at hix hsn hc9
      clear hc
      by_cases h38 : c = 38
      · subst h38
        rw [show escB 38 = [38, 97, 109, 112, 59] from rfl] at hsn
        have HSN := Lib.hid hsn
        have HW := Lib.hid (bldStr_any B B (escL (l.take k)) [38, 97, 109, 112, 59] wr HBL.out (by simp; omega) hsz)
        clear hsn
        go_wp2_with fail
        refine HW.out.mono ?_
        rintro e w1 ⟨rfl, hb1, hw1⟩
        have HB1 := Lib.hid hb1
        have hB2 := hbw.trans hw1
        clear hb1 hw1
        go_wp2_with fail
        go_roundw
        case rel => exact escRel_mk (k + 1) (by omega) (by omega) (by rw [HSN.out]; exact HB1.out) hB2
        case measure => simp [intOf]; omega
      have t38 : ((c : Int) == 38) = false := by simp; omega
      by_cases h60 : c = 60
      · subst h60
        rw [show escB 60 = [38, 108, 116, 59] from rfl] at hsn
        have HSN := Lib.hid hsn
        have HW := Lib.hid (bldStr_any B B (escL (l.take k)) [38, 108, 116, 59] wr HBL.out (by simp; omega) hsz)
        clear hsn
        go_wp2_with fail
        refine HW.out.mono ?_
        rintro e w1 ⟨rfl, hb1, hw1⟩
        have HB1 := Lib.hid hb1
        have hB2 := hbw.trans hw1
        clear hb1 hw1
        go_wp2_with fail
        go_roundw
        case rel => exact escRel_mk (k + 1) (by omega) (by omega) (by rw [HSN.out]; exact HB1.out) hB2
        case measure => simp [intOf]; omega
      have t60 : ((c : Int) == 60) = false := by simp; omega
      by_cases h62 : c = 62
      · subst h62
        rw [show escB 62 = [38, 103, 116, 59] from rfl] at hsn
        have HSN := Lib.hid hsn
        have HW := Lib.hid (bldStr_any B B (escL (l.take k)) [38, 103, 116, 59] wr HBL.out (by simp; omega) hsz)
        clear hsn
        go_wp2_with fail
        refine HW.out.mono ?_
        rintro e w1 ⟨rfl, hb1, hw1⟩
        have HB1 := Lib.hid hb1
        have hB2 := hbw.trans hw1
        clear hb1 hw1
        go_wp2_with fail
        go_roundw
        case rel => exact escRel_mk (k + 1) (by omega) (by omega) (by rw [HSN.out]; exact HB1.out) hB2
        case measure => simp [intOf]; omega
      have t62 : ((c : Int) == 62) = false := by simp; omega
      by_cases h34 : c = 34
      · subst h34
        rw [show escB 34 = [38, 113, 117, 111, 116, 59] from rfl] at hsn
        have HSN := Lib.hid hsn
        have HW := Lib.hid (bldStr_any B B (escL (l.take k)) [38, 113, 117, 111, 116, 59] wr HBL.out (by simp; omega) hsz)
        clear hsn
        go_wp2_with fail
        refine HW.out.mono ?_
        rintro e w1 ⟨rfl, hb1, hw1⟩
        have HB1 := Lib.hid hb1
        have hB2 := hbw.trans hw1
        clear hb1 hw1
        go_wp2_with fail
        go_roundw
        case rel => exact escRel_mk (k + 1) (by omega) (by omega) (by rw [HSN.out]; exact HB1.out) hB2
        case measure => simp [intOf]; omega
      have t34 : ((c : Int) == 34) = false := by simp; omega
      by_cases h13 : c = 13
      · subst h13
        rw [show escB 13 = [38, 35, 49, 51, 59] from rfl] at hsn
        have HSN := Lib.hid hsn
        have HW := Lib.hid (bldStr_any B B (escL (l.take k)) [38, 35, 49, 51, 59] wr HBL.out (by simp; omega) hsz)
        have HI := Lib.hid (itoa_13 wr)
        clear hsn
        go_wp2_with fail
        refine HI.out.mono ?_
        rintro e w1 ⟨rfl, rfl⟩
        go_wp2_with fail
        refine HW.out.mono ?_
        rintro e w1 ⟨rfl, hb1, hw1⟩
        have HB1 := Lib.hid hb1
        have hB2 := hbw.trans hw1
        clear hb1 hw1
        go_wp2_with fail
        go_roundw
        case rel => exact escRel_mk (k + 1) (by omega) (by omega) (by rw [HSN.out]; exact HB1.out) hB2
        case measure => simp [intOf]; omega
      have t13 : ((c : Int) == 13) = false := by simp; omega
      by_cases h10 : c = 10
      · subst h10
        rw [show escB 10 = [38, 35, 49, 48, 59] from rfl] at hsn
        have HSN := Lib.hid hsn
        have HW := Lib.hid (bldStr_any B B (escL (l.take k)) [38, 35, 49, 48, 59] wr HBL.out (by simp; omega) hsz)
        have HI := Lib.hid (itoa_10 wr)
        clear hsn
        go_wp2_with fail
        refine HI.out.mono ?_
        rintro e w1 ⟨rfl, rfl⟩
        go_wp2_with fail
        refine HW.out.mono ?_
        rintro e w1 ⟨rfl, hb1, hw1⟩
        have HB1 := Lib.hid hb1
        have hB2 := hbw.trans hw1
        clear hb1 hw1
        go_wp2_with fail
        go_roundw
        case rel => exact escRel_mk (k + 1) (by omega) (by omega) (by rw [HSN.out]; exact HB1.out) hB2
        case measure => simp [intOf]; omega
      have t10 : ((c : Int) == 10) = false := by simp; omega
      by_cases h9 : c = 9
      · subst h9
        rw [show escB 9 = [38, 35, 57, 59] from rfl] at hsn
        have HSN := Lib.hid hsn
        have HW := Lib.hid (bldStr_any B B (escL (l.take k)) [38, 35, 57, 59] wr HBL.out (by simp; omega) hsz)
        have HI := Lib.hid (itoa_9 wr)
        clear hsn
        go_wp2_with fail
        refine HI.out.mono ?_
        rintro e w1 ⟨rfl, rfl⟩
        go_wp2_with fail
        refine HW.out.mono ?_
        rintro e w1 ⟨rfl, hb1, hw1⟩
        have HB1 := Lib.hid hb1
        have hB2 := hbw.trans hw1
        clear hb1 hw1
        go_wp2_with fail
        go_roundw
        case rel => exact escRel_mk (k + 1) (by omega) (by omega) (by rw [HSN.out]; exact HB1.out) hB2
        case measure => simp [intOf]; omega
      have t9 : ((c : Int) == 9) = false := by simp; omega
      rw [show escB c = [UInt8.ofNat c] from by unfold escB; rw [if_neg h38, if_neg h60, if_neg h62, if_neg h34, if_neg h13, if_neg h10, if_neg h9]] at hsn
      have HSN := Lib.hid hsn
      have hw0 := bldByte_any B B (escL (l.take k)) (UInt8.ofNat c) wr HBL.out (by omega) hsz
      rw [show ((UInt8.ofNat c).toNat : Int) = (c : Int) from by rw [UInt8.toNat_ofNat']; omega] at hw0
      have HW := Lib.hid hw0
      clear hsn hw0
      go_wp2_with fail
      refine HW.out.mono ?_
      rintro e w1 ⟨rfl, hb1, hw1⟩
      have HB1 := Lib.hid hb1
      have hB2 := hbw.trans hw1
      clear hb1 hw1
      go_wp2_with fail
      go_roundw
      case rel => exact escRel_mk (k + 1) (by omega) (by omega) (by rw [HSN.out]; exact HB1.out) hB2
      case measure => simp [intOf]; omega
    · obtain rfl : k = l.length := by omega
      have HG := Lib.hid (bldGive_any B B (escL l) wr (by have := HBL.out; rwa [List.take_length] at this) hsz)
      go_wp2_with fail
      refine HG.out.mono ?_
      rintro e w1 ⟨rfl, hw1⟩
      have hB2 := hbw.trans hw1
      clear hw1
      go_wp2_with fail
      go_ret
      exact ⟨rfl, hB2⟩
end Go.Proofs.YtgbbccfoceifnaaDoor
