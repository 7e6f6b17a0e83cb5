/- The page's example of layer 8. -/
import Derived.Test.YtggllkcoabeejaaDoorMif
import Derived.Test.YtggllkcoabeejaaDoorName
namespace Go.Proofs.YtggllkcoabeejaaDoor
open Go.ChangeShapes Go.WideShapes Go.ChangeAt Go.RowKit
set_option linter.unusedVariables false
set_option maxRecDepth 100000

def pA : List UInt8 := [60, 63]
def pB : List UInt8 := [63, 62]
abbrev pMarks (b : Nat) : Value := .agg #[strV pA, strV pB, .func (.func 54) #[] #[.pointer (some ⟨b, 0, none⟩)]]
theorem pMarks_any (w : World) : Calls Tryd.prog 24 #[] w fun e w' => ∃ b, e = .returned (pMarks b) ∧ Below w.heap.size w w' ∧ w'.cell? ⟨b, 0, none⟩ = some (strV pB) := by
  go_enter Tryd.func24, Tryd.ntmps24
  go_wp2_with fail
  refine (first_any pB _).mono ?_
  rintro e w2 ⟨rfl, rfl⟩
  go_wp2_with fail
  refine bodyPost_ret (v := pMarks (w.heap.size + 1)) (by simp [results, Tryd.results24, go_sem, pA, pB]) rfl ⟨_, rfl, ((Below.refl _ _).alloc (Nat.le_refl _) _).alloc (by simp) _, by simp⟩
theorem reserved_no (l : List UInt8) (w : World) (h : l.length ≠ 3) : Calls Tryd.prog 18 #[strV l] w fun e w' => e = .returned (.bool false) ∧ w = w' := by
  have hsz := str_size l
  have t1 : ((l.length : Int) == 3) = false := by simp; omega
  go_enter Tryd.func18, Tryd.ntmps18
  go_wp2_with fail
  go_ret
  exact ⟨rfl, rfl⟩
def exP : List UInt8 := [60, 63, 112, 32, 32, 120, 32, 63, 62]
theorem ex1 : readV exP 2 (plainP startN) (plainP charN) = .tuple #[strV [112], .int .i64 3, .int .i64 0] := by kernel_rfl
theorem ex2 : blkV exP 3 = 5 := by kernel_rfl
theorem ex3 : Lib.index (exP.drop 5) pB = 2 := by kernel_rfl
theorem ex4 : Lib.occAt exP pA 0 = true := by kernel_rfl
theorem ex5 : cmtV [60, 33, 45, 45, 97, 45, 45, 62] 0 = .tuple #[strV [97], .int .i64 8, .int .i64 0] := by kernel_rfl
set_option maxHeartbeats 2000000 in
theorem pi_ex (B : Nat) (w : World) (hs : Sees w (some ⟨B, 0, none⟩) (vB exP)) (hm : MaxAt w) (ht : TabN w) :
    Calls Tryd.prog 11 #[.slice (some ⟨B, 0, none⟩) 9 9, .int .i64 0] w fun e w' => e = .returned (.tuple #[strV [112], strV [120, 32], .int .i64 9, .int .i64 0]) ∧ Below w.heap.size w w' := by
  have K1 := Lib.hid (fun (w' : World) (A : Option Addr) (d : Nat) (hb : Below w.heap.size w w') (h : Sees w' A (vB pA)) => ex4 ▸ bPrefix_any exP pA (some ⟨B, 0, none⟩) A 9 9 2 d w' rfl rfl (by omega) (hs.below hb) h)
  have K2 := Lib.hid (fun (w' : World) (hb : Below w.heap.size w w') => ex1 ▸ plainN_any exP (some ⟨B, 0, none⟩) 9 9 2 w' rfl (by omega) (by omega) ⟨by omega, by omega⟩ (hs.below hb) (ht.below hb))
  have K3 := Lib.hid (fun (w' : World) (hb : Below w.heap.size w w') => ex2 ▸ blanks_any exP (some ⟨B, 0, none⟩) 9 9 3 w' rfl (by omega) (by omega) ⟨by omega, by omega⟩ (hs.below hb))
  have hs5 := hs.drop (k := 5) (cap := 9) (by rw [vB_len]; decide)
  rw [if_neg (by decide), ← vB_drop] at hs5
  have K4 := Lib.hid (fun (b : Nat) (w' : World) (hb : Below w.heap.size w w') (hc : w'.cell? ⟨b, 0, none⟩ = some (strV pB)) => ex3 ▸ ffind_any (exP.drop 5) pB (some ⟨B, 5, none⟩) 4 4 b w' rfl (by omega) (by omega) (hs5.below hb) (by omega) (by decide) (by decide) (hm.below hb) hc)
  have hs52 := hs5.take 2
  rw [← vB_take] at hs52
  have KC := Lib.hid (fun (w' : World) (hb : Below w.heap.size w w') => conv_sees w' (some ⟨B, 5, none⟩) 2 4 [120, 32] rfl (hs52.below hb))
  have kc := fun W => run_bytes_of_string (P := Tryd.prog) W 9 22 5 ⟨pA.toArray⟩ Tryd.underlying9 Tryd.underlying22 Tryd.underlying5
  clear hs hm ht hs5 hs52
  go_enter Tryd.func11, Tryd.ntmps11
  go_wp2_with fail
  refine (pMarks_any _).mono ?_
  rintro e w1 ⟨b, rfl, b1, hc1⟩
  have hbx := b1.alloc b1.size (.cells #[strV pA, strV pB, .func (.func 54) #[] #[.pointer (some ⟨b, 0, none⟩)]] 44)
  go_wp2_with fail
  go_region_with (go_at_call 25; refine (K1.out _ _ _ (by first | exact ((hbx.alloc (by simp; have := b1.size; omega) _).drew) | exact ((hbx.alloc (by simp; have := b1.size; omega) _).drew).drew) (by first | exact made_sees _ pA _ _ _ _ (by simp) | exact Sees.drw (made_sees _ pA _ _ _ _ (by simp)))).mono ?_; rintro e w2 ⟨rfl, hw2⟩; have HW2 := Lib.hid hw2; clear hw2)
  all_goals
    have hXX : (w1.alloc (.cells #[strV pA, strV pB, .func (.func 54) #[] #[.pointer (some ⟨b, 0, none⟩)]] 44)).heap[w1.heap.size]? = some (.cells #[strV pA, strV pB, .func (.func 54) #[] #[.pointer (some ⟨b, 0, none⟩)]] 44) := by
      show (w1.heap.push _)[w1.heap.size]? = _
      exact Array.getElem?_push_size ..
    have hbX : Below (w1.heap.size + 1) (w1.alloc (.cells #[strV pA, strV pB, .func (.func 54) #[] #[.pointer (some ⟨b, 0, none⟩)]] 44)) w2 := by
      rw [HW2.out]
      first | exact (((Below.refl _ _).alloc (by simp) _).drew) | exact (((Below.refl _ _).alloc (by simp) _).drew).drew
    have hs1 := b1.size
    have hb2 : Below w.heap.size w w2 := hbx.trans (hbX.mono (by omega))
    have hb12 : Below w1.heap.size w1 w2 := ((Below.refl _ _).alloc (Nat.le_refl _) _).trans (hbX.mono (by omega))
    have hX2 := (hbX.block w1.heap.size (by omega)).trans hXX
    have z0 : w2.cell? ⟨w1.heap.size, 0, none⟩ = some (strV pA) := by rw [Lib.cell_of_heap hX2]; rfl
    have z1 : w2.cell? ⟨w1.heap.size, 1, none⟩ = some (strV pB) := by rw [Lib.cell_of_heap hX2]; rfl
    have z2 : w2.cell? ⟨w1.heap.size, 2, none⟩ = some (.func (.func 54) #[] #[.pointer (some ⟨b, 0, none⟩)]) := by rw [Lib.cell_of_heap hX2]; rfl
    have hc2 := cell_later hb12 hc1
    have hpl : (⟨pA.toArray⟩ : ByteArray).size = 2 := rfl
    have hpl2 : (⟨pB.toArray⟩ : ByteArray).size = 2 := rfl
    clear HW2 hX2 hXX hbX
    go_wp2_with fail
    refine (K2.out _ hb2).mono ?_
    rintro e w3 ⟨rfl, b3⟩
    have hb3 := hb2.trans (b3.mono hb2.size)
    have y1 := cell_later b3 z1
    have y2 := cell_later b3 z2
    have hc3 := cell_later b3 hc2
    clear z0 z1 z2 hc2
    go_wp2_with fail
    refine (K3.out _ hb3).mono ?_
    rintro e w4 ⟨rfl, hw4⟩
    subst hw4
    have K5 := Lib.hid (fun (w' : World) (hb : Below w3.heap.size w3 w') => K4.out b w' (hb3.trans (hb.mono hb3.size)) (cell_later hb hc3))
    have enf := enters_first
    unfold Enters at enf
    go_wp2_with fail
    go_region_with (refine (K5.out _ (by first | exact Below.refl _ _ | exact (Below.refl _ _).drew)).mono ?_; rintro e w5 ⟨rfl, b5'⟩; have b5 : Below w3.heap.size w3 w5 := (by first | exact b5' | exact Below.trans (Below.drew (Below.refl w3.heap.size w3)) b5'); clear b5')
    all_goals
      have hb5 := hb3.trans (b5.mono hb3.size)
      have x1 := cell_later b5 y1
      have kc5 := fun m => KC.out (w5.drewN m) (below_drw hb5 m)
      have RN := Lib.hid (reserved_no [112] w5 (by decide))
      clear K1 K2 K3 K4 K5 kc y1 y2 hc3 hc1
      go_wp2_with fail
      refine RN.out.mono ?_
      rintro e w6 ⟨rfl, hw6⟩
      subst hw6
      go_wp2_with fail
      go_quiet (fail)
      go_wp2_with fail
      go_returns
      exact ⟨rfl, below_drw hb5 _⟩
set_option maxHeartbeats 2000000 in
theorem live08_any (w : World) (hm : MaxAt w) (ht : TabN w) : Calls Tryd.prog 6 #[] w fun e w' => e = .returned (.bool true) ∧ Below w.heap.size w w' := by
  have hb1 := (Below.refl w.heap.size w).alloc (Nat.le_refl _) (.cells (vB [60, 33, 45, 45, 97, 45, 45, 62]).toArray 5 (8, 9))
  have kb1 := Lib.run_convert_bytes_const (P := Tryd.prog) w 22 5 #[.int .u8 60, .int .u8 33, .int .u8 45, .int .u8 45, .int .u8 97, .int .u8 45, .int .u8 45, .int .u8 62] 8 8 Tryd.underlying22 Tryd.underlying5
  have K1 := Lib.hid (ex5 ▸ comment_any [60, 33, 45, 45, 97, 45, 45, 62] (some ⟨w.heap.size, 0, none⟩) 8 8 0 (w.alloc (.cells (vB [60, 33, 45, 45, 97, 45, 45, 62]).toArray 5 (8, 9))) rfl (by omega) (by omega) ⟨by omega, by omega⟩ (sees_lit w _ _ _) (by omega) (hm.below hb1))
  have K2 := Lib.hid (fun (w' : World) (hb : Below w.heap.size w w') => pi_ex w'.heap.size (w'.alloc (.cells (vB exP).toArray 5 (9, 10))) (sees_lit w' _ _ _) ((hm.below hb).below ((Below.refl _ _).alloc (Nat.le_refl _) _)) ((ht.below hb).below ((Below.refl _ _).alloc (Nat.le_refl _) _)))
  clear hm ht
  go_enter Tryd.func6, Tryd.ntmps6
  go_wp2_with fail
  refine K1.out.mono ?_
  rintro e w2 ⟨rfl, b2⟩
  have hb2 := hb1.trans (b2.mono hb1.size)
  have kb2 := Lib.run_convert_bytes_const (P := Tryd.prog) w2 22 5 #[.int .u8 60, .int .u8 63, .int .u8 112, .int .u8 32, .int .u8 32, .int .u8 120, .int .u8 32, .int .u8 63, .int .u8 62] 9 9 Tryd.underlying22 Tryd.underlying5
  have KP := Lib.hid (K2.out w2 hb2)
  go_wp2_with fail
  refine KP.out.mono ?_
  rintro e w3 ⟨rfl, b3⟩
  have hb3 := hb2.alloc hb2.size (.cells (vB exP).toArray 5 (9, 10))
  go_wp2_with fail
  go_ret
  exact ⟨rfl, hb3.trans (b3.mono hb3.size)⟩
end Go.Proofs.YtggllkcoabeejaaDoor
