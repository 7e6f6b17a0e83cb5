/- Processing instructions, read at any place of any bytes. -/
import Derived.Test.YtggllkcoabeejaaDoorMig
namespace Go.Proofs.YtggllkcoabeejaaDoor
open Go.ChangeShapes Go.WideShapes Go.ChangeAt Go.RowKit
set_option linter.unusedVariables false
set_option maxRecDepth 100000

/-- Is it x, m, l, each small or great? -/
def resB (l : List UInt8) : Bool := decide (l.length = 3 ∧ (byteAt l 0 = 120 ∨ byteAt l 0 = 88) ∧ (byteAt l 1 = 109 ∨ byteAt l 1 = 77) ∧ (byteAt l 2 = 108 ∨ byteAt l 2 = 76))
def no4 (e : Int) : Value := .tuple #[.string ⟨#[]⟩, .string ⟨#[]⟩, .int .i64 0, .int .i64 e]
/-- Where the name ends, and where what is behind its blanks begins. -/
def piZ (l : List UInt8) (p : Nat) : Nat := endN l (plainP charN) l.length (plainP startN) p
def piQ (l : List UInt8) (p : Nat) : Nat := blkN l l.length (piZ l p)
def piW (l : List UInt8) (p : Nat) : Value :=
  if piZ l p = p then no4 7
  else if 1024 < piZ l p - p then no4 11
  else if resB ((l.drop p).take (piZ l p - p)) = true ∨ Lib.index (l.drop (piQ l p)) pB < 0 ∨ (piQ l p = piZ l p ∧ 0 < Lib.index (l.drop (piQ l p)) pB) then no4 7
  else .tuple #[strV ((l.drop p).take (piZ l p - p)), strV ((l.drop (piQ l p)).take (Lib.index (l.drop (piQ l p)) pB).toNat), .int .i64 ((piQ l p + (Lib.index (l.drop (piQ l p)) pB).toNat + 2 : Nat) : Int), .int .i64 0]
def piV (l : List UInt8) (k : Int) : Value :=
  if k < 0 ∨ (l.length : Int) < k then no4 3
  else if Lib.occAt l pA k.toNat = false then no4 7
  else piW l (k.toNat + 2)
theorem piW_tup (l : List UInt8) (p : Nat) : ∃ x y z e, piW l p = .tuple #[x, y, z, e] := by
  unfold piW no4
  split
  · exact ⟨_, _, _, _, rfl⟩
  · split
    · exact ⟨_, _, _, _, rfl⟩
    · split <;> exact ⟨_, _, _, _, rfl⟩
set_option maxHeartbeats 2000000 in
theorem pi_no (l : List UInt8) (A : Option Addr) (n c : Nat) (k : Int) (w : World) (hn : l.length = n) (hnc : n ≤ c) (hc9 : c ≤ 9223372036854775807) (hk : I64 k) (hs : Sees w A (vB l))
    (hno : (k < 0 ∨ (n : Int) < k) ∨ (0 ≤ k ∧ k ≤ n ∧ Lib.occAt l pA k.toNat = false)) :
    Calls Tryd.prog 11 #[.slice A n c, .int .i64 k] w fun e w' => e = .returned (piV l k) ∧ Below w.heap.size w w' := by
  have hkl := hk.1
  have hkh := hk.2
  rcases hno with hout | ⟨k0, k1, hocc⟩
  · rw [show piV l k = no4 3 by unfold piV; rw [if_pos (by rw [hn]; exact hout)]]
    unfold no4
    rcases hout with h0 | h0
    all_goals
      go_enter Tryd.func11, Tryd.ntmps11
      go_wp2_with fail
      go_returns
      exact ⟨rfl, Below.refl _ _⟩
  · obtain ⟨j, rfl⟩ : ∃ j : Nat, k = j := ⟨k.toNat, by omega⟩
    have hj : j ≤ n := by omega
    rw [Int.toNat_natCast] at hocc
    have i0 : (0 : Int) ≤ (j : Int) := by omega
    have i1 : (j : Int) ≤ (n : Int) := by omega
    have i2 : (j : Int) ≤ (c : Int) := by omega
    have hsA := hs.drop (k := j) (cap := c) (by rw [vB_len]; omega)
    rw [← vB_drop] at hsA
    have kc := fun W => run_bytes_of_string (P := Tryd.prog) W 9 22 5 ⟨pA.toArray⟩ Tryd.underlying9 Tryd.underlying22 Tryd.underlying5
    have KP := Lib.hid (fun (w' : World) (A' B : Option Addr) (d : Nat) (h1 : Sees w' A' (vB (l.drop j))) (h2 : Sees w' B (vB pA)) => bPrefix_any (l.drop j) pA A' B (n - j) (c - j) pA.length d w' (by simp; omega) rfl (by omega) h1 h2)
    have ho : Lib.occAt (l.drop j) pA 0 = Lib.occAt l pA j := by rw [occ_drop]; rfl
    rw [ho, hocc] at KP
    rw [show piV l j = no4 7 by unfold piV; rw [if_neg (by omega), Int.toNat_natCast, if_pos hocc]]
    unfold no4
    have HS := Lib.hid (fun (w' : World) (hb : Below w.heap.size w w') => hsA.below hb)
    clear hsA ho hocc
    rcases A with _ | ad
    · obtain rfl : n = 0 := by
        cases l with
        | nil => exact hn.symm
        | cons x l => obtain ⟨_, e, _⟩ := hs (by simp [vB]); cases e
      obtain rfl : j = 0 := by omega
      simp only [ite_self, Option.map_none] at HS
      clear hs
      go_enter Tryd.func11, Tryd.ntmps11
      go_wp2_with fail
      refine (pMarks_any _).mono ?_
      rintro e w1 ⟨b, rfl, b1, hc1⟩
      have hbx := b1.alloc b1.size (.cells #[strV pA, strV pB, .func (.func 54) #[] #[.pointer (some ⟨b, 0, none⟩)]] 44)
      go_wp2_with fail
      go_region_with (go_at_call 25; refine (KP.out _ _ _ _ (HS.out _ (by first | exact ((hbx.alloc (by simp; have := b1.size; omega) _).drew) | exact ((hbx.alloc (by simp; have := b1.size; omega) _).drew).drew)) (by first | exact made_sees _ pA _ _ _ _ (by simp) | exact Sees.drw (made_sees _ pA _ _ _ _ (by simp)))).mono ?_; rintro e w2 ⟨rfl, hw2⟩; have HW2 := Lib.hid hw2; clear hw2)
      all_goals
        go_wp2_with fail
        go_returns
        exact ⟨rfl, by rw [HW2.out]; first | exact ((hbx.alloc (by simp; have := b1.size; omega) _).drew) | exact ((hbx.alloc (by simp; have := b1.size; omega) _).drew).drew⟩
    · by_cases hcj : c = j
      · rw [if_pos hcj] at HS
        obtain rfl : n = j := by omega
        obtain rfl : c = n := hcj
        simp only [Nat.sub_self] at KP
        clear hs
        go_enter Tryd.func11, Tryd.ntmps11
        go_wp2_with fail
        refine (pMarks_any _).mono ?_
        rintro e w1 ⟨b, rfl, b1, hc1⟩
        have hbx := b1.alloc b1.size (.cells #[strV pA, strV pB, .func (.func 54) #[] #[.pointer (some ⟨b, 0, none⟩)]] 44)
        go_wp2_with fail
        go_region_with (go_at_call 25; refine (KP.out _ _ _ _ (HS.out _ (by first | exact ((hbx.alloc (by simp; have := b1.size; omega) _).drew) | exact ((hbx.alloc (by simp; have := b1.size; omega) _).drew).drew)) (by first | exact made_sees _ pA _ _ _ _ (by simp) | exact Sees.drw (made_sees _ pA _ _ _ _ (by simp)))).mono ?_; rintro e w2 ⟨rfl, hw2⟩; have HW2 := Lib.hid hw2; clear hw2)
        all_goals
          go_wp2_with fail
          go_returns
          exact ⟨rfl, by rw [HW2.out]; first | exact ((hbx.alloc (by simp; have := b1.size; omega) _).drew) | exact ((hbx.alloc (by simp; have := b1.size; omega) _).drew).drew⟩
      · rw [if_neg hcj] at HS
        clear hs
        go_enter Tryd.func11, Tryd.ntmps11
        go_wp2_with fail
        refine (pMarks_any _).mono ?_
        rintro e w1 ⟨b, rfl, b1, hc1⟩
        have hbx := b1.alloc b1.size (.cells #[strV pA, strV pB, .func (.func 54) #[] #[.pointer (some ⟨b, 0, none⟩)]] 44)
        go_wp2_with fail
        go_region_with (go_at_call 25; refine (KP.out _ _ _ _ (HS.out _ (by first | exact ((hbx.alloc (by simp; have := b1.size; omega) _).drew) | exact ((hbx.alloc (by simp; have := b1.size; omega) _).drew).drew)) (by first | exact made_sees _ pA _ _ _ _ (by simp) | exact Sees.drw (made_sees _ pA _ _ _ _ (by simp)))).mono ?_; rintro e w2 ⟨rfl, hw2⟩; have HW2 := Lib.hid hw2; clear hw2)
        all_goals
          go_wp2_with fail
          go_returns
          exact ⟨rfl, by rw [HW2.out]; first | exact ((hbx.alloc (by simp; have := b1.size; omega) _).drew) | exact ((hbx.alloc (by simp; have := b1.size; omega) _).drew).drew⟩
end Go.Proofs.YtggllkcoabeejaaDoor
