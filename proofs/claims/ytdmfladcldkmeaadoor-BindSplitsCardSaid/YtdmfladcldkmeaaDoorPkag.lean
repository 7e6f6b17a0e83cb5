/- Escape: what each byte comes to; the program's walk. References: entities by their mark, by the program and by the document. References: bytes.Equal and HasPrefix over two bytes that are known. Contracts: digits; the classes together. References: the number that digits say, and what a reference to a character is. -/
import Derived.Test.YtdmfladcldkmeaaDoorPkad
import Derived.Test.YtdmfladcldkmeaaDoorPkae
import Derived.Test.YtdmfladcldkmeaaDoorPkaf
namespace Go.Proofs.YtdmfladcldkmeaaDoor
open Go.ChangeShapes Go.WideShapes Go.ChangeAt Go.RowKit
set_option linter.unusedVariables false
set_option maxRecDepth 100000

/-- What a byte comes to. -/
def escB (b : Nat) : List UInt8 :=
  if b = 38 then [38, 97, 109, 112, 59] else if b = 60 then [38, 108, 116, 59] else if b = 62 then [38, 103, 116, 59] else if b = 34 then [38, 113, 117, 111, 116, 59]
  else if b = 13 then [38, 35, 49, 51, 59] else if b = 10 then [38, 35, 49, 48, 59] else if b = 9 then [38, 35, 57, 59] else [UInt8.ofNat b]
/-- A text, escaped. -/
def escL (l : List UInt8) : List UInt8 := l.flatMap fun c => escB c.toNat
theorem escB_le (b : Nat) : (escB b).length ≤ 6 := by
  unfold escB
  repeat' split
  all_goals simp
theorem escL_nil : escL [] = [] := rfl
theorem escL_app (l m : List UInt8) : escL (l ++ m) = escL l ++ escL m := by unfold escL; rw [List.flatMap_append]
theorem escL_le (l : List UInt8) : (escL l).length ≤ 6 * l.length := by
  induction l with
  | nil => simp [escL]
  | cons c l ih =>
    have h := escB_le c.toNat
    rw [show escL (c :: l) = escB c.toNat ++ escL l from rfl, List.length_append, List.length_cons]
    omega
theorem escL_snoc (l : List UInt8) (k : Nat) (hk : k < l.length) : escL (l.take (k + 1)) = escL (l.take k) ++ escB (byteAt l k) := by
  rw [List.take_succ_eq_append_getElem hk, escL_app]
  congr 1
  unfold byteAt
  rw [List.getElem?_eq_getElem hk]
  show escB _ ++ [] = _
  rw [List.append_nil]
  rfl

theorem itoa_13 (w : World) : Calls Tryd.prog 131 #[.int .i64 13] w fun e w' => e = .returned (.string ⟨#[49, 51]⟩) ∧ w = w' := by
  go_enter Tryd.func131, Tryd.ntmps131
  go_wp2
  go_ret
  exact ⟨rfl, rfl⟩
theorem itoa_10 (w : World) : Calls Tryd.prog 131 #[.int .i64 10] w fun e w' => e = .returned (.string ⟨#[49, 48]⟩) ∧ w = w' := by
  go_enter Tryd.func131, Tryd.ntmps131
  go_wp2
  go_ret
  exact ⟨rfl, rfl⟩
theorem itoa_9 (w : World) : Calls Tryd.prog 131 #[.int .i64 9] w fun e w' => e = .returned (.string ⟨#[57]⟩) ∧ w = w' := by
  go_enter Tryd.func131, Tryd.ntmps131
  go_wp2
  go_ret
  exact ⟨rfl, rfl⟩
/-- At the loop's head: what is escaped so far. -/
def EscRel (l : List UInt8) (B : Nat) (w0 : World) (i : Value) (w : World) : Prop := ∃ k : Nat, k ≤ l.length ∧ i = .int .i64 k ∧ Bld B B (escL (l.take k)) w ∧ Below B w0 w
theorem escRel_mk {l : List UInt8} {B : Nat} {w0 w : World} {i : Int} (k : Nat) (h1 : k ≤ l.length) (h2 : i = k) (h3 : Bld B B (escL (l.take k)) w) (h4 : Below B w0 w) : EscRel l B w0 (.int .i64 i) w :=
  ⟨k, h1, by rw [h2], h3, h4⟩
end Go.Proofs.YtdmfladcldkmeaaDoor
namespace Go.Proofs.YtdmfladcldkmeaaDoor
open Go.ChangeShapes Go.WideShapes Go.ChangeAt Go.RowKit
set_option linter.unusedVariables false
set_option maxRecDepth 100000

/-- The end of the plain name behind a mark. -/
def entZ (l : List UInt8) (k : Nat) : Nat := endN l (plainP charN) l.length (plainP startN) (k + 1)
def noV (e : Int) : Value := .tuple #[.string ⟨#[]⟩, .int .i64 0, .int .i64 e]
def entV (l : List UInt8) (k : Int) (mark : Nat) : Value :=
  if k < 0 ∨ (l.length : Int) < k then noV 3
  else if k.toNat = l.length ∨ byteAt l k.toNat ≠ mark then noV 7
  else if entZ l k.toNat = k.toNat + 1 then noV 7
  else if 1024 < entZ l k.toNat - (k.toNat + 1) then noV 11
  else if entZ l k.toNat = l.length ∨ byteAt l (entZ l k.toNat) ≠ 59 then noV 7
  else .tuple #[strV ((l.drop (k.toNat + 1)).take (entZ l k.toNat - (k.toNat + 1))), .int .i64 ((entZ l k.toNat : Nat) + 1), .int .i64 0]

set_option maxHeartbeats 2000000 in
theorem cread_any (l : List UInt8) (A : Option Addr) (n c : Nat) (k : Int) (mark : Nat) (w : World)
    (hn : l.length = n) (hnc : n ≤ c) (hm : c ≤ 9223372036854775807) (hk : I64 k) (hn9 : n ≤ 1000000) (hmk : mark < 256) (hs : Sees w A (vB l)) (ht : TabN w) :
    Calls Tryd.prog 186 #[.slice A n c, .int .i64 k, .int .u8 mark] w fun e w' => e = .returned (entV l k mark) ∧ Below w.heap.size w w' := by
  have hkl := hk.1
  have hkh := hk.2
  by_cases hout : k < 0 ∨ (n : Int) < k
  · have hv : entV l k mark = noV 3 := by rw [entV, if_pos (by rw [hn]; exact hout)]
    rw [hv]
    clear hv
    unfold noV
    rcases hout with h0 | h0
    all_goals
      go_enter Tryd.func186, Tryd.ntmps186
      go_wp2_with fail
      go_ret3
      exact ⟨rfl, Below.refl _ _⟩
  · obtain ⟨j, rfl⟩ : ∃ j : Nat, k = j := ⟨k.toNat, by omega⟩
    have hj : j ≤ n := by omega
    by_cases hjn : j = n
    · have hv : entV l j mark = noV 7 := by rw [entV, if_neg (by omega), Int.toNat_natCast, if_pos (.inl (by omega))]
      rw [hv]
      clear hv
      unfold noV
      subst hjn
      go_enter Tryd.func186, Tryd.ntmps186
      go_wp2_with fail
      go_ret3
      exact ⟨rfl, Below.refl _ _⟩
    · have hjl : j < n := by omega
      obtain ⟨ad, rfl, hcell⟩ := hs.byte (k := j) (by omega)
      obtain ⟨b, hb⟩ : ∃ b, byteAt l j = b := ⟨_, rfl⟩
      have hb256 := byteAt_lt l j
      rw [hb] at hcell hb256
      by_cases hbm : b = mark
      · have HP := plainN_any l (some ad) n c ((j + 1 : Nat) : Int) w hn hnc hm ⟨by omega, by omega⟩ hs ht
        have hzle := endN_le l (plainP charN) l.length (plainP startN) (j + 1) (by omega)
        have hv0 : entV l j mark = if entZ l j = j + 1 then noV 7 else if 1024 < entZ l j - (j + 1) then noV 11 else if entZ l j = l.length ∨ byteAt l (entZ l j) ≠ 59 then noV 7 else .tuple #[strV ((l.drop (j + 1)).take (entZ l j - (j + 1))), .int .i64 ((entZ l j : Nat) + 1), .int .i64 0] := by
          rw [entV, if_neg (by omega), Int.toNat_natCast, if_neg (by rw [hb]; omega)]
        rw [hv0]
        clear hv0
        have hz0 : endN l (plainP charN) l.length (plainP startN) (j + 1) = entZ l j := rfl
        rw [hz0] at hzle
        obtain ⟨z, hz⟩ : ∃ z, entZ l j = z := ⟨_, rfl⟩
        rw [hz] at hz0 hzle ⊢
        have t1 : ((b : Int) != (mark : Int)) = false := by rw [hbm]; simp
        by_cases h1 : z = j + 1
        · rw [if_pos h1]
          rw [readV_none (by omega) (by rw [hz0]; exact h1)] at HP
          have H := Lib.hid HP
          clear HP hz0 hz hs hb h1
          unfold noV
          go_enter Tryd.func186, Tryd.ntmps186
          go_wp2_with fail
          refine H.out.mono ?_
          rintro e w1 ⟨rfl, hb1⟩
          go_wp2_with fail
          go_ret3
          exact ⟨rfl, hb1⟩
        · rw [if_neg h1]
          by_cases h2 : 1024 < z - (j + 1)
          · rw [if_pos h2]
            rw [readV_long (by omega) hz0 (by omega) h2] at HP
            have H := Lib.hid HP
            clear HP hz0 hz hs hb h1 h2
            unfold noV
            go_enter Tryd.func186, Tryd.ntmps186
            go_wp2_with fail
            refine H.out.mono ?_
            rintro e w1 ⟨rfl, hb1⟩
            go_wp2_with fail
            go_ret3
            exact ⟨rfl, hb1⟩
          · rw [if_neg h2]
            rw [readV_ok (by omega) hz0 (by omega) (by omega)] at HP
            obtain ⟨S, hS⟩ : ∃ S, (l.drop (j + 1)).take (z - (j + 1)) = S := ⟨_, rfl⟩
            rw [hS] at HP ⊢
            have H := Lib.hid HP
            clear HP hz0 hz hb h1 h2 hS
            by_cases h3 : z = l.length
            · rw [if_pos (.inl h3)]
              rw [hn] at h3
              subst h3
              clear hs
              unfold noV
              go_enter Tryd.func186, Tryd.ntmps186
              go_wp2_with fail
              refine H.out.mono ?_
              rintro e w1 ⟨rfl, hb1⟩
              go_wp2_with fail
              go_ret3
              exact ⟨rfl, hb1⟩
            · obtain ⟨ad2, e2, hcz⟩ := hs.byte (k := z) (by omega)
              injection e2 with e2
              subst e2
              obtain ⟨d, hd⟩ : ∃ d, byteAt l z = d := ⟨_, rfl⟩
              have hd256 := byteAt_lt l z
              rw [hd] at hcz hd256 ⊢
              have hzn : z < n := by omega
              have h3n : z ≠ n := by omega
              by_cases h4 : d = 59
              · rw [if_neg (by omega)]
                subst h4
                clear hs hd h3
                go_enter Tryd.func186, Tryd.ntmps186
                go_wp2_with fail
                refine H.out.mono ?_
                rintro e w1 ⟨rfl, hb1⟩
                have hcz1 := cell_later hb1 hcz
                go_wp2_with fail
                go_ret3
                exact ⟨rfl, hb1⟩
              · rw [if_pos (.inr h4)]
                have t2 : ((d : Int) != 59) = true := by simp; omega
                clear hs hd h3
                unfold noV
                go_enter Tryd.func186, Tryd.ntmps186
                go_wp2_with fail
                refine H.out.mono ?_
                rintro e w1 ⟨rfl, hb1⟩
                have hcz1 := cell_later hb1 hcz
                go_wp2_with fail
                go_ret3
                exact ⟨rfl, hb1⟩
      · have hv : entV l j mark = noV 7 := by rw [entV, if_neg (by omega), Int.toNat_natCast, if_pos (.inr (by rw [hb]; exact hbm))]
        rw [hv]
        have t1 : ((b : Int) != (mark : Int)) = true := by simp; omega
        clear hv hb hs
        unfold noV
        go_enter Tryd.func186, Tryd.ntmps186
        go_wp2_with fail
        go_ret3
        exact ⟨rfl, Below.refl _ _⟩

set_option maxHeartbeats 2000000 in
theorem rent_any (l : List UInt8) (A : Option Addr) (n c : Nat) (k : Int) (mark : Nat) (w : World)
    (hn : l.length = n) (hnc : n ≤ c) (hm : c ≤ 9223372036854775807) (hk : I64 k) (hn9 : n ≤ 1000000) (hmk : mark < 256) (hs : Sees w A (vB l)) (ht : TabN w) :
    Calls Tryd.prog 106 #[.slice A n c, .int .i64 k, .int .u8 mark] w fun e w' => e = .returned (entV l k mark) ∧ Below w.heap.size w w' := by
  have hkl := hk.1
  have hkh := hk.2
  by_cases hout : k < 0 ∨ (n : Int) < k
  · have hv : entV l k mark = noV 3 := by rw [entV, if_pos (by rw [hn]; exact hout)]
    rw [hv]
    clear hv
    unfold noV
    rcases hout with h0 | h0
    all_goals
      go_enter Tryd.func106, Tryd.ntmps106
      go_wp2_with fail
      go_ret3
      exact ⟨rfl, Below.refl _ _⟩
  · obtain ⟨j, rfl⟩ : ∃ j : Nat, k = j := ⟨k.toNat, by omega⟩
    have hj : j ≤ n := by omega
    by_cases hjn : j = n
    · have hv : entV l j mark = noV 7 := by rw [entV, if_neg (by omega), Int.toNat_natCast, if_pos (.inl (by omega))]
      rw [hv]
      clear hv
      unfold noV
      subst hjn
      go_enter Tryd.func106, Tryd.ntmps106
      go_wp2_with fail
      go_ret3
      exact ⟨rfl, Below.refl _ _⟩
    · have hjl : j < n := by omega
      obtain ⟨ad, rfl, hcell⟩ := hs.byte (k := j) (by omega)
      obtain ⟨b, hb⟩ : ∃ b, byteAt l j = b := ⟨_, rfl⟩
      have hb256 := byteAt_lt l j
      rw [hb] at hcell hb256
      by_cases hbm : b = mark
      · have HP := rread_any l (some ad) n c ((j + 1 : Nat) : Int) w true hn hnc (by omega) ⟨by omega, by omega⟩ hs
        rw [show kindP true startN = plainP startN from rfl, show kindP true charN = plainP charN from rfl] at HP
        have hzle := endN_le l (plainP charN) l.length (plainP startN) (j + 1) (by omega)
        have hv0 : entV l j mark = if entZ l j = j + 1 then noV 7 else if 1024 < entZ l j - (j + 1) then noV 11 else if entZ l j = l.length ∨ byteAt l (entZ l j) ≠ 59 then noV 7 else .tuple #[strV ((l.drop (j + 1)).take (entZ l j - (j + 1))), .int .i64 ((entZ l j : Nat) + 1), .int .i64 0] := by
          rw [entV, if_neg (by omega), Int.toNat_natCast, if_neg (by rw [hb]; omega)]
        rw [hv0]
        clear hv0
        have hz0 : endN l (plainP charN) l.length (plainP startN) (j + 1) = entZ l j := rfl
        rw [hz0] at hzle
        obtain ⟨z, hz⟩ : ∃ z, entZ l j = z := ⟨_, rfl⟩
        rw [hz] at hz0 hzle ⊢
        have t1 : ((b : Int) != (mark : Int)) = false := by rw [hbm]; simp
        by_cases h1 : z = j + 1
        · rw [if_pos h1]
          rw [readV_none (by omega) (by rw [hz0]; exact h1)] at HP
          have H := Lib.hid HP
          clear HP hz0 hz hs hb h1
          unfold noV
          go_enter Tryd.func106, Tryd.ntmps106
          go_wp2_with fail
          refine H.out.mono ?_
          rintro e w1 ⟨rfl, hb1⟩
          go_wp2_with fail
          go_ret3
          exact ⟨rfl, hb1⟩
        · rw [if_neg h1]
          by_cases h2 : 1024 < z - (j + 1)
          · rw [if_pos h2]
            rw [readV_long (by omega) hz0 (by omega) h2] at HP
            have H := Lib.hid HP
            clear HP hz0 hz hs hb h1 h2
            unfold noV
            go_enter Tryd.func106, Tryd.ntmps106
            go_wp2_with fail
            refine H.out.mono ?_
            rintro e w1 ⟨rfl, hb1⟩
            go_wp2_with fail
            go_ret3
            exact ⟨rfl, hb1⟩
          · rw [if_neg h2]
            rw [readV_ok (by omega) hz0 (by omega) (by omega)] at HP
            obtain ⟨S, hS⟩ : ∃ S, (l.drop (j + 1)).take (z - (j + 1)) = S := ⟨_, rfl⟩
            rw [hS] at HP ⊢
            have H := Lib.hid HP
            clear HP hz0 hz hb h1 h2 hS
            by_cases h3 : z = l.length
            · rw [if_pos (.inl h3)]
              rw [hn] at h3
              subst h3
              clear hs
              unfold noV
              go_enter Tryd.func106, Tryd.ntmps106
              go_wp2_with fail
              refine H.out.mono ?_
              rintro e w1 ⟨rfl, hb1⟩
              go_wp2_with fail
              go_ret3
              exact ⟨rfl, hb1⟩
            · obtain ⟨ad2, e2, hcz⟩ := hs.byte (k := z) (by omega)
              injection e2 with e2
              subst e2
              obtain ⟨d, hd⟩ : ∃ d, byteAt l z = d := ⟨_, rfl⟩
              have hd256 := byteAt_lt l z
              rw [hd] at hcz hd256 ⊢
              have hzn : z < n := by omega
              have h3n : z ≠ n := by omega
              by_cases h4 : d = 59
              · rw [if_neg (by omega)]
                subst h4
                clear hs hd h3
                go_enter Tryd.func106, Tryd.ntmps106
                go_wp2_with fail
                refine H.out.mono ?_
                rintro e w1 ⟨rfl, hb1⟩
                have hcz1 := cell_later hb1 hcz
                go_wp2_with fail
                go_ret3
                exact ⟨rfl, hb1⟩
              · rw [if_pos (.inr h4)]
                have t2 : ((d : Int) != 59) = true := by simp; omega
                clear hs hd h3
                unfold noV
                go_enter Tryd.func106, Tryd.ntmps106
                go_wp2_with fail
                refine H.out.mono ?_
                rintro e w1 ⟨rfl, hb1⟩
                have hcz1 := cell_later hb1 hcz
                go_wp2_with fail
                go_ret3
                exact ⟨rfl, hb1⟩
      · have hv : entV l j mark = noV 7 := by rw [entV, if_neg (by omega), Int.toNat_natCast, if_pos (.inr (by rw [hb]; exact hbm))]
        rw [hv]
        have t1 : ((b : Int) != (mark : Int)) = true := by simp; omega
        clear hv hb hs
        unfold noV
        go_enter Tryd.func106, Tryd.ntmps106
        go_wp2_with fail
        go_ret3
        exact ⟨rfl, Below.refl _ _⟩
end Go.Proofs.YtdmfladcldkmeaaDoor
namespace Go.Proofs.YtdmfladcldkmeaaDoor
open Go.ChangeShapes Go.WideShapes Go.ChangeAt Go.RowKit
set_option linter.unusedVariables false
set_option maxRecDepth 100000

set_option maxHeartbeats 1000000 in
theorem bEqual_any (l m : List UInt8) (A B : Option Addr) (n k c d : Nat) (w : World) (hn : l.length = n) (hk : m.length = k) (hs : Sees w A (vB l)) (ht : Sees w B (vB m)) :
    Calls Tryd.prog 108 #[.slice A n c, .slice B k d] w fun e w' => e = .returned (.bool (l == m)) ∧ w = w' := by
  have k1 : ∀ W : World, Sees W A (vB l) → (convert 36 9 (.slice A n c)).run Tryd.prog W = .ok (.string ⟨l.toArray⟩) W := fun W hW => conv_sees W A n c l hn hW
  have k2 : ∀ W : World, Sees W B (vB m) → (convert 36 9 (.slice B k d)).run Tryd.prog W = .ok (.string ⟨m.toArray⟩) W := fun W hW => conv_sees W B k d m hk hW
  have c1 := k1 w hs
  have c2 := k2 w ht
  clear k1 k2 hs ht hn hk
  go_enter Tryd.func108, Tryd.ntmps108
  go_wp2_with fail
  go_ret
  exact ⟨rfl, rfl⟩

set_option maxHeartbeats 1000000 in
theorem hasPre_any (l m : List UInt8) (A B : Option Addr) (n k c d : Nat) (w : World) (hn : l.length = n) (hnc : n ≤ c) (h9 : n ≤ 1000000) (hk : m.length = k) (h0 : 0 < k) (h8 : k ≤ 1000000) (hs : Sees w A (vB l)) (ht : Sees w B (vB m)) :
    Calls Tryd.prog 66 #[.slice A n c, .slice B k d] w fun e w' => e = .returned (.bool (l.take k == m)) ∧ w = w' := by
  by_cases hkn : k ≤ n
  · obtain ⟨ad, rfl, _⟩ := hs.byte (k := 0) (by omega)
    have hs2 := hs.take k
    rw [← vB_take] at hs2
    have H := Lib.hid (bEqual_any (l.take k) m (some ad) B k k c d w (by rw [List.length_take]; omega) hk hs2 ht)
    clear hs hs2 ht
    go_enter Tryd.func66, Tryd.ntmps66
    go_wp2_with fail
    refine H.out.mono ?_
    rintro e w1 ⟨rfl, rfl⟩
    go_wp2_with fail
    go_ret
    exact ⟨rfl, rfl⟩
  · have hf : false = (l.take k == m) := by
      symm
      rw [beq_eq_false_iff_ne]
      intro e
      have := congrArg List.length e
      rw [List.length_take] at this
      omega
    have HF := Lib.hid hf
    have hlt : n < k := by omega
    clear hs ht hf hkn
    go_enter Tryd.func66, Tryd.ntmps66
    go_wp2_with fail
    go_ret
    exact ⟨ret_bool HF.out, rfl⟩
end Go.Proofs.YtdmfladcldkmeaaDoor
namespace Go.Proofs.YtdmfladcldkmeaaDoor
open Go.ChangeShapes Go.WideShapes Go.ChangeAt Go.RowKit
set_option linter.unusedVariables false
set_option maxRecDepth 100000

/-- What a digit says, or -1. -/
def digV (r : Int) : Int := if 48 ≤ r ∧ r ≤ 57 then r - 48 else if 97 ≤ r ∧ r ≤ 102 then r - 87 else if 65 ≤ r ∧ r ≤ 70 then r - 55 else -1
def digN (r b : Int) : Int := if b = 10 ∨ b = 16 then (if b ≤ digV r then -1 else digV r) else -1
theorem ret_i64 {a b : Int} (h : a = b) : Ending.returned (.int .i64 a) = .returned (.int .i64 b) := by rw [h]

set_option maxRecDepth 100000 in
set_option maxHeartbeats 1000000 in
theorem digit_any (r b : Int) (w : World) :
    Calls Tryd.prog 112 #[.int .i64 r, .int .i64 b] w fun e w' => e = .returned (.int .i64 (digN r b)) ∧ w = w' := by
  have B : b = 10 ∨ b = 16 ∨ (b ≠ 10 ∧ b ≠ 16) := by omega
  have D : r < 48 ∨ (48 ≤ r ∧ r ≤ 57) ∨ (57 < r ∧ r < 65) ∨ (65 ≤ r ∧ r ≤ 70) ∨ (70 < r ∧ r < 97) ∨ (97 ≤ r ∧ r ≤ 102) ∨ 102 < r := by omega
  rcases B with rfl | rfl | ⟨b1, b2⟩
  · rcases D with d | ⟨d, d'⟩ | ⟨d, d'⟩ | ⟨d, d'⟩ | ⟨d, d'⟩ | ⟨d, d'⟩ | d
    all_goals
      go_enter Tryd.func112, Tryd.ntmps112
      go_wp2_with fail
      go_ret
      exact ⟨ret_i64 (by unfold digN digV; (repeat' split) <;> omega), rfl⟩
  · rcases D with d | ⟨d, d'⟩ | ⟨d, d'⟩ | ⟨d, d'⟩ | ⟨d, d'⟩ | ⟨d, d'⟩ | d
    all_goals
      go_enter Tryd.func112, Tryd.ntmps112
      go_wp2_with fail
      go_ret
      exact ⟨ret_i64 (by unfold digN digV; (repeat' split) <;> omega), rfl⟩
  · clear D
    have t1 : (b != 10) = true := by simp [b1]
    have t2 : (b != 16) = true := by simp [b2]
    go_enter Tryd.func112, Tryd.ntmps112
    go_wp2_with fail
    go_ret
    exact ⟨ret_i64 (by unfold digN; rw [if_neg (by omega)]), rfl⟩

def digS : List Nat := [48, 49, 50, 51, 52, 53, 54, 55, 56, 57, 97, 98, 99, 100, 101, 102]
def digC : List Nat := [48, 49, 50, 51, 52, 53, 54, 55, 56, 57, 65, 66, 67, 68, 69, 70]
theorem idx_digS (k : Nat) (h : k < 16) : ∀ w : World, (Instr.index 9 (.string { data := #[48, 49, 50, 51, 52, 53, 54, 55, 56, 57, 97, 98, 99, 100, 101, 102] }) (.int .i64 (k : Int))).run Tryd.prog w = .ok (.int .u8 ((digS[k]'h : Nat) : Int)) w := by
  match k, h with
  | 0, _ => exact fun _ => by kernel_rfl
  | 1, _ => exact fun _ => by kernel_rfl
  | 2, _ => exact fun _ => by kernel_rfl
  | 3, _ => exact fun _ => by kernel_rfl
  | 4, _ => exact fun _ => by kernel_rfl
  | 5, _ => exact fun _ => by kernel_rfl
  | 6, _ => exact fun _ => by kernel_rfl
  | 7, _ => exact fun _ => by kernel_rfl
  | 8, _ => exact fun _ => by kernel_rfl
  | 9, _ => exact fun _ => by kernel_rfl
  | 10, _ => exact fun _ => by kernel_rfl
  | 11, _ => exact fun _ => by kernel_rfl
  | 12, _ => exact fun _ => by kernel_rfl
  | 13, _ => exact fun _ => by kernel_rfl
  | 14, _ => exact fun _ => by kernel_rfl
  | 15, _ => exact fun _ => by kernel_rfl
  | j + 16, h => exact absurd h (by omega)
theorem idx_digC (k : Nat) (h : k < 16) : ∀ w : World, (Instr.index 9 (.string { data := #[48, 49, 50, 51, 52, 53, 54, 55, 56, 57, 65, 66, 67, 68, 69, 70] }) (.int .i64 (k : Int))).run Tryd.prog w = .ok (.int .u8 ((digC[k]'h : Nat) : Int)) w := by
  match k, h with
  | 0, _ => exact fun _ => by kernel_rfl
  | 1, _ => exact fun _ => by kernel_rfl
  | 2, _ => exact fun _ => by kernel_rfl
  | 3, _ => exact fun _ => by kernel_rfl
  | 4, _ => exact fun _ => by kernel_rfl
  | 5, _ => exact fun _ => by kernel_rfl
  | 6, _ => exact fun _ => by kernel_rfl
  | 7, _ => exact fun _ => by kernel_rfl
  | 8, _ => exact fun _ => by kernel_rfl
  | 9, _ => exact fun _ => by kernel_rfl
  | 10, _ => exact fun _ => by kernel_rfl
  | 11, _ => exact fun _ => by kernel_rfl
  | 12, _ => exact fun _ => by kernel_rfl
  | 13, _ => exact fun _ => by kernel_rfl
  | 14, _ => exact fun _ => by kernel_rfl
  | 15, _ => exact fun _ => by kernel_rfl
  | j + 16, h => exact absurd h (by omega)
theorem dig_hit (k : Nat) (hk : k < 16) (b : Int) (hb : b = 10 ∨ b = 16) (hkb : (k : Int) < b) (r : Int) (h : ((digS[k]'hk : Nat) : Int) = r ∨ ((digC[k]'hk : Nat) : Int) = r) : (k : Int) = digN r b := by
  have e1 : digV ((digS[k]'hk : Nat) : Int) = k := by
    match k, hk with
    | 0, _ => rfl
    | 1, _ => rfl
    | 2, _ => rfl
    | 3, _ => rfl
    | 4, _ => rfl
    | 5, _ => rfl
    | 6, _ => rfl
    | 7, _ => rfl
    | 8, _ => rfl
    | 9, _ => rfl
    | 10, _ => rfl
    | 11, _ => rfl
    | 12, _ => rfl
    | 13, _ => rfl
    | 14, _ => rfl
    | 15, _ => rfl
    | j + 16, h => exact absurd h (by omega)
  have e2 : digV ((digC[k]'hk : Nat) : Int) = k := by
    match k, hk with
    | 0, _ => rfl
    | 1, _ => rfl
    | 2, _ => rfl
    | 3, _ => rfl
    | 4, _ => rfl
    | 5, _ => rfl
    | 6, _ => rfl
    | 7, _ => rfl
    | 8, _ => rfl
    | 9, _ => rfl
    | 10, _ => rfl
    | 11, _ => rfl
    | 12, _ => rfl
    | 13, _ => rfl
    | 14, _ => rfl
    | 15, _ => rfl
    | j + 16, h => exact absurd h (by omega)
  have e : digV r = k := by rcases h with h | h <;> rw [← h] <;> assumption
  unfold digN
  rw [if_pos hb, e, if_neg (by omega)]
theorem digV_lt (r : Int) : digV r = -1 ∨ (∃ k : Nat, ∃ hk : k < 16, digV r = k ∧ (((digS[k]'hk : Nat) : Int) = r ∨ ((digC[k]'hk : Nat) : Int) = r)) := by
  have D : (48 ≤ r ∧ r ≤ 57) ∨ (65 ≤ r ∧ r ≤ 70) ∨ (97 ≤ r ∧ r ≤ 102) ∨ (r < 48 ∨ (57 < r ∧ r < 65) ∨ (70 < r ∧ r < 97) ∨ 102 < r) := by omega
  rcases D with ⟨d, d'⟩ | ⟨d, d'⟩ | ⟨d, d'⟩ | d
  · right
    have D : r = 48 ∨ r = 49 ∨ r = 50 ∨ r = 51 ∨ r = 52 ∨ r = 53 ∨ r = 54 ∨ r = 55 ∨ r = 56 ∨ r = 57 := by omega
    rcases D with rfl | rfl | rfl | rfl | rfl | rfl | rfl | rfl | rfl | rfl
    · exact ⟨0, by omega, rfl, .inl rfl⟩
    · exact ⟨1, by omega, rfl, .inl rfl⟩
    · exact ⟨2, by omega, rfl, .inl rfl⟩
    · exact ⟨3, by omega, rfl, .inl rfl⟩
    · exact ⟨4, by omega, rfl, .inl rfl⟩
    · exact ⟨5, by omega, rfl, .inl rfl⟩
    · exact ⟨6, by omega, rfl, .inl rfl⟩
    · exact ⟨7, by omega, rfl, .inl rfl⟩
    · exact ⟨8, by omega, rfl, .inl rfl⟩
    · exact ⟨9, by omega, rfl, .inl rfl⟩
  · right
    have D : r = 65 ∨ r = 66 ∨ r = 67 ∨ r = 68 ∨ r = 69 ∨ r = 70 := by omega
    rcases D with rfl | rfl | rfl | rfl | rfl | rfl
    · exact ⟨10, by omega, rfl, .inr rfl⟩
    · exact ⟨11, by omega, rfl, .inr rfl⟩
    · exact ⟨12, by omega, rfl, .inr rfl⟩
    · exact ⟨13, by omega, rfl, .inr rfl⟩
    · exact ⟨14, by omega, rfl, .inr rfl⟩
    · exact ⟨15, by omega, rfl, .inr rfl⟩
  · right
    have D : r = 97 ∨ r = 98 ∨ r = 99 ∨ r = 100 ∨ r = 101 ∨ r = 102 := by omega
    rcases D with rfl | rfl | rfl | rfl | rfl | rfl
    · exact ⟨10, by omega, rfl, .inl rfl⟩
    · exact ⟨11, by omega, rfl, .inl rfl⟩
    · exact ⟨12, by omega, rfl, .inl rfl⟩
    · exact ⟨13, by omega, rfl, .inl rfl⟩
    · exact ⟨14, by omega, rfl, .inl rfl⟩
    · exact ⟨15, by omega, rfl, .inl rfl⟩
  · left
    unfold digV
    rw [if_neg (by omega), if_neg (by omega), if_neg (by omega)]
theorem dig_miss (r : Int) (n : Nat) (hn : n ≤ 16) (hb : (n : Int) = 10 ∨ (n : Int) = 16) (h : ∀ j (hj : j < 16), j < n → ((digS[j]'hj : Nat) : Int) ≠ r ∧ ((digC[j]'hj : Nat) : Int) ≠ r) : -1 = digN r n := by
  unfold digN
  rw [if_pos hb]
  rcases digV_lt r with e | ⟨k, hk, e, h'⟩
  · rw [e]; split <;> rfl
  · rw [e]
    by_cases hkn : k < n
    · have := h k hk hkn
      rcases h' with h' | h'
      · exact absurd h' this.1
      · exact absurd h' this.2
    · rw [if_pos (by omega)]

set_option maxRecDepth 100000 in
set_option maxHeartbeats 2000000 in
theorem rdigit_any (r b : Int) (w : World) :
    Calls Tryd.prog 127 #[.int .i64 r, .int .i64 b] w fun e w' => e = .returned (.int .i64 (digN r b)) ∧ w = w' := by
  by_cases hbb : b = 10 ∨ b = 16
  · obtain ⟨n, rfl, hn, hn'⟩ : ∃ n : Nat, b = n ∧ n ≤ 16 ∧ (n = 10 ∨ n = 16) := by
      rcases hbb with rfl | rfl
      · exact ⟨10, rfl, by omega, .inl rfl⟩
      · exact ⟨16, rfl, by omega, .inr rfl⟩
    have HB := Lib.hid hbb
    clear hbb
    have HN := Lib.hid hn'
    rcases hn' with rfl | rfl
    all_goals
      go_enter Tryd.func127, Tryd.ntmps127
      go_wp2_with fail
    · go_loop [7] (fun i => ∃ k : Nat, k ≤ 10 ∧ i = .int .i64 k ∧ ∀ j (hj : j < 16), j < k → ((digS[j]'hj : Nat) : Int) ≠ r ∧ ((digC[j]'hj : Nat) : Int) ≠ r) (fun i => 10 - (intOf i).toNat)
      case atStart => exact ⟨0, by omega, rfl, fun j hj h => absurd h (by omega)⟩
      case round =>
        obtain ⟨k, hk, rfl, hno⟩ := hrel
        have HNO := Lib.hid hno
        clear hno
        by_cases hlt : k < 10
        · have hk16 : k < 16 := by omega
          have hix := idx_digS k hk16
          have hiy := idx_digC k hk16
          have HY := Lib.hid (dig_hit k hk16 10 (.inl rfl) (by omega) r)
          obtain ⟨x, hx⟩ : ∃ x, (digS[k]'hk16) = x := ⟨_, rfl⟩
          obtain ⟨y, hy⟩ : ∃ y, (digC[k]'hk16) = y := ⟨_, rfl⟩
          have hx9 : x < 256 := by
            have : ∀ y ∈ digS, y < 256 := by decide
            exact this x (hx ▸ List.getElem_mem hk16)
          have hy9 : y < 256 := by
            have : ∀ y ∈ digC, y < 256 := by decide
            exact this y (hy ▸ List.getElem_mem hk16)
          rw [hx] at hix HY
          rw [hy] at hiy HY
          have HX := Lib.hid hx
          have HZ := Lib.hid hy
          clear hx hy
          by_cases hxr : (x : Int) = r
          · have HXR := Lib.hid hxr
            have t : ((x : Int) == r) = true := by rw [hxr]; simp
            clear hxr
            go_wp2_with fail
            go_ret
            exact ⟨ret_i64 (HY.out (.inl HXR.out)), rfl⟩
          · have t : ((x : Int) == r) = false := by simpa using hxr
            have HXR := Lib.hid hxr
            clear hxr
            by_cases hyr : (y : Int) = r
            · have HYR := Lib.hid hyr
              have t' : ((y : Int) == r) = true := by rw [hyr]; simp
              clear hyr
              go_wp2_with fail
              go_ret
              exact ⟨ret_i64 (HY.out (.inr HYR.out)), rfl⟩
            · have t' : ((y : Int) == r) = false := by simpa using hyr
              have HYR := Lib.hid hyr
              clear hyr
              go_wp2_with fail
              go_round
              case rel =>
                refine ⟨k + 1, by omega, by go_num, fun j hj h => ?_⟩
                rcases Nat.lt_or_ge j k with h5 | h5
                · exact HNO.out j hj h5
                · obtain rfl : j = k := by omega
                  rw [HX.out, HZ.out]; exact ⟨HXR.out, HYR.out⟩
              case measure => simp [intOf]; omega
        · have hk10 : k = 10 := by omega
          subst hk10
          go_wp2_with fail
          go_ret
          exact ⟨ret_i64 (dig_miss r 10 (by omega) (.inl rfl) HNO.out), rfl⟩
    · go_loop [7] (fun i => ∃ k : Nat, k ≤ 16 ∧ i = .int .i64 k ∧ ∀ j (hj : j < 16), j < k → ((digS[j]'hj : Nat) : Int) ≠ r ∧ ((digC[j]'hj : Nat) : Int) ≠ r) (fun i => 16 - (intOf i).toNat)
      case atStart => exact ⟨0, by omega, rfl, fun j hj h => absurd h (by omega)⟩
      case round =>
        obtain ⟨k, hk, rfl, hno⟩ := hrel
        have HNO := Lib.hid hno
        clear hno
        by_cases hlt : k < 16
        · have hk16 : k < 16 := by omega
          have hix := idx_digS k hk16
          have hiy := idx_digC k hk16
          have HY := Lib.hid (dig_hit k hk16 16 (.inr rfl) (by omega) r)
          obtain ⟨x, hx⟩ : ∃ x, (digS[k]'hk16) = x := ⟨_, rfl⟩
          obtain ⟨y, hy⟩ : ∃ y, (digC[k]'hk16) = y := ⟨_, rfl⟩
          have hx9 : x < 256 := by
            have : ∀ y ∈ digS, y < 256 := by decide
            exact this x (hx ▸ List.getElem_mem hk16)
          have hy9 : y < 256 := by
            have : ∀ y ∈ digC, y < 256 := by decide
            exact this y (hy ▸ List.getElem_mem hk16)
          rw [hx] at hix HY
          rw [hy] at hiy HY
          have HX := Lib.hid hx
          have HZ := Lib.hid hy
          clear hx hy
          by_cases hxr : (x : Int) = r
          · have HXR := Lib.hid hxr
            have t : ((x : Int) == r) = true := by rw [hxr]; simp
            clear hxr
            go_wp2_with fail
            go_ret
            exact ⟨ret_i64 (HY.out (.inl HXR.out)), rfl⟩
          · have t : ((x : Int) == r) = false := by simpa using hxr
            have HXR := Lib.hid hxr
            clear hxr
            by_cases hyr : (y : Int) = r
            · have HYR := Lib.hid hyr
              have t' : ((y : Int) == r) = true := by rw [hyr]; simp
              clear hyr
              go_wp2_with fail
              go_ret
              exact ⟨ret_i64 (HY.out (.inr HYR.out)), rfl⟩
            · have t' : ((y : Int) == r) = false := by simpa using hyr
              have HYR := Lib.hid hyr
              clear hyr
              go_wp2_with fail
              go_round
              case rel =>
                refine ⟨k + 1, by omega, by go_num, fun j hj h => ?_⟩
                rcases Nat.lt_or_ge j k with h5 | h5
                · exact HNO.out j hj h5
                · obtain rfl : j = k := by omega
                  rw [HX.out, HZ.out]; exact ⟨HXR.out, HYR.out⟩
              case measure => simp [intOf]; omega
        · have hk16 : k = 16 := by omega
          subst hk16
          go_wp2_with fail
          go_ret
          exact ⟨ret_i64 (dig_miss r 16 (by omega) (.inr rfl) HNO.out), rfl⟩
  · have b1 : b ≠ 10 := by omega
    have b2 : b ≠ 16 := by omega
    have t1 : (b != 10) = true := by simp [b1]
    have t2 : (b != 16) = true := by simp [b2]
    go_enter Tryd.func127, Tryd.ntmps127
    go_wp2_with fail
    go_ret
    exact ⟨ret_i64 (by unfold digN; rw [if_neg (by omega)]), rfl⟩
end Go.Proofs.YtdmfladcldkmeaaDoor
namespace Go.Proofs.YtdmfladcldkmeaaDoor
open Go.ChangeShapes Go.WideShapes Go.ChangeAt Go.RowKit
set_option linter.unusedVariables false

/-- The place behind the digits of base b. -/
def digZ (l : List UInt8) (b : Int) : Nat → Nat → Nat
  | 0, k => k
  | f + 1, k => if k < l.length ∧ 0 ≤ digN (byteAt l k) b then digZ l b f (k + 1) else k
/-- The number that they say, behind what was said before. -/
def digT (l : List UInt8) (b : Int) : Nat → Nat → Nat → Nat
  | 0, _, T => T
  | f + 1, k, T => if k < l.length ∧ 0 ≤ digN (byteAt l k) b then digT l b f (k + 1) (T * b.toNat + (digN (byteAt l k) b).toNat) else T
theorem digZ_out {l : List UInt8} {b : Int} (f k : Nat) (h : l.length ≤ k ∨ digN (byteAt l k) b < 0) : digZ l b f k = k := by
  cases f with
  | zero => rfl
  | succ f => rw [digZ, if_neg (by omega)]
theorem digZ_on {l : List UInt8} {b : Int} (f k : Nat) (h : k < l.length) (hd : 0 ≤ digN (byteAt l k) b) : digZ l b (f + 1) k = digZ l b f (k + 1) := by
  rw [digZ, if_pos ⟨h, hd⟩]
theorem digT_out {l : List UInt8} {b : Int} (f k T : Nat) (h : l.length ≤ k ∨ digN (byteAt l k) b < 0) : digT l b f k T = T := by
  cases f with
  | zero => rfl
  | succ f => rw [digT, if_neg (by omega)]
theorem digT_on {l : List UInt8} {b : Int} (f k T : Nat) (h : k < l.length) (hd : 0 ≤ digN (byteAt l k) b) :
    digT l b (f + 1) k T = digT l b f (k + 1) (T * b.toNat + (digN (byteAt l k) b).toNat) := by
  rw [digT, if_pos ⟨h, hd⟩]
theorem digZ_ge (l : List UInt8) (b : Int) : ∀ f k, k ≤ digZ l b f k
  | 0, k => Nat.le_refl _
  | f + 1, k => by
    rw [digZ]
    split
    · exact Nat.le_trans (Nat.le_succ k) (digZ_ge l b f (k + 1))
    · exact Nat.le_refl _
theorem digN_le (r b : Int) (hb : b = 10 ∨ b = 16) : digN r b < b := by
  unfold digN
  rw [if_pos hb]
  split <;> omega
/-- One more digit, where the number is held. -/
theorem cap10 {T x d : Nat} (M : Nat) (h : x = min T M) : min (x * 10 + d) M = min (T * 10 + d) M := by subst h; omega
theorem cap16 {T x d : Nat} (M : Nat) (h : x = min T M) : min (x * 16 + d) M = min (T * 16 + d) M := by subst h; omega
/-- Numbers that are held are no characters, as those that are not. -/
theorem char_cap {T x : Nat} (M : Nat) (hM : 1114112 ≤ M) (h : x = min T M) : hasT charT (x : Int) = hasT charT (T : Int) := by
  rw [Bool.eq_iff_iff, charT_iff, charT_iff]
  subst h
  omega
theorem char_low {T x : Nat} (M : Nat) (hM : 1114112 ≤ M) (h : x = min T M) (hc : hasT charT (x : Int) = true) : x = T := by
  rw [charT_iff] at hc
  subst h
  omega

def noC (e : Int) : Value := .tuple #[.int .i64 0, .int .i64 0, .int .i64 e]
/-- Digits of base b, from place k on, and what is behind them. -/
def crefD (l : List UInt8) (b : Int) (k : Nat) : Value :=
  if digZ l b l.length k = k ∨ digZ l b l.length k = l.length ∨ byteAt l (digZ l b l.length k) ≠ 59 then noC 7
  else if hasT charT ((digT l b l.length k 0 : Nat) : Int) = false then noC 6
  else .tuple #[.int .i64 ((digT l b l.length k 0 : Nat) : Int), .int .i64 ((digZ l b l.length k : Nat) + 1), .int .i64 0]
/-- What Char tells. -/
def chV (l : List UInt8) (k : Int) : Value :=
  if k < 0 ∨ (l.length : Int) < k then noC 3
  else if l.length < k.toNat + 3 ∨ byteAt l k.toNat ≠ 38 ∨ byteAt l (k.toNat + 1) ≠ 35 then noC 7
  else if byteAt l (k.toNat + 2) = 120 then crefD l 16 (k.toNat + 3) else crefD l 10 (k.toNat + 2)
theorem crefD_tup (l : List UInt8) (b : Int) (k : Nat) : ∃ x y z, crefD l b k = .tuple #[.int .i64 x, .int .i64 y, .int .i64 z] := by
  unfold crefD noC
  split
  · exact ⟨_, _, _, rfl⟩
  · split <;> exact ⟨_, _, _, rfl⟩
theorem chV_tup (l : List UInt8) (k : Int) : ∃ x y z, chV l k = .tuple #[.int .i64 x, .int .i64 y, .int .i64 z] := by
  unfold chV
  split
  · exact ⟨_, _, _, rfl⟩
  · split
    · exact ⟨_, _, _, rfl⟩
    · split <;> exact crefD_tup _ _ _
theorem ret_c3 {a b c x y z : Int} (h1 : a = x) (h2 : b = y) (h3 : c = z) : Ending.returned (.tuple #[.int .i64 a, .int .i64 b, .int .i64 c]) = .returned (.tuple #[.int .i64 x, .int .i64 y, .int .i64 z]) := by rw [h1, h2, h3]
end Go.Proofs.YtdmfladcldkmeaaDoor
