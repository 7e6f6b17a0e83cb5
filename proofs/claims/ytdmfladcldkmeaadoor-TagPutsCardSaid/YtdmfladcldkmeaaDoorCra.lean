/- References: entities by their mark, by the program and by the document. -/
import Derived.Test.YtdmfladcldkmeaaDoorNamf
namespace Go.Proofs.YtdmfladcldkmeaaDoor
open Go.ChangeShapes Go.WideShapes Go.ChangeAt Go.RowKit
set_option linter.unusedVariables false
set_option maxRecDepth 100000

/-- The end of the plain name behind a mark. -/
def entZ (l : List UInt8) (k : Nat) : Nat := endN l (plainP charN) l.length (plainP startN) (k + 1)
def noV (e : Int) : Value := .tuple #[.string ⟨#[]⟩, .int .i64 0, .int .i64 e]
def entV (l : List UInt8) (k : Int) (mark : Nat) : Value :=
  if k < 0 ∨ (l.length : Int) < k then noV 3
  else if k.toNat = l.length ∨ byteAt l k.toNat ≠ mark then noV 7
  else if entZ l k.toNat = k.toNat + 1 then noV 7
  else if 1024 < entZ l k.toNat - (k.toNat + 1) then noV 11
  else if entZ l k.toNat = l.length ∨ byteAt l (entZ l k.toNat) ≠ 59 then noV 7
  else .tuple #[strV ((l.drop (k.toNat + 1)).take (entZ l k.toNat - (k.toNat + 1))), .int .i64 ((entZ l k.toNat : Nat) + 1), .int .i64 0]

set_option maxHeartbeats 2000000 in
theorem cread_any (l : List UInt8) (A : Option Addr) (n c : Nat) (k : Int) (mark : Nat) (w : World)
    (hn : l.length = n) (hnc : n ≤ c) (hm : c ≤ 9223372036854775807) (hk : I64 k) (hn9 : n ≤ 1000000) (hmk : mark < 256) (hs : Sees w A (vB l)) (ht : TabN w) :
    Calls Tryd.prog 186 #[.slice A n c, .int .i64 k, .int .u8 mark] w fun e w' => e = .returned (entV l k mark) ∧ Below w.heap.size w w' := by
  have hkl := hk.1
  have hkh := hk.2
  by_cases hout : k < 0 ∨ (n : Int) < k
  · have hv : entV l k mark = noV 3 := by rw [entV, if_pos (by rw [hn]; exact hout)]
    rw [hv]
    clear hv
    unfold noV
    rcases hout with h0 | h0
    all_goals
      go_enter Tryd.func186, Tryd.ntmps186
      go_wp2_with fail
      go_ret3
      exact ⟨rfl, Below.refl _ _⟩
  · obtain ⟨j, rfl⟩ : ∃ j : Nat, k = j := ⟨k.toNat, by omega⟩
    have hj : j ≤ n := by omega
    by_cases hjn : j = n
    · have hv : entV l j mark = noV 7 := by rw [entV, if_neg (by omega), Int.toNat_natCast, if_pos (.inl (by omega))]
      rw [hv]
      clear hv
      unfold noV
      subst hjn
      go_enter Tryd.func186, Tryd.ntmps186
      go_wp2_with fail
      go_ret3
      exact ⟨rfl, Below.refl _ _⟩
    · have hjl : j < n := by omega
      obtain ⟨ad, rfl, hcell⟩ := hs.byte (k := j) (by omega)
      obtain ⟨b, hb⟩ : ∃ b, byteAt l j = b := ⟨_, rfl⟩
      have hb256 := byteAt_lt l j
      rw [hb] at hcell hb256
      by_cases hbm : b = mark
      · have HP := plainN_any l (some ad) n c ((j + 1 : Nat) : Int) w hn hnc hm ⟨by omega, by omega⟩ hs ht
        have hzle := endN_le l (plainP charN) l.length (plainP startN) (j + 1) (by omega)
        have hv0 : entV l j mark = if entZ l j = j + 1 then noV 7 else if 1024 < entZ l j - (j + 1) then noV 11 else if entZ l j = l.length ∨ byteAt l (entZ l j) ≠ 59 then noV 7 else .tuple #[strV ((l.drop (j + 1)).take (entZ l j - (j + 1))), .int .i64 ((entZ l j : Nat) + 1), .int .i64 0] := by
          rw [entV, if_neg (by omega), Int.toNat_natCast, if_neg (by rw [hb]; omega)]
        rw [hv0]
        clear hv0
        have hz0 : endN l (plainP charN) l.length (plainP startN) (j + 1) = entZ l j := rfl
        rw [hz0] at hzle
        obtain ⟨z, hz⟩ : ∃ z, entZ l j = z := ⟨_, rfl⟩
        rw [hz] at hz0 hzle ⊢
        have t1 : ((b : Int) != (mark : Int)) = false := by rw [hbm]; simp
        by_cases h1 : z = j + 1
        · rw [if_pos h1]
          rw [readV_none (by omega) (by rw [hz0]; exact h1)] at HP
          have H := Lib.hid HP
          clear HP hz0 hz hs hb h1
          unfold noV
          go_enter Tryd.func186, Tryd.ntmps186
          go_wp2_with fail
          refine H.out.mono ?_
          rintro e w1 ⟨rfl, hb1⟩
          go_wp2_with fail
          go_ret3
          exact ⟨rfl, hb1⟩
        · rw [if_neg h1]
          by_cases h2 : 1024 < z - (j + 1)
          · rw [if_pos h2]
            rw [readV_long (by omega) hz0 (by omega) h2] at HP
            have H := Lib.hid HP
            clear HP hz0 hz hs hb h1 h2
            unfold noV
            go_enter Tryd.func186, Tryd.ntmps186
            go_wp2_with fail
            refine H.out.mono ?_
            rintro e w1 ⟨rfl, hb1⟩
            go_wp2_with fail
            go_ret3
            exact ⟨rfl, hb1⟩
          · rw [if_neg h2]
            rw [readV_ok (by omega) hz0 (by omega) (by omega)] at HP
            obtain ⟨S, hS⟩ : ∃ S, (l.drop (j + 1)).take (z - (j + 1)) = S := ⟨_, rfl⟩
            rw [hS] at HP ⊢
            have H := Lib.hid HP
            clear HP hz0 hz hb h1 h2 hS
            by_cases h3 : z = l.length
            · rw [if_pos (.inl h3)]
              rw [hn] at h3
              subst h3
              clear hs
              unfold noV
              go_enter Tryd.func186, Tryd.ntmps186
              go_wp2_with fail
              refine H.out.mono ?_
              rintro e w1 ⟨rfl, hb1⟩
              go_wp2_with fail
              go_ret3
              exact ⟨rfl, hb1⟩
            · obtain ⟨ad2, e2, hcz⟩ := hs.byte (k := z) (by omega)
              injection e2 with e2
              subst e2
              obtain ⟨d, hd⟩ : ∃ d, byteAt l z = d := ⟨_, rfl⟩
              have hd256 := byteAt_lt l z
              rw [hd] at hcz hd256 ⊢
              have hzn : z < n := by omega
              have h3n : z ≠ n := by omega
              by_cases h4 : d = 59
              · rw [if_neg (by omega)]
                subst h4
                clear hs hd h3
                go_enter Tryd.func186, Tryd.ntmps186
                go_wp2_with fail
                refine H.out.mono ?_
                rintro e w1 ⟨rfl, hb1⟩
                have hcz1 := cell_later hb1 hcz
                go_wp2_with fail
                go_ret3
                exact ⟨rfl, hb1⟩
              · rw [if_pos (.inr h4)]
                have t2 : ((d : Int) != 59) = true := by simp; omega
                clear hs hd h3
                unfold noV
                go_enter Tryd.func186, Tryd.ntmps186
                go_wp2_with fail
                refine H.out.mono ?_
                rintro e w1 ⟨rfl, hb1⟩
                have hcz1 := cell_later hb1 hcz
                go_wp2_with fail
                go_ret3
                exact ⟨rfl, hb1⟩
      · have hv : entV l j mark = noV 7 := by rw [entV, if_neg (by omega), Int.toNat_natCast, if_pos (.inr (by rw [hb]; exact hbm))]
        rw [hv]
        have t1 : ((b : Int) != (mark : Int)) = true := by simp; omega
        clear hv hb hs
        unfold noV
        go_enter Tryd.func186, Tryd.ntmps186
        go_wp2_with fail
        go_ret3
        exact ⟨rfl, Below.refl _ _⟩

set_option maxHeartbeats 2000000 in
theorem rent_any (l : List UInt8) (A : Option Addr) (n c : Nat) (k : Int) (mark : Nat) (w : World)
    (hn : l.length = n) (hnc : n ≤ c) (hm : c ≤ 9223372036854775807) (hk : I64 k) (hn9 : n ≤ 1000000) (hmk : mark < 256) (hs : Sees w A (vB l)) (ht : TabN w) :
    Calls Tryd.prog 106 #[.slice A n c, .int .i64 k, .int .u8 mark] w fun e w' => e = .returned (entV l k mark) ∧ Below w.heap.size w w' := by
  have hkl := hk.1
  have hkh := hk.2
  by_cases hout : k < 0 ∨ (n : Int) < k
  · have hv : entV l k mark = noV 3 := by rw [entV, if_pos (by rw [hn]; exact hout)]
    rw [hv]
    clear hv
    unfold noV
    rcases hout with h0 | h0
    all_goals
      go_enter Tryd.func106, Tryd.ntmps106
      go_wp2_with fail
      go_ret3
      exact ⟨rfl, Below.refl _ _⟩
  · obtain ⟨j, rfl⟩ : ∃ j : Nat, k = j := ⟨k.toNat, by omega⟩
    have hj : j ≤ n := by omega
    by_cases hjn : j = n
    · have hv : entV l j mark = noV 7 := by rw [entV, if_neg (by omega), Int.toNat_natCast, if_pos (.inl (by omega))]
      rw [hv]
      clear hv
      unfold noV
      subst hjn
      go_enter Tryd.func106, Tryd.ntmps106
      go_wp2_with fail
      go_ret3
      exact ⟨rfl, Below.refl _ _⟩
    · have hjl : j < n := by omega
      obtain ⟨ad, rfl, hcell⟩ := hs.byte (k := j) (by omega)
      obtain ⟨b, hb⟩ : ∃ b, byteAt l j = b := ⟨_, rfl⟩
      have hb256 := byteAt_lt l j
      rw [hb] at hcell hb256
      by_cases hbm : b = mark
      · have HP := rread_any l (some ad) n c ((j + 1 : Nat) : Int) w true hn hnc (by omega) ⟨by omega, by omega⟩ hs
        rw [show kindP true startN = plainP startN from rfl, show kindP true charN = plainP charN from rfl] at HP
        have hzle := endN_le l (plainP charN) l.length (plainP startN) (j + 1) (by omega)
        have hv0 : entV l j mark = if entZ l j = j + 1 then noV 7 else if 1024 < entZ l j - (j + 1) then noV 11 else if entZ l j = l.length ∨ byteAt l (entZ l j) ≠ 59 then noV 7 else .tuple #[strV ((l.drop (j + 1)).take (entZ l j - (j + 1))), .int .i64 ((entZ l j : Nat) + 1), .int .i64 0] := by
          rw [entV, if_neg (by omega), Int.toNat_natCast, if_neg (by rw [hb]; omega)]
        rw [hv0]
        clear hv0
        have hz0 : endN l (plainP charN) l.length (plainP startN) (j + 1) = entZ l j := rfl
        rw [hz0] at hzle
        obtain ⟨z, hz⟩ : ∃ z, entZ l j = z := ⟨_, rfl⟩
        rw [hz] at hz0 hzle ⊢
        have t1 : ((b : Int) != (mark : Int)) = false := by rw [hbm]; simp
        by_cases h1 : z = j + 1
        · rw [if_pos h1]
          rw [readV_none (by omega) (by rw [hz0]; exact h1)] at HP
          have H := Lib.hid HP
          clear HP hz0 hz hs hb h1
          unfold noV
          go_enter Tryd.func106, Tryd.ntmps106
          go_wp2_with fail
          refine H.out.mono ?_
          rintro e w1 ⟨rfl, hb1⟩
          go_wp2_with fail
          go_ret3
          exact ⟨rfl, hb1⟩
        · rw [if_neg h1]
          by_cases h2 : 1024 < z - (j + 1)
          · rw [if_pos h2]
            rw [readV_long (by omega) hz0 (by omega) h2] at HP
            have H := Lib.hid HP
            clear HP hz0 hz hs hb h1 h2
            unfold noV
            go_enter Tryd.func106, Tryd.ntmps106
            go_wp2_with fail
            refine H.out.mono ?_
            rintro e w1 ⟨rfl, hb1⟩
            go_wp2_with fail
            go_ret3
            exact ⟨rfl, hb1⟩
          · rw [if_neg h2]
            rw [readV_ok (by omega) hz0 (by omega) (by omega)] at HP
            obtain ⟨S, hS⟩ : ∃ S, (l.drop (j + 1)).take (z - (j + 1)) = S := ⟨_, rfl⟩
            rw [hS] at HP ⊢
            have H := Lib.hid HP
            clear HP hz0 hz hb h1 h2 hS
            by_cases h3 : z = l.length
            · rw [if_pos (.inl h3)]
              rw [hn] at h3
              subst h3
              clear hs
              unfold noV
              go_enter Tryd.func106, Tryd.ntmps106
              go_wp2_with fail
              refine H.out.mono ?_
              rintro e w1 ⟨rfl, hb1⟩
              go_wp2_with fail
              go_ret3
              exact ⟨rfl, hb1⟩
            · obtain ⟨ad2, e2, hcz⟩ := hs.byte (k := z) (by omega)
              injection e2 with e2
              subst e2
              obtain ⟨d, hd⟩ : ∃ d, byteAt l z = d := ⟨_, rfl⟩
              have hd256 := byteAt_lt l z
              rw [hd] at hcz hd256 ⊢
              have hzn : z < n := by omega
              have h3n : z ≠ n := by omega
              by_cases h4 : d = 59
              · rw [if_neg (by omega)]
                subst h4
                clear hs hd h3
                go_enter Tryd.func106, Tryd.ntmps106
                go_wp2_with fail
                refine H.out.mono ?_
                rintro e w1 ⟨rfl, hb1⟩
                have hcz1 := cell_later hb1 hcz
                go_wp2_with fail
                go_ret3
                exact ⟨rfl, hb1⟩
              · rw [if_pos (.inr h4)]
                have t2 : ((d : Int) != 59) = true := by simp; omega
                clear hs hd h3
                unfold noV
                go_enter Tryd.func106, Tryd.ntmps106
                go_wp2_with fail
                refine H.out.mono ?_
                rintro e w1 ⟨rfl, hb1⟩
                have hcz1 := cell_later hb1 hcz
                go_wp2_with fail
                go_ret3
                exact ⟨rfl, hb1⟩
      · have hv : entV l j mark = noV 7 := by rw [entV, if_neg (by omega), Int.toNat_natCast, if_pos (.inr (by rw [hb]; exact hbm))]
        rw [hv]
        have t1 : ((b : Int) != (mark : Int)) = true := by simp; omega
        clear hv hb hs
        unfold noV
        go_enter Tryd.func106, Tryd.ntmps106
        go_wp2_with fail
        go_ret3
        exact ⟨rfl, Below.refl _ _⟩
end Go.Proofs.YtdmfladcldkmeaaDoor
