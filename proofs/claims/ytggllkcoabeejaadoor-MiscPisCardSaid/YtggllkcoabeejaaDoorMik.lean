/- The document's marked texts, read at any place. -/
import Derived.Test.YtggllkcoabeejaaDoorMij
namespace Go.Proofs.YtggllkcoabeejaaDoor
open Go.ChangeShapes Go.WideShapes Go.ChangeAt Go.RowKit
set_option linter.unusedVariables false
set_option maxRecDepth 100000

set_option maxHeartbeats 2000000 in
theorem rcdata_any (l : List UInt8) (A : Option Addr) (n c : Nat) (k : Int) (w : World) (hn : l.length = n) (hnc : n ≤ c) (hc9 : c ≤ 9223372036854775807) (hk : I64 k) (hs : Sees w A (vB l)) (hn9 : n ≤ 1000000000) :
    Calls Tryd.prog 10 #[.slice A n c, .int .i64 k] w fun e w' => e = .returned (datV l k) ∧ w = w' := by
  have hkl := hk.1
  have hkh := hk.2
  by_cases hout : k < 0 ∨ (n : Int) < k
  · rw [show datV l k = noM 3 by unfold datV mrkV; rw [if_pos (by rw [hn]; exact hout)]]
    unfold noM
    rcases hout with h0 | h0
    all_goals
      go_enter Tryd.func10, Tryd.ntmps10
      go_wp2_with fail
      go_ret3
      exact ⟨rfl, rfl⟩
  · obtain ⟨j, rfl⟩ : ∃ j : Nat, k = j := ⟨k.toNat, by omega⟩
    have hj : j ≤ n := by omega
    have i0 : (0 : Int) ≤ (j : Int) := by omega
    have i1 : (j : Int) ≤ (n : Int) := by omega
    have K1' : Calls Tryd.prog 22 #[.slice A n c, .int .i64 j, strV dA] w fun e w' => e = .returned (.bool (Lib.occAt l dA j)) ∧ w = w' := rat_any l dA A n c j w hn hnc hc9 hj hs (by decide) (by decide)
    by_cases hocc : Lib.occAt l dA j = false
    · rw [show datV l j = noM 7 by unfold datV mrkV; rw [if_neg (by omega), Int.toNat_natCast, if_pos hocc]]
      unfold noM
      rw [hocc] at K1'
      have K1 := Lib.hid K1'
      clear K1' hs
      go_enter Tryd.func10, Tryd.ntmps10
      go_wp2_with fail
      refine K1.out.mono ?_
      rintro e w1 ⟨rfl, hw1⟩
      subst hw1
      go_wp2_with fail
      go_ret3
      exact ⟨rfl, rfl⟩
    · have hocc' : Lib.occAt l dA j = true := by simpa using hocc
      rw [hocc'] at K1'
      have K1 := Lib.hid K1'
      have hroom : j + 9 ≤ n := by
        by_cases h : j + 9 ≤ n
        · exact h
        · exact absurd (occ_short (l := l) (sub := dA) (k := j) (by rw [show dA.length = 9 from rfl]; omega) (by decide)) hocc
      obtain ⟨p, hp⟩ : ∃ p, j + 9 = p := ⟨_, rfl⟩
      have hpI : (j : Int) + 9 = (p : Int) := by omega
      have K2' : Calls Tryd.prog 14 #[.slice A n c, .int .i64 p, strV dB] w fun e w' => e = .returned (.int .i64 (fndV l dB p)) ∧ w = w' := rfind_any l dB A n c p w hn hnc hc9 hn9 (by omega) hs (by decide) (by decide)
      have hfr := fnd_room (l := l) (sub := dB) (k := p) (by omega)
      have hcf : Lib.index (l.drop p) dB = if fndV l dB p < 0 then -1 else fndV l dB p - p := by
        have hge := Lib.index_ge (l.drop p) dB
        unfold fndV
        by_cases hi : Lib.index (l.drop p) dB < 0
        · rw [if_pos hi, if_pos (by omega)]; omega
        · rw [if_neg hi, if_neg (by omega)]; omega
      have hV : datV l j = if Lib.index (l.drop p) dB < 0 then noM 7 else .tuple #[strV ((l.drop p).take (Lib.index (l.drop p) dB).toNat), .int .i64 ((p + (Lib.index (l.drop p) dB).toNat + dB.length : Nat) : Int), .int .i64 0] := by
        unfold datV mrkV
        rw [if_neg (by omega), Int.toNat_natCast, if_neg hocc, show j + dA.length = p from hp, hp]
      obtain ⟨V, hVV⟩ : ∃ V, datV l j = V := ⟨_, rfl⟩
      rw [hVV] at hV ⊢
      have HV := Lib.hid hV
      clear hVV hV K1' hocc hocc'
      obtain ⟨z, hz⟩ : ∃ z, fndV l dB p = z := ⟨_, rfl⟩
      rw [hz] at K2' hfr hcf
      have K2 := Lib.hid K2'
      clear K2' hz
      by_cases hz0 : z < 0
      · have h1 : Lib.index (l.drop p) dB = -1 := by rw [hcf, if_pos hz0]
        have HC := Lib.hid (show V = noM 7 by rw [HV.out, h1, if_pos (by omega)])
        clear hs hfr hcf HV h1
        go_enter Tryd.func10, Tryd.ntmps10
        go_wp2_with fail
        refine K1.out.mono ?_
        rintro e w1 ⟨rfl, hw1⟩
        subst hw1
        go_wp2_with fail
        refine K2.out.mono ?_
        rintro e w2 ⟨rfl, hw2⟩
        subst hw2
        go_wp2_with fail
        go_ret3
        exact ⟨by have h := HC.out; subst h; rfl, rfl⟩
      · obtain ⟨i, rfl⟩ : ∃ i : Nat, z = i := ⟨z.toNat, by omega⟩
        have hfr' := hfr (by omega)
        rw [show dB.length = 3 from rfl] at hfr'
        have h1 : Lib.index (l.drop p) dB = (i : Int) - p := by rw [hcf, if_neg (by omega)]
        have HC := Lib.hid (show V = .tuple #[strV ((l.drop p).take (i - p)), .int .i64 ((i + 3 : Nat) : Int), .int .i64 0] by
          rw [HV.out, h1, if_neg (by omega), show ((i : Int) - (p : Int)).toNat = i - p by omega, show p + (i - p) + dB.length = i + 3 by rw [show dB.length = 3 from rfl]; omega])
        obtain ⟨ad, rfl, _⟩ := hs.byte (k := j) (by omega)
        have hsP := hs.drop (k := p) (cap := c) (by rw [vB_len]; omega)
        rw [← vB_drop, if_neg (by omega)] at hsP
        have hst := hsP.take (i - p)
        rw [← vB_take] at hst
        have kc := conv_sees w (some (ad.add p)) (i - p) (c - p) ((l.drop p).take (i - p)) (by simp; omega) hst
        have t1 : ¬ ((i : Int) < 0) := by omega
        have t2 : (p : Int) ≤ (i : Int) := by omega
        have t3 : (i : Int) ≤ (c : Int) := by omega
        clear hs hsP hst hfr hcf HV h1
        go_enter Tryd.func10, Tryd.ntmps10
        go_wp2_with fail
        refine K1.out.mono ?_
        rintro e w1 ⟨rfl, hw1⟩
        subst hw1
        go_wp2_with fail
        refine K2.out.mono ?_
        rintro e w2 ⟨rfl, hw2⟩
        subst hw2
        go_wp2_with fail
        go_ret3
        exact ⟨by have h := HC.out; subst h; rfl, rfl⟩
end Go.Proofs.YtggllkcoabeejaaDoor
