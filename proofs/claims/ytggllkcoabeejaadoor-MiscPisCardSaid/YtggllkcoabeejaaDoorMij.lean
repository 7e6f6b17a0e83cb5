/- The document's comments and marked texts, read at any place. -/
import Derived.Test.YtggllkcoabeejaaDoorMie
namespace Go.Proofs.YtggllkcoabeejaaDoor
open Go.ChangeShapes Go.WideShapes Go.ChangeAt Go.RowKit
set_option linter.unusedVariables false
set_option maxRecDepth 100000

/-- Where a mark is found behind a place, in the words of what is behind. -/
theorem fnd_room {l sub : List UInt8} {k : Nat} (hk : k ≤ l.length) (h : 0 ≤ fndV l sub k) : (k : Int) ≤ fndV l sub k ∧ fndV l sub k + sub.length ≤ l.length := by
  unfold fndV at h ⊢
  by_cases hi : Lib.index (l.drop k) sub < 0
  · rw [if_pos hi] at h; omega
  · rw [if_neg hi]
    have := Lib.index_room (l.drop k) sub (by omega)
    rw [List.length_drop] at this
    omega
/-- A comment's end: three signs. -/
theorem cfV_of (l : List UInt8) (k : Nat) (hk : k ≤ l.length) : cfV (l.drop k) = (if fndV l [45, 45] k < 0 ∨ Lib.occAt l [45, 45, 62] (fndV l [45, 45] k).toNat = false then -1 else fndV l [45, 45] k - k) := by
  unfold cfV fndV
  by_cases hi : Lib.index (l.drop k) [45, 45] < 0
  · rw [if_pos (.inl hi), if_pos hi, if_pos (.inl (by omega))]
  · rw [if_neg hi]
    obtain ⟨i, hI⟩ : ∃ i : Nat, Lib.index (l.drop k) [45, 45] = i := ⟨(Lib.index (l.drop k) [45, 45]).toNat, by omega⟩
    have hsp := Lib.index_spec (l.drop k) [45, 45]
    rw [hI] at hsp hi ⊢
    have hocc : Lib.occAt (l.drop k) [45, 45] i = true := by
      rcases hsp with ⟨h1, _⟩ | ⟨j, h1, _, h3, _⟩
      · omega
      · obtain rfl : j = i := by omega
        exact h3
    obtain ⟨a1, a2⟩ := (occ2 _ _ _ _).1 hocc
    rw [List.getElem?_drop] at a1 a2
    have b2 := (List.getElem?_eq_some_iff.1 a2).1
    have e1 : ((k : Int) + (i : Int)).toNat = k + i := by omega
    rw [e1, Int.toNat_natCast]
    have key : (Lib.occAt l [45, 45, 62] (k + i) = false) ↔ ((i : Int) + 2 = (l.drop k).length ∨ byteAt (l.drop k) (i + 2) ≠ 62) := by
      rw [List.length_drop]
      have hb : byteAt (l.drop k) (i + 2) = byteAt l (k + (i + 2)) := by unfold byteAt; rw [List.getElem?_drop]
      rw [hb]
      constructor
      · intro h
        by_cases hl : k + (i + 2) < l.length
        · right
          intro hq
          have h3 : l[k + i + 2]? = some 62 := by
            unfold byteAt at hq
            rw [show k + i + 2 = k + (i + 2) by omega, List.getElem?_eq_getElem hl] at *
            have hq' : (l[k + (i + 2)]).toNat = 62 := hq
            rw [show l[k + (i + 2)] = 62 from UInt8.toNat_inj.1 hq']
          have : Lib.occAt l [45, 45, 62] (k + i) = true := (occ3 _ _ _ _ _).2 ⟨a1, by rw [show k + i + 1 = k + (i + 1) by omega]; exact a2, h3⟩
          rw [this] at h; cases h
        · left; omega
      · intro h
        cases ho : Lib.occAt l [45, 45, 62] (k + i) with
        | false => rfl
        | true =>
          obtain ⟨_, _, c3⟩ := (occ3 _ _ _ _ _).1 ho
          have b3 := (List.getElem?_eq_some_iff.1 c3).1
          rcases h with h | h
          · omega
          · exfalso
            apply h
            unfold byteAt
            rw [show k + (i + 2) = k + i + 2 by omega, c3]
            rfl
    by_cases hq : Lib.occAt l [45, 45, 62] (k + i) = false
    · rw [if_pos (.inr (key.1 hq)), if_pos (.inr hq)]
    · rw [if_neg (by rintro (h | h); · omega
                     · exact hq (key.2 h)), if_neg (by rintro (h | h); · omega
                                                       · exact hq h)]
      omega
set_option maxHeartbeats 2000000 in
theorem rcomment_any (l : List UInt8) (A : Option Addr) (n c : Nat) (k : Int) (w : World) (hn : l.length = n) (hnc : n ≤ c) (hc9 : c ≤ 9223372036854775807) (hk : I64 k) (hs : Sees w A (vB l)) (hn9 : n ≤ 1000000000) :
    Calls Tryd.prog 8 #[.slice A n c, .int .i64 k] w fun e w' => e = .returned (cmtV l k) ∧ w = w' := by
  have hkl := hk.1
  have hkh := hk.2
  by_cases hout : k < 0 ∨ (n : Int) < k
  · rw [show cmtV l k = noM 3 by unfold cmtV mrkV; rw [if_pos (by rw [hn]; exact hout)]]
    unfold noM
    rcases hout with h0 | h0
    all_goals
      go_enter Tryd.func8, Tryd.ntmps8
      go_wp2_with fail
      go_ret3
      exact ⟨rfl, rfl⟩
  · obtain ⟨j, rfl⟩ : ∃ j : Nat, k = j := ⟨k.toNat, by omega⟩
    have hj : j ≤ n := by omega
    have i0 : (0 : Int) ≤ (j : Int) := by omega
    have i1 : (j : Int) ≤ (n : Int) := by omega
    have K1' : Calls Tryd.prog 22 #[.slice A n c, .int .i64 j, strV cA] w fun e w' => e = .returned (.bool (Lib.occAt l cA j)) ∧ w = w' := rat_any l cA A n c j w hn hnc hc9 hj hs (by decide) (by decide)
    by_cases hocc : Lib.occAt l cA j = false
    · rw [show cmtV l j = noM 7 by unfold cmtV mrkV; rw [if_neg (by omega), Int.toNat_natCast, if_pos hocc]]
      unfold noM
      rw [hocc] at K1'
      have K1 := Lib.hid K1'
      clear K1' hs
      go_enter Tryd.func8, Tryd.ntmps8
      go_wp2_with fail
      refine K1.out.mono ?_
      rintro e w1 ⟨rfl, hw1⟩
      subst hw1
      go_wp2_with fail
      go_ret3
      exact ⟨rfl, rfl⟩
    · have hocc' : Lib.occAt l cA j = true := by simpa using hocc
      rw [hocc'] at K1'
      have K1 := Lib.hid K1'
      have hroom : j + 4 ≤ n := by
        by_cases h : j + 4 ≤ n
        · exact h
        · exact absurd (occ_short (l := l) (sub := cA) (k := j) (by rw [show cA.length = 4 from rfl]; omega) (by decide)) hocc
      obtain ⟨p, hp⟩ : ∃ p, j + 4 = p := ⟨_, rfl⟩
      have hpI : (j : Int) + 4 = (p : Int) := by omega
      have K2' : Calls Tryd.prog 14 #[.slice A n c, .int .i64 p, strV [45, 45]] w fun e w' => e = .returned (.int .i64 (fndV l [45, 45] p)) ∧ w = w' := rfind_any l [45, 45] A n c p w hn hnc hc9 hn9 (by omega) hs (by decide) (by decide)
      have hfr := fnd_room (l := l) (sub := [45, 45]) (k := p) (by omega)
      have hcf := cfV_of l p (by omega)
      have hV : cmtV l j = if cfV (l.drop p) < 0 then noM 7 else .tuple #[strV ((l.drop p).take (cfV (l.drop p)).toNat), .int .i64 ((p + (cfV (l.drop p)).toNat + cB.length : Nat) : Int), .int .i64 0] := by
        unfold cmtV mrkV
        rw [if_neg (by omega), Int.toNat_natCast, if_neg hocc, show j + cA.length = p from hp, hp]
      obtain ⟨V, hVV⟩ : ∃ V, cmtV l j = V := ⟨_, rfl⟩
      rw [hVV] at hV ⊢
      have HV := Lib.hid hV
      clear hVV hV K1' hocc hocc'
      obtain ⟨z, hz⟩ : ∃ z, fndV l [45, 45] p = z := ⟨_, rfl⟩
      rw [hz] at K2' hfr hcf
      have K2 := Lib.hid K2'
      clear K2' hz
      by_cases hz0 : z < 0
      · have h1 : cfV (l.drop p) = -1 := by rw [hcf, if_pos (.inl hz0)]
        have HC := Lib.hid (show V = noM 7 by rw [HV.out, h1, if_pos (by omega)])
        clear hs hfr hcf HV h1
        go_enter Tryd.func8, Tryd.ntmps8
        go_wp2_with fail
        refine K1.out.mono ?_
        rintro e w1 ⟨rfl, hw1⟩
        subst hw1
        go_wp2_with fail
        refine K2.out.mono ?_
        rintro e w2 ⟨rfl, hw2⟩
        subst hw2
        go_wp2_with fail
        go_ret3
        exact ⟨by have h := HC.out; subst h; rfl, rfl⟩
      · obtain ⟨i, rfl⟩ : ∃ i : Nat, z = i := ⟨z.toNat, by omega⟩
        have hfr' := hfr (by omega)
        simp only [List.length_cons, List.length_nil] at hfr'
        rw [Int.toNat_natCast] at hcf
        have K3' : Calls Tryd.prog 22 #[.slice A n c, .int .i64 i, strV [45, 45, 62]] w fun e w' => e = .returned (.bool (Lib.occAt l [45, 45, 62] i)) ∧ w = w' := rat_any l [45, 45, 62] A n c i w hn hnc hc9 (by omega) hs (by decide) (by decide)
        by_cases hq : Lib.occAt l [45, 45, 62] i = false
        · have h1 : cfV (l.drop p) = -1 := by rw [hcf, if_pos (.inr hq)]
          have HC := Lib.hid (show V = noM 7 by rw [HV.out, h1, if_pos (by omega)])
          rw [hq] at K3'
          have K3 := Lib.hid K3'
          clear hs hfr hcf HV K3' hq h1
          go_enter Tryd.func8, Tryd.ntmps8
          go_wp2_with fail
          refine K1.out.mono ?_
          rintro e w1 ⟨rfl, hw1⟩
          subst hw1
          go_wp2_with fail
          refine K2.out.mono ?_
          rintro e w2 ⟨rfl, hw2⟩
          subst hw2
          go_wp2_with fail
          refine K3.out.mono ?_
          rintro e w3 ⟨rfl, hw3⟩
          subst hw3
          go_wp2_with fail
          go_ret3
          exact ⟨by have h := HC.out; subst h; rfl, rfl⟩
        · have hq' : Lib.occAt l [45, 45, 62] i = true := by simpa using hq
          rw [hq'] at K3'
          have K3 := Lib.hid K3'
          have h1 : cfV (l.drop p) = (i : Int) - p := by rw [hcf, if_neg (by rintro (h | h); · omega
                                                                             · exact hq h)]
          have HC := Lib.hid (show V = .tuple #[strV ((l.drop p).take (i - p)), .int .i64 ((i + 3 : Nat) : Int), .int .i64 0] by
            rw [HV.out, h1, if_neg (by omega), show ((i : Int) - (p : Int)).toNat = i - p by omega, show p + (i - p) + cB.length = i + 3 by rw [show cB.length = 3 from rfl]; omega])
          obtain ⟨ad, rfl, _⟩ := hs.byte (k := j) (by omega)
          have hsP := hs.drop (k := p) (cap := c) (by rw [vB_len]; omega)
          rw [← vB_drop, if_neg (by omega)] at hsP
          have hst := hsP.take (i - p)
          rw [← vB_take] at hst
          have kc := conv_sees w (some (ad.add p)) (i - p) (c - p) ((l.drop p).take (i - p)) (by simp; omega) hst
          have t1 : ¬ ((i : Int) < 0) := by omega
          have t2 : (p : Int) ≤ (i : Int) := by omega
          have t3 : (i : Int) ≤ (c : Int) := by omega
          clear hs hsP hst hfr hcf HV K3' hq hq' h1
          go_enter Tryd.func8, Tryd.ntmps8
          go_wp2_with fail
          refine K1.out.mono ?_
          rintro e w1 ⟨rfl, hw1⟩
          subst hw1
          go_wp2_with fail
          refine K2.out.mono ?_
          rintro e w2 ⟨rfl, hw2⟩
          subst hw2
          go_wp2_with fail
          refine K3.out.mono ?_
          rintro e w3 ⟨rfl, hw3⟩
          subst hw3
          go_wp2_with fail
          go_ret3
          exact ⟨by have h := HC.out; subst h; rfl, rfl⟩
end Go.Proofs.YtggllkcoabeejaaDoor
