/- The document's processing instructions, read at any place. -/
import Derived.Test.YtggllkcoabeejaaDoorMin
import Derived.Test.YtggllkcoabeejaaDoorMik
import Derived.Test.YtggllkcoabeejaaDoorMim
namespace Go.Proofs.YtggllkcoabeejaaDoor
open Go.ChangeShapes Go.WideShapes Go.ChangeAt Go.RowKit
set_option linter.unusedVariables false
set_option maxRecDepth 100000

set_option maxHeartbeats 8000000 in
theorem rpi_any (l : List UInt8) (A : Option Addr) (n c : Nat) (k : Int) (w : World) (hn : l.length = n) (hnc : n ≤ c) (hc9 : c ≤ 9223372036854775807) (hn9 : n ≤ 1000000000) (hk : I64 k) (hs : Sees w A (vB l)) :
    Calls Tryd.prog 12 #[.slice A n c, .int .i64 k] w fun e w' => e = .returned (piV l k) ∧ Below w.heap.size w w' := by
  have hkl := hk.1
  have hkh := hk.2
  by_cases hout : k < 0 ∨ (n : Int) < k
  · rw [show piV l k = no4 3 by unfold piV; rw [if_pos (by rw [hn]; exact hout)]]
    unfold no4
    rcases hout with h0 | h0
    all_goals
      go_enter Tryd.func12, Tryd.ntmps12
      go_wp2_with fail
      go_returns
      exact ⟨rfl, Below.refl _ _⟩
  · obtain ⟨j, rfl⟩ : ∃ j : Nat, k = j := ⟨k.toNat, by omega⟩
    have hj : j ≤ n := by omega
    have i0 : (0 : Int) ≤ (j : Int) := by omega
    have i1 : (j : Int) ≤ (n : Int) := by omega
    have K1' : Calls Tryd.prog 22 #[.slice A n c, .int .i64 j, strV pA] w fun e w' => e = .returned (.bool (Lib.occAt l pA j)) ∧ w = w' := rat_any l pA A n c j w hn hnc hc9 hj hs (by decide) (by decide)
    by_cases hocc : Lib.occAt l pA j = false
    · rw [show piV l j = no4 7 by unfold piV; rw [if_neg (by omega), Int.toNat_natCast, if_pos hocc]]
      unfold no4
      rw [hocc] at K1'
      have K1 := Lib.hid K1'
      clear K1' hs
      go_enter Tryd.func12, Tryd.ntmps12
      go_wp2_with fail
      refine K1.out.mono ?_
      rintro e w1 ⟨rfl, hw1⟩
      subst hw1
      go_wp2_with fail
      go_returns
      exact ⟨rfl, Below.refl _ _⟩
    · have hocc' : Lib.occAt l pA j = true := by simpa using hocc
      rw [hocc'] at K1'
      have K1 := Lib.hid K1'
      have hroom : j + 2 ≤ n := by
        by_cases h : j + 2 ≤ n
        · exact h
        · exact absurd (occ_short (l := l) (sub := pA) (k := j) (by rw [show pA.length = 2 from rfl]; omega) (by decide)) hocc
      rw [show piV l j = piW l (j + 2) by unfold piV; rw [if_neg (by omega), Int.toNat_natCast, if_neg hocc]]
      obtain ⟨ad, rfl, _⟩ := hs.byte (k := j) (by omega)
      obtain ⟨p, hp⟩ : ∃ p, j + 2 = p := ⟨_, rfl⟩
      have hpI : (j : Int) + 2 = (p : Int) := by omega
      rw [hp]
      have hpn : p ≤ n := by omega
      have K2' : Calls Tryd.prog 28 #[.slice (some ad) n c, .int .i64 p, .bool true] w fun e w' => e = .returned (readV l p (plainP startN) (plainP charN)) ∧ Below w.heap.size w w' := rread_any l (some ad) n c p w true hn hnc (by omega) ⟨by omega, by omega⟩ hs
      obtain ⟨V, hVV⟩ : ∃ V, piW l p = V := ⟨_, rfl⟩
      rw [hVV]
      have HV := Lib.hid hVV
      unfold piW at HV
      obtain ⟨z, hz⟩ : ∃ z, endN l (plainP charN) l.length (plainP startN) p = z := ⟨_, rfl⟩
      have hzz : piZ l p = z := hz
      have hzle := endN_le l (plainP charN) l.length (plainP startN) p (by omega)
      rw [hz] at hzle
      have hzn : z ≤ n := by omega
      rw [hzz] at HV
      rcases Nat.lt_or_ge p z with hpz | hpz
      rotate_left
      · obtain rfl : z = p := by omega
        have HC := Lib.hid (show V = no4 7 by rw [← HV.out, if_pos rfl])
        rw [readV_none (l := l) (k := z) (p := plainP startN) (q := plainP charN) (by omega) hz] at K2'
        have K2 := Lib.hid K2'
        clear K2' K1' hs hocc hocc' HV hVV hz hzz
        go_enter Tryd.func12, Tryd.ntmps12
        go_wp2_with fail
        refine K1.out.mono ?_
        rintro e w1 ⟨rfl, hw1⟩
        subst hw1
        go_wp2_with fail
        refine K2.out.mono ?_
        rintro e w2 ⟨rfl, b2⟩
        go_wp2_with fail
        go_returns
        exact ⟨by have h := HC.out; subst h; rfl, b2⟩
      · by_cases hlong : 1024 < z - p
        · have HC := Lib.hid (show V = no4 11 by rw [← HV.out, if_neg (by omega), if_pos hlong])
          rw [readV_long (l := l) (k := p) (z := z) (p := plainP startN) (q := plainP charN) (by omega) hz hpz hlong] at K2'
          have K2 := Lib.hid K2'
          clear K2' K1' hs hocc hocc' HV hVV hz hzz
          go_enter Tryd.func12, Tryd.ntmps12
          go_wp2_with fail
          refine K1.out.mono ?_
          rintro e w1 ⟨rfl, hw1⟩
          subst hw1
          go_wp2_with fail
          refine K2.out.mono ?_
          rintro e w2 ⟨rfl, b2⟩
          go_wp2_with fail
          go_returns
          exact ⟨by have h := HC.out; subst h; rfl, b2⟩
        · rw [readV_ok (l := l) (k := p) (z := z) (p := plainP startN) (q := plainP charN) (by omega) hz hpz (by omega)] at K2'
          obtain ⟨q, hq⟩ : ∃ q, blkN l l.length z = q := ⟨_, rfl⟩
          have hqq : piQ l p = q := by unfold piQ; rw [hzz]; exact hq
          have hqn : q ≤ n := by have := blk_le l l.length z (by omega); omega
          have hbv : blkV l (z : Int) = (q : Int) := by rw [blkV_in (by omega), hq]
          have K3 := Lib.hid (fun (w' : World) (hb : Below w.heap.size w w') => hbv ▸ rblanks_any l (some ad) n c z w' hn hnc (by omega) ⟨by omega, by omega⟩ (hs.below hb))
          obtain ⟨name, hname⟩ : ∃ name, (l.drop p).take (z - p) = name := ⟨_, rfl⟩
          rw [hname] at K2'
          have K2 := Lib.hid K2'
          rw [hname, hqq, if_neg (by omega), if_neg hlong] at HV
          have hsr := Lib.index_room (l.drop q) pB
          have hfn : fndV l pB q = if Lib.index (l.drop q) pB < 0 then -1 else q + Lib.index (l.drop q) pB := rfl
          obtain ⟨s, hss⟩ : ∃ s, Lib.index (l.drop q) pB = s := ⟨_, rfl⟩
          rw [hss] at hsr HV hfn
          rw [List.length_drop, show pB.length = 2 from rfl] at hsr
          have K4' := fun (w' : World) (hb : Below w.heap.size w w') => (rfind_any l pB (some ad) n c q w' hn hnc hc9 hn9 hqn (hs.below hb) (by decide) (by decide) : Calls Tryd.prog 14 #[.slice (some ad) n c, .int .i64 q, strV pB] w' fun e w'' => e = .returned (.int .i64 (fndV l pB q)) ∧ w' = w'')
          rw [hfn] at K4'
          have KR' := fun (w' : World) => rreserved_any name w'
          obtain ⟨r, hr⟩ : ∃ r, resB name = r := ⟨_, rfl⟩
          rw [hr] at KR' HV
          have KR := Lib.hid KR'
          have q0 : (0 : Int) ≤ (q : Int) := by omega
          have q1 : (q : Int) ≤ (n : Int) := by omega
          clear K2' K1' KR' hname hr hq hqq hbv hz hzz hocc hocc' hVV hss hfn
          cases r with
          | true =>
            have HC := Lib.hid (show V = no4 7 by rw [← HV.out, if_pos (.inl rfl)])
            clear hs HV hsr K4'
            go_enter Tryd.func12, Tryd.ntmps12
            go_wp2_with fail
            refine K1.out.mono ?_
            rintro e w1 ⟨rfl, hw1⟩
            subst hw1
            go_wp2_with fail
            refine K2.out.mono ?_
            rintro e w2 ⟨rfl, b2⟩
            go_wp2_with fail
            refine (KR.out w2).mono ?_
            rintro e w3 ⟨rfl, hw3⟩
            subst hw3
            go_wp2_with fail
            go_returns
            exact ⟨by have h := HC.out; subst h; rfl, b2⟩
          | false =>
            by_cases hs0 : s < 0
            · have HC := Lib.hid (show V = no4 7 by rw [← HV.out, if_pos (.inr (.inl hs0))])
              rw [if_pos hs0] at K4'
              have K4 := Lib.hid K4'
              clear hs HV hsr K4'
              go_enter Tryd.func12, Tryd.ntmps12
              go_wp2_with fail
              refine K1.out.mono ?_
              rintro e w1 ⟨rfl, hw1⟩
              subst hw1
              go_wp2_with fail
              refine K2.out.mono ?_
              rintro e w2 ⟨rfl, b2⟩
              go_wp2_with fail
              refine (KR.out w2).mono ?_
              rintro e w3 ⟨rfl, hw3⟩
              subst hw3
              go_wp2_with fail
              refine (K3.out w2 b2).mono ?_
              rintro e w4 ⟨rfl, hw4⟩
              subst hw4
              go_wp2_with fail
              refine (K4.out w2 b2).mono ?_
              rintro e w5 ⟨rfl, hw5⟩
              subst hw5
              go_wp2_with fail
              go_returns
              exact ⟨by have h := HC.out; subst h; rfl, b2⟩
            · obtain ⟨t, rfl⟩ : ∃ t : Nat, s = t := ⟨s.toNat, by omega⟩
              have hsr' := hsr (by omega)
              rw [if_neg hs0] at K4'
              obtain ⟨u, hu⟩ : ∃ u : Nat, q + t = u := ⟨_, rfl⟩
              have huI : (q : Int) + (t : Int) = (u : Int) := by omega
              rw [huI] at K4'
              have K4 := Lib.hid K4'
              have t1 : ¬ ((u : Int) < 0) := by omega
              by_cases hbad : q = z ∧ 0 < t
              · have HC := Lib.hid (show V = no4 7 by rw [← HV.out, if_pos (.inr (.inr ⟨hbad.1, by omega⟩))])
                have t2 : ((q : Int) == (z : Int)) = true := by simp; omega
                have t3 : ((u : Int) != (z : Int)) = true := by simp; omega
                clear hs HV hsr hbad K4' huI
                go_enter Tryd.func12, Tryd.ntmps12
                go_wp2_with fail
                refine K1.out.mono ?_
                rintro e w1 ⟨rfl, hw1⟩
                subst hw1
                go_wp2_with fail
                refine K2.out.mono ?_
                rintro e w2 ⟨rfl, b2⟩
                go_wp2_with fail
                refine (KR.out w2).mono ?_
                rintro e w3 ⟨rfl, hw3⟩
                subst hw3
                go_wp2_with fail
                refine (K3.out w2 b2).mono ?_
                rintro e w4 ⟨rfl, hw4⟩
                subst hw4
                go_wp2_with fail
                refine (K4.out w2 b2).mono ?_
                rintro e w5 ⟨rfl, hw5⟩
                subst hw5
                go_wp2_with fail
                go_returns
                exact ⟨by have h := HC.out; subst h; rfl, b2⟩
              · have HC := Lib.hid (show V = .tuple #[strV name, strV ((l.drop q).take t), .int .i64 ((u + 2 : Nat) : Int), .int .i64 0] by
                  rw [← HV.out, if_neg (by rintro (h | h | h); · cases h
                                           · omega
                                           · exact hbad ⟨h.1, by omega⟩), Int.toNat_natCast, hu])
                have hcq : c ≠ q := by omega
                have hsq := hs.drop (k := q) (cap := c) (by rw [vB_len]; omega)
                rw [← vB_drop, if_neg hcq] at hsq
                have hst := hsq.take t
                rw [← vB_take] at hst
                have hut : u - q = t := by omega
                have KC := Lib.hid (fun (w' : World) (hb : Below w.heap.size w w') => (hut ▸ conv_sees w' (some (ad.add q)) t (c - q) ((l.drop q).take t) (by simp; omega) (hst.below hb) : (convert 22 9 (.slice (some (ad.add q)) (u - q) (c - q))).run Tryd.prog w' = .ok (strV ((l.drop q).take t)) w'))
                have t4 : (u : Int) ≤ (c : Int) := by omega
                have t5 : (q : Int) ≤ (u : Int) := by omega
                have hw2 : IntKind.i64.wrap ((u : Int) + 2) = (u : Int) + 2 := by rw [IntKind.wrap_i64]; omega
                by_cases hqz : q = z
                · have t2 : ((q : Int) == (z : Int)) = true := by simp; omega
                  have t3 : ((u : Int) != (z : Int)) = false := by
                    have : t = 0 := by
                      by_cases h : t = 0
                      · exact h
                      · exact absurd ⟨hqz, by omega⟩ hbad
                    simp; omega
                  clear hs hsq hst HV hsr hbad K4' huI hqz hut
                  go_enter Tryd.func12, Tryd.ntmps12
                  go_wp2_with fail
                  refine K1.out.mono ?_
                  rintro e w1 ⟨rfl, hw1⟩
                  subst hw1
                  go_wp2_with fail
                  refine K2.out.mono ?_
                  rintro e w2 ⟨rfl, b2⟩
                  go_wp2_with fail
                  refine (KR.out w2).mono ?_
                  rintro e w3 ⟨rfl, hw3⟩
                  subst hw3
                  go_wp2_with fail
                  refine (K3.out w2 b2).mono ?_
                  rintro e w4 ⟨rfl, hw4⟩
                  subst hw4
                  go_wp2_with fail
                  refine (K4.out w2 b2).mono ?_
                  rintro e w5 ⟨rfl, hw5⟩
                  subst hw5
                  have kc5 := fun m => KC.out (w2.drewN m) (below_drw b2 m)
                  go_wp2_with fail
                  go_quiet (fail)
                  go_wp2_with fail
                  go_returns
                  exact ⟨by have h := HC.out; subst h; rfl, below_drw b2 _⟩
                · have t2 : ((q : Int) == (z : Int)) = false := by simp; omega
                  clear hs hsq hst HV hsr hbad K4' huI hqz hut
                  go_enter Tryd.func12, Tryd.ntmps12
                  go_wp2_with fail
                  refine K1.out.mono ?_
                  rintro e w1 ⟨rfl, hw1⟩
                  subst hw1
                  go_wp2_with fail
                  refine K2.out.mono ?_
                  rintro e w2 ⟨rfl, b2⟩
                  go_wp2_with fail
                  refine (KR.out w2).mono ?_
                  rintro e w3 ⟨rfl, hw3⟩
                  subst hw3
                  go_wp2_with fail
                  refine (K3.out w2 b2).mono ?_
                  rintro e w4 ⟨rfl, hw4⟩
                  subst hw4
                  go_wp2_with fail
                  refine (K4.out w2 b2).mono ?_
                  rintro e w5 ⟨rfl, hw5⟩
                  subst hw5
                  have kc5 := fun m => KC.out (w2.drewN m) (below_drw b2 m)
                  go_wp2_with fail
                  go_quiet (fail)
                  go_wp2_with fail
                  go_returns
                  exact ⟨by have h := HC.out; subst h; rfl, below_drw b2 _⟩
end Go.Proofs.YtggllkcoabeejaaDoor
