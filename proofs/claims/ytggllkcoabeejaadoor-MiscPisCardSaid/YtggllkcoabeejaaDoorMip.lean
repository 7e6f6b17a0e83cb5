/- The walk of MiscReads, what Reserved tells being a premise. -/
import Derived.Test.YtggllkcoabeejaaDoorMio
namespace Go.Proofs.YtggllkcoabeejaaDoor
open Go.ChangeShapes Go.WideShapes Go.ChangeAt Go.RowKit
set_option linter.unusedVariables false
set_option maxRecDepth 100000

theorem mrkV_tup2 (l a b : List UInt8) (k z : Int) : ∃ (s : List UInt8) (i e : Int), mrkV l a b k z = .tuple #[strV s, .int .i64 i, .int .i64 e] := by
  unfold mrkV noM
  split
  · exact ⟨[], _, _, rfl⟩
  · split
    · exact ⟨[], _, _, rfl⟩
    · split
      · exact ⟨[], _, _, rfl⟩
      · exact ⟨_, _, _, rfl⟩
theorem piV_tup2 (l : List UInt8) (k : Int) : ∃ (s d : List UInt8) (i e : Int), piV l k = .tuple #[strV s, strV d, .int .i64 i, .int .i64 e] := by
  unfold piV piW no4
  split
  · exact ⟨[], [], _, _, rfl⟩
  · split
    · exact ⟨[], [], _, _, rfl⟩
    · split
      · exact ⟨[], [], _, _, rfl⟩
      · split
        · exact ⟨[], [], _, _, rfl⟩
        · split
          · exact ⟨[], [], _, _, rfl⟩
          · exact ⟨_, _, _, _, rfl⟩
theorem pi_any (l : List UInt8) (A : Option Addr) (n c : Nat) (k : Int) (w : World) (hn : l.length = n) (hnc : n ≤ c) (hc9 : c ≤ 9223372036854775807) (hn9 : n ≤ 1000000000) (hk : I64 k) (hs : Sees w A (vB l)) (hm : MaxAt w) (ht : TabN w) (hR : ResOk w) :
    Calls Tryd.prog 11 #[.slice A n c, .int .i64 k] w fun e w' => e = .returned (piV l k) ∧ Below w.heap.size w w' := by
  by_cases hout : k < 0 ∨ (n : Int) < k
  · exact pi_no l A n c k w hn hnc hc9 hk hs (.inl hout)
  · obtain ⟨j, rfl⟩ : ∃ j : Nat, k = j := ⟨k.toNat, by omega⟩
    by_cases hocc : Lib.occAt l pA j = false
    · exact pi_no l A n c j w hn hnc hc9 hk hs (.inr ⟨by omega, by omega, by rw [Int.toNat_natCast]; exact hocc⟩)
    · rw [show piV l j = piW l (j + 2) by unfold piV; rw [if_neg (by rw [hn]; omega), Int.toNat_natCast, if_neg hocc]]
      exact pi_yes l A n c j w hn hnc hc9 hn9 (by omega) hs (by simpa using hocc) hm ht hR
theorem ResOk.below {w w' : World} (h : ResOk w) (hb : Below w.heap.size w w') : ResOk w' := fun m w2 hb2 => h m w2 (hb.trans (hb2.mono hb.size))
set_option maxHeartbeats 4000000 in
theorem miscReads_any (l : List UInt8) (A : Option Addr) (n c : Nat) (k : Int) (w : World) (hn : l.length = n) (hnc : n ≤ c) (hc9 : c ≤ 9223372036854775807) (hk : I64 k) (hs : Sees w A (vB l)) (hm : MaxAt w) (ht : TabN w) (hR : ResOk w) :
    Calls Tryd.prog 3 #[.slice A n c, .int .i64 k] w fun e w' => e = .returned (.bool true) ∧ Below w.heap.size w w' := by
  have LV := Lib.hid (fun (w' : World) (hb : Below w.heap.size w w') => live08_any w' (hm.below hb) (ht.below hb))
  by_cases h400 : 400 < n
  · have d1 : (400 : Int) < (n : Int) := by omega
    clear hs hm ht hR
    go_enter Tryd.func3, Tryd.ntmps3
    go_wp2_with fail
    refine (LV.out _ (Below.refl _ _)).mono ?_
    rintro e w2 ⟨rfl, b2⟩
    go_wp2_with fail
    go_ret
    exact ⟨rfl, b2⟩
  · have d1 : ¬ ((400 : Int) < (n : Int)) := by omega
    have K1' := comment_any l A n c k w hn hnc hc9 hk hs (by omega) hm
    have K2' := fun (w' : World) (hb : Below w.heap.size w w') => rcomment_any l A n c k w' hn hnc hc9 hk (hs.below hb) (by omega)
    have K3' := fun (w' : World) (hb : Below w.heap.size w w') => cdata_any l A n c k w' hn hnc hc9 hk (hs.below hb) (by omega) (hm.below hb)
    have K4' := fun (w' : World) (hb : Below w.heap.size w w') => rcdata_any l A n c k w' hn hnc hc9 hk (hs.below hb) (by omega)
    have K5' := fun (w' : World) (hb : Below w.heap.size w w') => pi_any l A n c k w' hn hnc hc9 (by omega) hk (hs.below hb) (hm.below hb) (ht.below hb) (hR.below hb)
    have K6' := fun (w' : World) (hb : Below w.heap.size w w') => rpi_any l A n c k w' hn hnc hc9 (by omega) hk (hs.below hb)
    obtain ⟨s1, i1, e1, hv1⟩ : ∃ (s : List UInt8) (i e : Int), cmtV l k = .tuple #[strV s, .int .i64 i, .int .i64 e] := mrkV_tup2 _ _ _ _ _
    obtain ⟨s2, i2, e2, hv2⟩ : ∃ (s : List UInt8) (i e : Int), datV l k = .tuple #[strV s, .int .i64 i, .int .i64 e] := mrkV_tup2 _ _ _ _ _
    obtain ⟨s3, t3, i3, e3, hv3⟩ := piV_tup2 l k
    rw [hv1] at K1' K2'
    rw [hv2] at K3' K4'
    rw [hv3] at K5' K6'
    have K1 := Lib.hid K1'
    have K2 := Lib.hid K2'
    have K3 := Lib.hid K3'
    have K4 := Lib.hid K4'
    have K5 := Lib.hid K5'
    have K6 := Lib.hid K6'
    clear K1' K2' K3' K4' K5' K6' hv1 hv2 hv3 hs hm ht hR
    go_enter Tryd.func3, Tryd.ntmps3
    go_wp2_with fail
    refine K1.out.mono ?_
    rintro e w1 ⟨rfl, b1⟩
    go_wp2_with fail
    refine (K2.out w1 b1).mono ?_
    rintro e w2 ⟨rfl, hw2⟩
    subst hw2
    go_wp2_with fail
    refine (K3.out w1 b1).mono ?_
    rintro e w3 ⟨rfl, b3⟩
    have hb3 := b1.trans (b3.mono b1.size)
    go_wp2_with fail
    refine (K4.out w3 hb3).mono ?_
    rintro e w4 ⟨rfl, hw4⟩
    subst hw4
    go_wp2_with fail
    refine (K5.out w3 hb3).mono ?_
    rintro e w5 ⟨rfl, b5⟩
    have hb5 := hb3.trans (b5.mono hb3.size)
    go_wp2_with fail
    refine (K6.out w5 hb5).mono ?_
    rintro e w6 ⟨rfl, b6⟩
    have hb6 := hb5.trans (b6.mono hb5.size)
    go_wp2_with fail
    refine (LV.out _ hb6).mono ?_
    rintro e w7 ⟨rfl, b7⟩
    go_wp2_with fail
    go_ret
    exact ⟨rfl, hb6.trans (b7.mono hb6.size)⟩
end Go.Proofs.YtggllkcoabeejaaDoor
