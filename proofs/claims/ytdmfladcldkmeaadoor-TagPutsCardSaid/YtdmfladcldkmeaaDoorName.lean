/- Names: the document's own Read; blanks, by the program and by the document. -/
import Derived.Test.YtdmfladcldkmeaaDoorNamd
namespace Go.Proofs.YtdmfladcldkmeaaDoor
open Go.ChangeShapes Go.WideShapes Go.ChangeAt Go.RowKit
set_option linter.unusedVariables false
set_option maxRecDepth 100000

set_option maxHeartbeats 1000000 in
theorem rread_any (l : List UInt8) (A : Option Addr) (n c : Nat) (k : Int) (w : World) (pl : Bool)
    (hn : l.length = n) (hnc : n ≤ c) (hm : n ≤ 9223372036854775800) (hk : I64 k) (hs : Sees w A (vB l)) :
    Calls Tryd.prog 80 #[.slice A n c, .int .i64 k, .bool pl] w fun e w' =>
      e = .returned (readV l k (kindP pl startN) (kindP pl charN)) ∧ Below w.heap.size w w' := by
  have hkl := hk.1
  have hkh := hk.2
  by_cases hout : k < 0 ∨ (n : Int) < k
  · rw [readV_out (by rw [hn]; exact hout)]
    rcases hout with h0 | h0
    all_goals
      go_enter Tryd.func80, Tryd.ntmps80
      go_wp2_with fail
      go_ret3
      exact ⟨rfl, Below.refl _ _⟩
  · obtain ⟨j, rfl⟩ : ∃ j : Nat, k = j := ⟨k.toNat, by omega⟩
    have hj : j ≤ n := by omega
    have H := rend_any l A n c j w pl hn (by omega) hj hs
    have hle := endN_le l (kindP pl charN) n (kindP pl startN) j (by omega)
    obtain ⟨z, hz⟩ : ∃ z, endN l (kindP pl charN) n (kindP pl startN) j = z := ⟨_, rfl⟩
    rw [hz] at H hle
    rw [hn] at hle
    subst hn
    have HE := Lib.hid H
    clear H
    rcases Nat.lt_or_ge j z with hjz | hjz
    · obtain ⟨ad, rfl, hcell⟩ := hs.byte (k := j) (by omega)
      by_cases hlong : 1024 < z - j
      · rw [readV_long hj hz hjz hlong]
        clear hz hcell
        go_enter Tryd.func80, Tryd.ntmps80
        go_wp2_with fail
        refine HE.out.mono ?_
        rintro e w1 ⟨rfl, hb⟩
        go_wp2_with fail
        go_ret3
        exact ⟨rfl, hb⟩
      · rw [readV_ok hj hz hjz (by omega)]
        have hsd : Sees w (some (ad.add j)) (vB ((l.drop j).take (z - j))) := by
          have h1 := hs.drop (k := j) (cap := c) (by rw [vB_len]; exact hnc)
          rw [if_neg (by omega), ← vB_drop] at h1
          have h2 := h1.take (z - j)
          rw [← vB_take] at h2
          exact h2
        clear hz hcell
        go_enter Tryd.func80, Tryd.ntmps80
        go_wp2_with fail
        refine HE.out.mono ?_
        rintro e w1 ⟨rfl, hb⟩
        have kc := conv_sees w1 (some (ad.add j)) (z - j) (c - j) _ (by simp; omega) (hsd.below hb)
        go_wp2_with fail
        go_ret3
        exact ⟨rfl, hb⟩
    · obtain rfl : z = j := by omega
      rw [readV_none hj hz]
      clear hz
      go_enter Tryd.func80, Tryd.ntmps80
      go_wp2_with fail
      refine HE.out.mono ?_
      rintro e w1 ⟨rfl, hb⟩
      go_wp2_with fail
      go_ret3
      exact ⟨rfl, hb⟩

/-- The first place from k on at which no blank stands. -/
def blkN (l : List UInt8) : Nat → Nat → Nat
  | 0, k => k
  | f + 1, k => if k < l.length ∧ blankB (byteAt l k) = true then blkN l f (k + 1) else k
theorem blkN_out {l : List UInt8} (f k : Nat) (h : l.length ≤ k ∨ blankB (byteAt l k) = false) : blkN l f k = k := by
  cases f with
  | zero => rfl
  | succ f =>
    rw [blkN, if_neg]
    rintro ⟨h1, h2⟩
    rcases h with h | h
    · omega
    · rw [h] at h2; cases h2
theorem blkN_on {l : List UInt8} (f k : Nat) (h : k < l.length) (hp : blankB (byteAt l k) = true) : blkN l (f + 1) k = blkN l f (k + 1) := by
  rw [blkN, if_pos ⟨h, hp⟩]
def blkV (l : List UInt8) (k : Int) : Int := if k < 0 ∨ (l.length : Int) < k then k else (blkN l l.length k.toNat : Nat)
theorem blkV_out {l : List UInt8} {k : Int} (h : k < 0 ∨ (l.length : Int) < k) : blkV l k = k := by rw [blkV, if_pos h]
theorem blkV_in {l : List UInt8} {k : Nat} (h : k ≤ l.length) : blkV l k = (blkN l l.length k : Nat) := by rw [blkV, if_neg (by omega), Int.toNat_natCast]

set_option maxHeartbeats 1000000 in
theorem blanks_any (l : List UInt8) (A : Option Addr) (n c : Nat) (k : Int) (w : World) (hn : l.length = n) (hnc : n ≤ c) (hm : n ≤ 9223372036854775800) (hk : I64 k) (hs : Sees w A (vB l)) :
    Calls Tryd.prog 65 #[.slice A n c, .int .i64 k] w fun e w' => e = .returned (.int .i64 (blkV l k)) ∧ w = w' := by
  have hkl := hk.1
  have hkh := hk.2
  by_cases hneg : k < 0
  · rw [blkV_out (.inl hneg)]
    go_enter Tryd.func65, Tryd.ntmps65
    go_wp2_with fail
    go_ret
    exact ⟨rfl, rfl⟩
  · obtain ⟨j, rfl⟩ : ∃ j : Nat, k = j := ⟨k.toNat, by omega⟩
    obtain ⟨z, hz⟩ : ∃ z, blkV l j = z := ⟨_, rfl⟩
    have h0 : Hid ((blkN l n j : Nat) = z) := by
      unfold Hid
      rw [← hz]
      rcases Nat.lt_or_ge n j with h | h
      · rw [blkV_out (.inr (by omega)), blkN_out n j (.inl (by omega))]
      · rw [blkV_in (by omega), hn]
    have HS := Lib.hid hs
    have HN := Lib.hid hn
    rw [hz]
    clear hz hs hn
    go_enter Tryd.func65, Tryd.ntmps65
    go_wp2_with fail
    go_loop [1] (fun i => ∃ k' f : Nat, (k' : Int) ≤ 9223372036854775807 ∧ n ≤ k' + f ∧ i = .int .i64 k' ∧ Hid ((blkN l f k' : Nat) = z)) (fun i => n - (intOf i).toNat)
    case atStart => exact ⟨j, n, hkh, by omega, rfl, h0⟩
    case round =>
      obtain ⟨k', f, hk9, hnf, rfl, HZ⟩ := hrel
      by_cases hlt : k' < n
      · obtain ⟨ad, rfl, hcell⟩ := HS.out.byte (k := k') (by rw [HN.out]; exact hlt)
        obtain ⟨b, hb⟩ : ∃ b, byteAt l k' = b := ⟨_, rfl⟩
        have hb256 := byteAt_lt l k'
        rw [hb] at hcell hb256
        have H1 := blank_any (b : Int) w
        cases hq : blankB (b : Int) with
        | false =>
          have HE := Lib.hid (blkN_out (l := l) f k' (.inr (by rw [hb]; exact hq)))
          rw [hq] at H1
          have H := Lib.hid H1
          clear H1 hq hb
          go_wp2_with fail
          refine H.out.mono ?_
          rintro e w1 ⟨rfl, rfl⟩
          go_wp2_with fail
          go_ret
          exact ⟨by have hz := HZ.out; rw [HE.out] at hz; subst hz; rfl, rfl⟩
        | true =>
          obtain ⟨g, rfl⟩ : ∃ g, f = g + 1 := ⟨f - 1, by omega⟩
          have HE := Lib.hid (blkN_on (l := l) g k' (by rw [HN.out]; exact hlt) (by rw [hb]; exact hq))
          rw [hq] at H1
          have H := Lib.hid H1
          clear H1 hq hb
          go_wp2_with fail
          refine H.out.mono ?_
          rintro e w1 ⟨rfl, rfl⟩
          go_wp2_with fail
          go_round
          case rel => exact ⟨k' + 1, g, by omega, by omega, by go_num, by unfold Hid; rw [← HZ.out, HE.out]⟩
          case measure => simp [intOf]; omega
      · have HE := Lib.hid (blkN_out (l := l) f k' (.inl (by rw [HN.out]; omega)))
        go_wp2_with fail
        go_ret
        exact ⟨by have hz := HZ.out; rw [HE.out] at hz; subst hz; rfl, rfl⟩
set_option maxHeartbeats 1000000 in
theorem rblanks_any (l : List UInt8) (A : Option Addr) (n c : Nat) (k : Int) (w : World) (hn : l.length = n) (hnc : n ≤ c) (hm : n ≤ 9223372036854775800) (hk : I64 k) (hs : Sees w A (vB l)) :
    Calls Tryd.prog 73 #[.slice A n c, .int .i64 k] w fun e w' => e = .returned (.int .i64 (blkV l k)) ∧ w = w' := by
  have hkl := hk.1
  have hkh := hk.2
  by_cases hout : k < 0 ∨ (n : Int) < k
  · rw [blkV_out (by rw [hn]; exact hout)]
    rcases hout with h0 | h0
    all_goals
      go_enter Tryd.func73, Tryd.ntmps73
      go_wp2_with fail
      go_ret
      exact ⟨rfl, rfl⟩
  · obtain ⟨j, rfl⟩ : ∃ j : Nat, k = j := ⟨k.toNat, by omega⟩
    obtain ⟨z, hz⟩ : ∃ z, blkV l j = z := ⟨_, rfl⟩
    have h0 : Hid ((blkN l n j : Nat) = z) := by
      unfold Hid
      rw [← hz, blkV_in (by omega), hn]
    have HS := Lib.hid hs
    have HN := Lib.hid hn
    rw [hz]
    clear hz hs hn
    go_enter Tryd.func73, Tryd.ntmps73
    go_wp2_with fail
    have d1 : decide ((j : Int) < 0) = false := by simp
    have d2 : decide (n < j) = false := by simp; omega
    simp only [d1, d2, Bool.or_self]
    go_loop [1] (fun i => ∃ k' f : Nat, (k' : Int) ≤ 9223372036854775807 ∧ n ≤ k' + f ∧ i = .int .i64 k' ∧ Hid ((blkN l f k' : Nat) = z)) (fun i => n - (intOf i).toNat)
    case atStart => exact ⟨j, n, hkh, by omega, rfl, h0⟩
    case round =>
      obtain ⟨k', f, hk9, hnf, rfl, HZ⟩ := hrel
      by_cases hlt : k' < n
      · obtain ⟨ad, rfl, hcell⟩ := HS.out.byte (k := k') (by rw [HN.out]; exact hlt)
        obtain ⟨b, hb⟩ : ∃ b, byteAt l k' = b := ⟨_, rfl⟩
        have hb256 := byteAt_lt l k'
        rw [hb] at hcell hb256
        have H1 := rblank_any (b : Int) w
        cases hq : blankB (b : Int) with
        | false =>
          have HE := Lib.hid (blkN_out (l := l) f k' (.inr (by rw [hb]; exact hq)))
          rw [hq] at H1
          have H := Lib.hid H1
          clear H1 hq hb
          go_wp2_with fail
          refine H.out.mono ?_
          rintro e w1 ⟨rfl, rfl⟩
          go_wp2_with fail
          go_ret
          exact ⟨by have hz := HZ.out; rw [HE.out] at hz; subst hz; rfl, rfl⟩
        | true =>
          obtain ⟨g, rfl⟩ : ∃ g, f = g + 1 := ⟨f - 1, by omega⟩
          have HE := Lib.hid (blkN_on (l := l) g k' (by rw [HN.out]; exact hlt) (by rw [hb]; exact hq))
          rw [hq] at H1
          have H := Lib.hid H1
          clear H1 hq hb
          go_wp2_with fail
          refine H.out.mono ?_
          rintro e w1 ⟨rfl, rfl⟩
          go_wp2_with fail
          go_round
          case rel => exact ⟨k' + 1, g, by omega, by omega, by go_num, by unfold Hid; rw [← HZ.out, HE.out]⟩
          case measure => simp [intOf]; omega
      · have HE := Lib.hid (blkN_out (l := l) f k' (.inl (by rw [HN.out]; omega)))
        go_wp2_with fail
        go_ret
        exact ⟨by have hz := HZ.out; rw [HE.out] at hz; subst hz; rfl, rfl⟩
end Go.Proofs.YtdmfladcldkmeaaDoor
