/- Texts between quotes: Quoted, by the document. -/
import Derived.Test.YtgbbccfoceifnaaDoorLitb
namespace Go.Proofs.YtgbbccfoceifnaaDoor
open Go.ChangeShapes Go.WideShapes Go.ChangeAt Go.RowKit
set_option linter.unusedVariables false
set_option maxRecDepth 100000

set_option maxHeartbeats 4000000 in
theorem rquoted_34 (l : List UInt8) (ad : Addr) (n c j : Nat) (w : World) (hn : l.length = n) (hnc : n ≤ c) (hm : c ≤ 9223372036854775807) (hn9 : n ≤ 1000000) (hs : Sees w (some ad) (vB l)) (hjl : j < n)
    (hcell : w.cell? (ad.add j) = some (.int .u8 34)) (hb : byteAt l j = 34) :
    Calls Tryd.prog 17 #[.slice (some ad) n c, .int .i64 (j : Int)] w fun e w' => e = .returned (trV (quoT l (j : Int))) ∧ Below w.heap.size w w' := by
  have hjne : j ≠ n := by omega
  obtain ⟨R, hR⟩ : ∃ R, quoT l (j : Int) = R := ⟨_, rfl⟩
  have HEND : Hid (scanN l 34 l.length (j + 1) = l.length → noT 7 = R) := by
    unfold Hid
    intro h
    rcases scan_ix (l := l) (b := 34) (a := j + 1) (by omega) (by omega) with ⟨h1, h2⟩ | ⟨i, h1, h2, h3, h4⟩
    · rw [← hR, quoT_open (by omega) hb (by omega) (by rw [h1]; omega)]
    · omega
  have HAT : Hid (∀ z, scanN l 34 l.length (j + 1) = z → z < l.length → ((l.drop (j + 1)).take (z - (j + 1)), ((z + 1 : Nat) : Int), (0 : Int)) = R) := by
    unfold Hid
    intro z h hz
    rcases scan_ix (l := l) (b := 34) (a := j + 1) (by omega) (by omega) with ⟨h1, h2⟩ | ⟨i, h1, h2, h3, h4⟩
    · omega
    · rw [← hR, quoT_ok (by omega) hb (by omega) h1]
      obtain rfl : z = j + 1 + i := by omega
      rw [Nat.add_sub_cancel_left]
  rw [hR]
  have HN := Lib.hid hn
  have HS := Lib.hid hs
  have HC0 := Lib.hid hcell
  clear hs hn hR hb
  have d2 : decide (n < j) = false := by simp; omega
  have d3 : decide ((j : Int) = (n : Int)) = false := by simp; omega
  go_enter Tryd.func17, Tryd.ntmps17
  go_wp2_with fail
  go_loopw [7] (fun i wr => ∃ kk f m : Nat, n ≤ kk + f ∧ j + 1 ≤ kk ∧ kk ≤ n ∧ i = .int .i64 kk ∧ Hid (scanN l 34 f kk = scanN l 34 l.length (j + 1)) ∧ wr = w.drewN m) (fun i _ => n - (intOf i).toNat)
  case atStart => exact ⟨j + 1, n, 0, by omega, Nat.le_refl _, by omega, by go_num, by unfold Hid; rw [HN.out], rfl⟩
  case round =>
    obtain ⟨kk, f, m, hnf, hjk, hkn, rfl, HZ, rfl⟩ := hrel
    have hcj := HC0.out
    by_cases hlt : kk < n
    · obtain ⟨ad3, e3, hcell4⟩ := HS.out.byte (k := kk) (by rw [HN.out]; exact hlt)
      injection e3 with e3
      subst e3
      obtain ⟨d, hd⟩ : ∃ d, byteAt l kk = d := ⟨_, rfl⟩
      have hd256 := byteAt_lt l kk
      rw [hd] at hcell4 hd256
      have HD := Lib.hid hd
      by_cases hdb : d = 34
      · have t1 : ((d : Int) == 34) = true := by rw [hdb]; rfl
        have hz := HZ.out
        rw [scan_out f kk (.inr (by rw [hd]; exact hdb))] at hz
        have HR := Lib.hid (HAT.out kk hz.symm (by rw [HN.out]; exact hlt))
        have hp : Sees w (some (ad.add (j + 1))) (vB ((l.drop (j + 1)).take (kk - (j + 1)))) := by
          have h1 := HS.out.drop (k := j + 1) (cap := c) (by rw [vB_len, HN.out]; omega)
          rw [if_neg (by omega), ← vB_drop] at h1
          rw [vB_take]
          exact h1.take _
        obtain ⟨T, hT⟩ : ∃ T, (l.drop (j + 1)).take (kk - (j + 1)) = T := ⟨_, rfl⟩
        rw [hT] at hp HR
        have hTl : T.length = kk - (j + 1) := by rw [← hT, List.length_take, List.length_drop, HN.out]; omega
        have KC := Lib.hid (fun m => add1_at ad j ▸ conv_sees (w.drewN m) (some (ad.add (j + 1))) (kk - (j + 1)) (c - (j + 1)) T hTl (hp.drewN m))
        have hcc : ¬ c = j + 1 := by omega
        clear hd hdb hz hp hT hTl
        go_wp2_with fail
        go_quiet (fail)
        have kc := KC.out
        go_wp2_with fail
        go_ret3
        exact ⟨by rw [← HR.out]; exact ret_t3 (by show (kk : Int) + 1 = ((kk + 1 : Nat) : Int); omega), below_drw (Below.refl _ _) _⟩
      · have t1 : ((d : Int) == 34) = false := by simp; omega
        obtain ⟨g, rfl⟩ : ∃ g, f = g + 1 := ⟨f - 1, by omega⟩
        have hz := HZ.out
        rw [scan_on g kk (by rw [HN.out]; exact hlt) (by rw [hd]; exact hdb)] at hz
        have Hz := Lib.hid hz
        clear hd hdb hz
        go_wp2_with fail
        go_quiet (fail)
        go_wp2_with fail
        go_roundw
        case rel => exact ⟨kk + 1, g, _, by omega, by omega, by omega, by go_num, Hz, (by first | rfl | exact World.drewN_drewN)⟩
        case measure => simp [intOf]; omega
    · obtain rfl : kk = n := by omega
      have hz := HZ.out
      rw [scan_out f kk (.inl (by rw [HN.out]; exact Nat.le_refl _))] at hz
      have HR := Lib.hid (HEND.out (by rw [← hz]; exact HN.out.symm))
      clear hz
      go_wp2_with fail
      go_ret3
      exact ⟨by rw [← HR.out]; rfl, below_drw (Below.refl _ _) _⟩

set_option maxHeartbeats 4000000 in
theorem rquoted_39 (l : List UInt8) (ad : Addr) (n c j : Nat) (w : World) (hn : l.length = n) (hnc : n ≤ c) (hm : c ≤ 9223372036854775807) (hn9 : n ≤ 1000000) (hs : Sees w (some ad) (vB l)) (hjl : j < n)
    (hcell : w.cell? (ad.add j) = some (.int .u8 39)) (hb : byteAt l j = 39) :
    Calls Tryd.prog 17 #[.slice (some ad) n c, .int .i64 (j : Int)] w fun e w' => e = .returned (trV (quoT l (j : Int))) ∧ Below w.heap.size w w' := by
  have hjne : j ≠ n := by omega
  obtain ⟨R, hR⟩ : ∃ R, quoT l (j : Int) = R := ⟨_, rfl⟩
  have HEND : Hid (scanN l 39 l.length (j + 1) = l.length → noT 7 = R) := by
    unfold Hid
    intro h
    rcases scan_ix (l := l) (b := 39) (a := j + 1) (by omega) (by omega) with ⟨h1, h2⟩ | ⟨i, h1, h2, h3, h4⟩
    · rw [← hR, quoT_open (by omega) hb (by omega) (by rw [h1]; omega)]
    · omega
  have HAT : Hid (∀ z, scanN l 39 l.length (j + 1) = z → z < l.length → ((l.drop (j + 1)).take (z - (j + 1)), ((z + 1 : Nat) : Int), (0 : Int)) = R) := by
    unfold Hid
    intro z h hz
    rcases scan_ix (l := l) (b := 39) (a := j + 1) (by omega) (by omega) with ⟨h1, h2⟩ | ⟨i, h1, h2, h3, h4⟩
    · omega
    · rw [← hR, quoT_ok (by omega) hb (by omega) h1]
      obtain rfl : z = j + 1 + i := by omega
      rw [Nat.add_sub_cancel_left]
  rw [hR]
  have HN := Lib.hid hn
  have HS := Lib.hid hs
  have HC0 := Lib.hid hcell
  clear hs hn hR hb
  have d2 : decide (n < j) = false := by simp; omega
  have d3 : decide ((j : Int) = (n : Int)) = false := by simp; omega
  go_enter Tryd.func17, Tryd.ntmps17
  go_wp2_with fail
  go_loopw [7] (fun i wr => ∃ kk f m : Nat, n ≤ kk + f ∧ j + 1 ≤ kk ∧ kk ≤ n ∧ i = .int .i64 kk ∧ Hid (scanN l 39 f kk = scanN l 39 l.length (j + 1)) ∧ wr = w.drewN m) (fun i _ => n - (intOf i).toNat)
  case atStart => exact ⟨j + 1, n, 0, by omega, Nat.le_refl _, by omega, by go_num, by unfold Hid; rw [HN.out], rfl⟩
  case round =>
    obtain ⟨kk, f, m, hnf, hjk, hkn, rfl, HZ, rfl⟩ := hrel
    have hcj := HC0.out
    by_cases hlt : kk < n
    · obtain ⟨ad3, e3, hcell4⟩ := HS.out.byte (k := kk) (by rw [HN.out]; exact hlt)
      injection e3 with e3
      subst e3
      obtain ⟨d, hd⟩ : ∃ d, byteAt l kk = d := ⟨_, rfl⟩
      have hd256 := byteAt_lt l kk
      rw [hd] at hcell4 hd256
      have HD := Lib.hid hd
      by_cases hdb : d = 39
      · have t1 : ((d : Int) == 39) = true := by rw [hdb]; rfl
        have hz := HZ.out
        rw [scan_out f kk (.inr (by rw [hd]; exact hdb))] at hz
        have HR := Lib.hid (HAT.out kk hz.symm (by rw [HN.out]; exact hlt))
        have hp : Sees w (some (ad.add (j + 1))) (vB ((l.drop (j + 1)).take (kk - (j + 1)))) := by
          have h1 := HS.out.drop (k := j + 1) (cap := c) (by rw [vB_len, HN.out]; omega)
          rw [if_neg (by omega), ← vB_drop] at h1
          rw [vB_take]
          exact h1.take _
        obtain ⟨T, hT⟩ : ∃ T, (l.drop (j + 1)).take (kk - (j + 1)) = T := ⟨_, rfl⟩
        rw [hT] at hp HR
        have hTl : T.length = kk - (j + 1) := by rw [← hT, List.length_take, List.length_drop, HN.out]; omega
        have KC := Lib.hid (fun m => add1_at ad j ▸ conv_sees (w.drewN m) (some (ad.add (j + 1))) (kk - (j + 1)) (c - (j + 1)) T hTl (hp.drewN m))
        have hcc : ¬ c = j + 1 := by omega
        clear hd hdb hz hp hT hTl
        go_wp2_with fail
        go_quiet (fail)
        have kc := KC.out
        go_wp2_with fail
        go_ret3
        exact ⟨by rw [← HR.out]; exact ret_t3 (by show (kk : Int) + 1 = ((kk + 1 : Nat) : Int); omega), below_drw (Below.refl _ _) _⟩
      · have t1 : ((d : Int) == 39) = false := by simp; omega
        obtain ⟨g, rfl⟩ : ∃ g, f = g + 1 := ⟨f - 1, by omega⟩
        have hz := HZ.out
        rw [scan_on g kk (by rw [HN.out]; exact hlt) (by rw [hd]; exact hdb)] at hz
        have Hz := Lib.hid hz
        clear hd hdb hz
        go_wp2_with fail
        go_quiet (fail)
        go_wp2_with fail
        go_roundw
        case rel => exact ⟨kk + 1, g, _, by omega, by omega, by omega, by go_num, Hz, (by first | rfl | exact World.drewN_drewN)⟩
        case measure => simp [intOf]; omega
    · obtain rfl : kk = n := by omega
      have hz := HZ.out
      rw [scan_out f kk (.inl (by rw [HN.out]; exact Nat.le_refl _))] at hz
      have HR := Lib.hid (HEND.out (by rw [← hz]; exact HN.out.symm))
      clear hz
      go_wp2_with fail
      go_ret3
      exact ⟨by rw [← HR.out]; rfl, below_drw (Below.refl _ _) _⟩

set_option maxHeartbeats 4000000 in
theorem rquoted_any (l : List UInt8) (A : Option Addr) (n c : Nat) (k : Int) (w : World)
    (hn : l.length = n) (hnc : n ≤ c) (hm : c ≤ 9223372036854775807) (hk : I64 k) (hn9 : n ≤ 1000000) (hs : Sees w A (vB l)) :
    Calls Tryd.prog 17 #[.slice A n c, .int .i64 k] w fun e w' => e = .returned (trV (quoT l k)) ∧ Below w.heap.size w w' := by
  have hkl := hk.1
  have hkh := hk.2
  by_cases hout : k < 0 ∨ (n : Int) < k
  · rw [quoT_out (by rw [hn]; exact hout), trV_no]
    rcases hout with h0 | h0
    all_goals
      go_enter Tryd.func17, Tryd.ntmps17
      go_wp2_with fail
      go_ret3
      exact ⟨rfl, Below.refl _ _⟩
  · obtain ⟨j, rfl⟩ : ∃ j : Nat, k = j := ⟨k.toNat, by omega⟩
    have hj : j ≤ n := by omega
    by_cases hjn : j = n
    · rw [quoT_not (by omega) (.inl (by omega)), trV_no]
      subst hjn
      go_enter Tryd.func17, Tryd.ntmps17
      go_wp2_with fail
      go_ret3
      exact ⟨rfl, Below.refl _ _⟩
    · have hjl : j < n := by omega
      obtain ⟨ad, rfl, hcell⟩ := hs.byte (k := j) (by omega)
      obtain ⟨b, hb⟩ : ∃ b, byteAt l j = b := ⟨_, rfl⟩
      have hb256 := byteAt_lt l j
      rw [hb] at hcell hb256
      have hjne : j ≠ n := by omega
      by_cases hq : b = 34 ∨ b = 39
      · rcases hq with rfl | rfl
        · exact rquoted_34 l ad n c j w hn hnc hm hn9 hs hjl hcell hb
        · exact rquoted_39 l ad n c j w hn hnc hm hn9 hs hjl hcell hb
      · rw [quoT_not (by omega) (.inr (by rw [hb]; omega)), trV_no]
        have t34 : ((b : Int) != 34) = true := by simp; omega
        have t39 : ((b : Int) != 39) = true := by simp; omega
        clear hs hb hq
        go_enter Tryd.func17, Tryd.ntmps17
        go_wp2_with fail
        go_ret3
        exact ⟨rfl, Below.refl _ _⟩
end Go.Proofs.YtgbbccfoceifnaaDoor
