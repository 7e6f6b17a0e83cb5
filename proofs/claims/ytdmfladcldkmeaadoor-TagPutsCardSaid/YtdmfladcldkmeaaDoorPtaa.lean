/- Texts between quotes: Quoted, by the document. References of a text: behind, Refs, by the program. References of a text, by the document; a byte in a text; what stands between quotes, by the document. Texts between quotes with checks: checked over any function values, Value, Entity; the document's Strict. Texts between quotes: Value, Entity, by the program; Strict, by the document. Does a text stand at a place, by the document. Tags: names as results; a mark and the name behind it; tags that end an element, by the program and by the document. -/
import Derived.Test.YtdmfladcldkmeaaDoorLitb
import Derived.Test.YtdmfladcldkmeaaDoorCrb
import Derived.Lib.Bytealg
import Derived.Test.YtdmfladcldkmeaaDoorStr
import Derived.Test.YtdmfladcldkmeaaDoorCrd
namespace Go.Proofs.YtdmfladcldkmeaaDoor
open Go.ChangeShapes Go.WideShapes Go.ChangeAt Go.RowKit
set_option linter.unusedVariables false
set_option maxRecDepth 100000

set_option maxHeartbeats 4000000 in
theorem rquoted_34 (l : List UInt8) (ad : Addr) (n c j : Nat) (w : World) (hn : l.length = n) (hnc : n ≤ c) (hm : c ≤ 9223372036854775807) (hn9 : n ≤ 1000000) (hs : Sees w (some ad) (vB l)) (hjl : j < n)
    (hcell : w.cell? (ad.add j) = some (.int .u8 34)) (hb : byteAt l j = 34) :
    Calls Tryd.prog 114 #[.slice (some ad) n c, .int .i64 (j : Int)] w fun e w' => e = .returned (trV (quoT l (j : Int))) ∧ Below w.heap.size w w' := by
  have hjne : j ≠ n := by omega
  obtain ⟨R, hR⟩ : ∃ R, quoT l (j : Int) = R := ⟨_, rfl⟩
  have HEND : Hid (scanN l 34 l.length (j + 1) = l.length → noT 7 = R) := by
    unfold Hid
    intro h
    rcases scan_ix (l := l) (b := 34) (a := j + 1) (by omega) (by omega) with ⟨h1, h2⟩ | ⟨i, h1, h2, h3, h4⟩
    · rw [← hR, quoT_open (by omega) hb (by omega) (by rw [h1]; omega)]
    · omega
  have HAT : Hid (∀ z, scanN l 34 l.length (j + 1) = z → z < l.length → ((l.drop (j + 1)).take (z - (j + 1)), ((z + 1 : Nat) : Int), (0 : Int)) = R) := by
    unfold Hid
    intro z h hz
    rcases scan_ix (l := l) (b := 34) (a := j + 1) (by omega) (by omega) with ⟨h1, h2⟩ | ⟨i, h1, h2, h3, h4⟩
    · omega
    · rw [← hR, quoT_ok (by omega) hb (by omega) h1]
      obtain rfl : z = j + 1 + i := by omega
      rw [Nat.add_sub_cancel_left]
  rw [hR]
  have HN := Lib.hid hn
  have HS := Lib.hid hs
  have HC0 := Lib.hid hcell
  clear hs hn hR hb
  have d2 : decide (n < j) = false := by simp; omega
  have d3 : decide ((j : Int) = (n : Int)) = false := by simp; omega
  go_enter Tryd.func114, Tryd.ntmps114
  go_wp2_with fail
  go_loopw [7] (fun i wr => ∃ kk f m : Nat, n ≤ kk + f ∧ j + 1 ≤ kk ∧ kk ≤ n ∧ i = .int .i64 kk ∧ Hid (scanN l 34 f kk = scanN l 34 l.length (j + 1)) ∧ wr = w.drewN m) (fun i _ => n - (intOf i).toNat)
  case atStart => exact ⟨j + 1, n, 0, by omega, Nat.le_refl _, by omega, by go_num, by unfold Hid; rw [HN.out], rfl⟩
  case round =>
    obtain ⟨kk, f, m, hnf, hjk, hkn, rfl, HZ, rfl⟩ := hrel
    have hcj := HC0.out
    by_cases hlt : kk < n
    · obtain ⟨ad3, e3, hcell4⟩ := HS.out.byte (k := kk) (by rw [HN.out]; exact hlt)
      injection e3 with e3
      subst e3
      obtain ⟨d, hd⟩ : ∃ d, byteAt l kk = d := ⟨_, rfl⟩
      have hd256 := byteAt_lt l kk
      rw [hd] at hcell4 hd256
      have HD := Lib.hid hd
      by_cases hdb : d = 34
      · have t1 : ((d : Int) == 34) = true := by rw [hdb]; rfl
        have hz := HZ.out
        rw [scan_out f kk (.inr (by rw [hd]; exact hdb))] at hz
        have HR := Lib.hid (HAT.out kk hz.symm (by rw [HN.out]; exact hlt))
        have hp : Sees w (some (ad.add (j + 1))) (vB ((l.drop (j + 1)).take (kk - (j + 1)))) := by
          have h1 := HS.out.drop (k := j + 1) (cap := c) (by rw [vB_len, HN.out]; omega)
          rw [if_neg (by omega), ← vB_drop] at h1
          rw [vB_take]
          exact h1.take _
        obtain ⟨T, hT⟩ : ∃ T, (l.drop (j + 1)).take (kk - (j + 1)) = T := ⟨_, rfl⟩
        rw [hT] at hp HR
        have hTl : T.length = kk - (j + 1) := by rw [← hT, List.length_take, List.length_drop, HN.out]; omega
        have KC := Lib.hid (fun m => add1_at ad j ▸ conv_sees (w.drewN m) (some (ad.add (j + 1))) (kk - (j + 1)) (c - (j + 1)) T hTl (hp.drewN m))
        have hcc : ¬ c = j + 1 := by omega
        clear hd hdb hz hp hT hTl
        go_wp2_with fail
        go_quiet (fail)
        have kc := KC.out
        go_wp2_with fail
        go_ret3
        exact ⟨by rw [← HR.out]; exact ret_t3 (by show (kk : Int) + 1 = ((kk + 1 : Nat) : Int); omega), below_drw (Below.refl _ _) _⟩
      · have t1 : ((d : Int) == 34) = false := by simp; omega
        obtain ⟨g, rfl⟩ : ∃ g, f = g + 1 := ⟨f - 1, by omega⟩
        have hz := HZ.out
        rw [scan_on g kk (by rw [HN.out]; exact hlt) (by rw [hd]; exact hdb)] at hz
        have Hz := Lib.hid hz
        clear hd hdb hz
        go_wp2_with fail
        go_quiet (fail)
        go_wp2_with fail
        go_roundw
        case rel => exact ⟨kk + 1, g, _, by omega, by omega, by omega, by go_num, Hz, (by first | rfl | exact World.drewN_drewN)⟩
        case measure => simp [intOf]; omega
    · obtain rfl : kk = n := by omega
      have hz := HZ.out
      rw [scan_out f kk (.inl (by rw [HN.out]; exact Nat.le_refl _))] at hz
      have HR := Lib.hid (HEND.out (by rw [← hz]; exact HN.out.symm))
      clear hz
      go_wp2_with fail
      go_ret3
      exact ⟨by rw [← HR.out]; rfl, below_drw (Below.refl _ _) _⟩

set_option maxHeartbeats 4000000 in
theorem rquoted_39 (l : List UInt8) (ad : Addr) (n c j : Nat) (w : World) (hn : l.length = n) (hnc : n ≤ c) (hm : c ≤ 9223372036854775807) (hn9 : n ≤ 1000000) (hs : Sees w (some ad) (vB l)) (hjl : j < n)
    (hcell : w.cell? (ad.add j) = some (.int .u8 39)) (hb : byteAt l j = 39) :
    Calls Tryd.prog 114 #[.slice (some ad) n c, .int .i64 (j : Int)] w fun e w' => e = .returned (trV (quoT l (j : Int))) ∧ Below w.heap.size w w' := by
  have hjne : j ≠ n := by omega
  obtain ⟨R, hR⟩ : ∃ R, quoT l (j : Int) = R := ⟨_, rfl⟩
  have HEND : Hid (scanN l 39 l.length (j + 1) = l.length → noT 7 = R) := by
    unfold Hid
    intro h
    rcases scan_ix (l := l) (b := 39) (a := j + 1) (by omega) (by omega) with ⟨h1, h2⟩ | ⟨i, h1, h2, h3, h4⟩
    · rw [← hR, quoT_open (by omega) hb (by omega) (by rw [h1]; omega)]
    · omega
  have HAT : Hid (∀ z, scanN l 39 l.length (j + 1) = z → z < l.length → ((l.drop (j + 1)).take (z - (j + 1)), ((z + 1 : Nat) : Int), (0 : Int)) = R) := by
    unfold Hid
    intro z h hz
    rcases scan_ix (l := l) (b := 39) (a := j + 1) (by omega) (by omega) with ⟨h1, h2⟩ | ⟨i, h1, h2, h3, h4⟩
    · omega
    · rw [← hR, quoT_ok (by omega) hb (by omega) h1]
      obtain rfl : z = j + 1 + i := by omega
      rw [Nat.add_sub_cancel_left]
  rw [hR]
  have HN := Lib.hid hn
  have HS := Lib.hid hs
  have HC0 := Lib.hid hcell
  clear hs hn hR hb
  have d2 : decide (n < j) = false := by simp; omega
  have d3 : decide ((j : Int) = (n : Int)) = false := by simp; omega
  go_enter Tryd.func114, Tryd.ntmps114
  go_wp2_with fail
  go_loopw [7] (fun i wr => ∃ kk f m : Nat, n ≤ kk + f ∧ j + 1 ≤ kk ∧ kk ≤ n ∧ i = .int .i64 kk ∧ Hid (scanN l 39 f kk = scanN l 39 l.length (j + 1)) ∧ wr = w.drewN m) (fun i _ => n - (intOf i).toNat)
  case atStart => exact ⟨j + 1, n, 0, by omega, Nat.le_refl _, by omega, by go_num, by unfold Hid; rw [HN.out], rfl⟩
  case round =>
    obtain ⟨kk, f, m, hnf, hjk, hkn, rfl, HZ, rfl⟩ := hrel
    have hcj := HC0.out
    by_cases hlt : kk < n
    · obtain ⟨ad3, e3, hcell4⟩ := HS.out.byte (k := kk) (by rw [HN.out]; exact hlt)
      injection e3 with e3
      subst e3
      obtain ⟨d, hd⟩ : ∃ d, byteAt l kk = d := ⟨_, rfl⟩
      have hd256 := byteAt_lt l kk
      rw [hd] at hcell4 hd256
      have HD := Lib.hid hd
      by_cases hdb : d = 39
      · have t1 : ((d : Int) == 39) = true := by rw [hdb]; rfl
        have hz := HZ.out
        rw [scan_out f kk (.inr (by rw [hd]; exact hdb))] at hz
        have HR := Lib.hid (HAT.out kk hz.symm (by rw [HN.out]; exact hlt))
        have hp : Sees w (some (ad.add (j + 1))) (vB ((l.drop (j + 1)).take (kk - (j + 1)))) := by
          have h1 := HS.out.drop (k := j + 1) (cap := c) (by rw [vB_len, HN.out]; omega)
          rw [if_neg (by omega), ← vB_drop] at h1
          rw [vB_take]
          exact h1.take _
        obtain ⟨T, hT⟩ : ∃ T, (l.drop (j + 1)).take (kk - (j + 1)) = T := ⟨_, rfl⟩
        rw [hT] at hp HR
        have hTl : T.length = kk - (j + 1) := by rw [← hT, List.length_take, List.length_drop, HN.out]; omega
        have KC := Lib.hid (fun m => add1_at ad j ▸ conv_sees (w.drewN m) (some (ad.add (j + 1))) (kk - (j + 1)) (c - (j + 1)) T hTl (hp.drewN m))
        have hcc : ¬ c = j + 1 := by omega
        clear hd hdb hz hp hT hTl
        go_wp2_with fail
        go_quiet (fail)
        have kc := KC.out
        go_wp2_with fail
        go_ret3
        exact ⟨by rw [← HR.out]; exact ret_t3 (by show (kk : Int) + 1 = ((kk + 1 : Nat) : Int); omega), below_drw (Below.refl _ _) _⟩
      · have t1 : ((d : Int) == 39) = false := by simp; omega
        obtain ⟨g, rfl⟩ : ∃ g, f = g + 1 := ⟨f - 1, by omega⟩
        have hz := HZ.out
        rw [scan_on g kk (by rw [HN.out]; exact hlt) (by rw [hd]; exact hdb)] at hz
        have Hz := Lib.hid hz
        clear hd hdb hz
        go_wp2_with fail
        go_quiet (fail)
        go_wp2_with fail
        go_roundw
        case rel => exact ⟨kk + 1, g, _, by omega, by omega, by omega, by go_num, Hz, (by first | rfl | exact World.drewN_drewN)⟩
        case measure => simp [intOf]; omega
    · obtain rfl : kk = n := by omega
      have hz := HZ.out
      rw [scan_out f kk (.inl (by rw [HN.out]; exact Nat.le_refl _))] at hz
      have HR := Lib.hid (HEND.out (by rw [← hz]; exact HN.out.symm))
      clear hz
      go_wp2_with fail
      go_ret3
      exact ⟨by rw [← HR.out]; rfl, below_drw (Below.refl _ _) _⟩

set_option maxHeartbeats 4000000 in
theorem rquoted_any (l : List UInt8) (A : Option Addr) (n c : Nat) (k : Int) (w : World)
    (hn : l.length = n) (hnc : n ≤ c) (hm : c ≤ 9223372036854775807) (hk : I64 k) (hn9 : n ≤ 1000000) (hs : Sees w A (vB l)) :
    Calls Tryd.prog 114 #[.slice A n c, .int .i64 k] w fun e w' => e = .returned (trV (quoT l k)) ∧ Below w.heap.size w w' := by
  have hkl := hk.1
  have hkh := hk.2
  by_cases hout : k < 0 ∨ (n : Int) < k
  · rw [quoT_out (by rw [hn]; exact hout), trV_no]
    rcases hout with h0 | h0
    all_goals
      go_enter Tryd.func114, Tryd.ntmps114
      go_wp2_with fail
      go_ret3
      exact ⟨rfl, Below.refl _ _⟩
  · obtain ⟨j, rfl⟩ : ∃ j : Nat, k = j := ⟨k.toNat, by omega⟩
    have hj : j ≤ n := by omega
    by_cases hjn : j = n
    · rw [quoT_not (by omega) (.inl (by omega)), trV_no]
      subst hjn
      go_enter Tryd.func114, Tryd.ntmps114
      go_wp2_with fail
      go_ret3
      exact ⟨rfl, Below.refl _ _⟩
    · have hjl : j < n := by omega
      obtain ⟨ad, rfl, hcell⟩ := hs.byte (k := j) (by omega)
      obtain ⟨b, hb⟩ : ∃ b, byteAt l j = b := ⟨_, rfl⟩
      have hb256 := byteAt_lt l j
      rw [hb] at hcell hb256
      have hjne : j ≠ n := by omega
      by_cases hq : b = 34 ∨ b = 39
      · rcases hq with rfl | rfl
        · exact rquoted_34 l ad n c j w hn hnc hm hn9 hs hjl hcell hb
        · exact rquoted_39 l ad n c j w hn hnc hm hn9 hs hjl hcell hb
      · rw [quoT_not (by omega) (.inr (by rw [hb]; omega)), trV_no]
        have t34 : ((b : Int) != 34) = true := by simp; omega
        have t39 : ((b : Int) != 39) = true := by simp; omega
        clear hs hb hq
        go_enter Tryd.func114, Tryd.ntmps114
        go_wp2_with fail
        go_ret3
        exact ⟨rfl, Below.refl _ _⟩
end Go.Proofs.YtdmfladcldkmeaaDoor
namespace Go.Proofs.YtdmfladcldkmeaaDoor
open Go.ChangeShapes Go.WideShapes Go.ChangeAt Go.RowKit
set_option linter.unusedVariables false
set_option maxRecDepth 100000

theorem ret_ii {a b c d : Int} (h1 : a = c) (h2 : b = d) : Ending.returned (.tuple #[.int .i64 a, .int .i64 b]) = .returned (.tuple #[.int .i64 c, .int .i64 d]) := by rw [h1, h2]
set_option maxHeartbeats 2000000 in
theorem behind_any (l : List UInt8) (A : Option Addr) (n c k : Nat) (w : World)
    (hn : l.length = n) (hnc : n ≤ c) (hm : c ≤ 9223372036854775807) (hk : k < n) (hn9 : n ≤ 1000000) (hs : Sees w A (vB l)) (ht : TabC w) :
    Calls Tryd.prog 139 #[.slice A n c, .int .i64 (k : Int)] w fun e w' => e = .returned (.tuple #[.int .i64 (bhN l k).1, .int .i64 (bhN l k).2]) ∧ Below w.heap.size w w' := by
  unfold bhN
  rw [hn]
  have HC := cchar_any l A n c k w hn hnc hm ⟨by omega, by omega⟩ hn9 hs ht
  have HE := entity_any l A n c k w hn hnc hm ⟨by omega, by omega⟩ hn9 hs ht.toN
  obtain ⟨x, y, z, hv⟩ := chV_tup l k
  obtain ⟨s, y2, z2, hv2⟩ := entV_tup l k 38
  rw [hv] at HC ⊢
  rw [hv2] at HE ⊢
  have KC := Lib.hid HC
  have KE := Lib.hid HE
  by_cases h1 : k + 1 < n
  · obtain ⟨ad, rfl, hcell⟩ := hs.byte (k := k + 1) (by omega)
    obtain ⟨b, hb⟩ : ∃ b, byteAt l (k + 1) = b := ⟨_, rfl⟩
    have hb9 := byteAt_lt l (k + 1)
    rw [hb] at hcell hb9 ⊢
    rw [add1_at] at hcell
    by_cases h35 : b = 35
    · rw [if_pos ⟨h1, h35⟩]
      have t1 : ((b : Int) == 35) = true := by rw [h35]; rfl
      clear HC HE hs hv hv2 hb h35 hn
      go_enter Tryd.func139, Tryd.ntmps139
      go_wp2_with fail
      refine KC.out.mono ?_
      rintro e w1 ⟨rfl, hb1⟩
      go_wp2_with fail
      go_ret2
      exact ⟨rfl, hb1⟩
    · rw [if_neg (by rintro ⟨_, h⟩; exact h35 h)]
      have t1 : ((b : Int) == 35) = false := by simp; omega
      clear HC HE hs hv hv2 hb h35 hn
      go_enter Tryd.func139, Tryd.ntmps139
      go_wp2_with fail
      refine KE.out.mono ?_
      rintro e w1 ⟨rfl, hb1⟩
      go_wp2_with fail
      go_ret2
      exact ⟨rfl, hb1⟩
  · rw [if_neg (by rintro ⟨h, _⟩; exact h1 h)]
    clear HC HE hs hv hv2 hn
    go_enter Tryd.func139, Tryd.ntmps139
    go_wp2_with fail
    refine KE.out.mono ?_
    rintro e w1 ⟨rfl, hb1⟩
    go_wp2_with fail
    go_ret2
    exact ⟨rfl, hb1⟩

/-- At the loop's head: the place, and what is still to come. -/
def RefRel (l : List UInt8) (R : Int × Int) (W0 : World) (i : Value) (w : World) : Prop := ∃ k f : Nat, k ≤ l.length ∧ l.length ≤ k + f ∧ i = .int .i64 k ∧ refsN l f k = R ∧ Below W0.heap.size W0 w
theorem refRel_mk {l : List UInt8} {R : Int × Int} {W0 w : World} {i : Int} (k f : Nat) (h1 : k ≤ l.length) (h2 : l.length ≤ k + f) (h3 : i = k) (h4 : refsN l f k = R) (h5 : Below W0.heap.size W0 w) : RefRel l R W0 (.int .i64 i) w :=
  ⟨k, f, h1, h2, by rw [h3], h4, h5⟩

set_option maxHeartbeats 4000000 in
theorem refs_any (l : List UInt8) (w : World) (hl : l.length ≤ 1000000) (ht : TabC w) :
    Calls Tryd.prog 101 #[strV l] w fun e w' => e = .returned (refsV l) ∧ Below w.heap.size w w' := by
  obtain ⟨B, cap, W1, hrun, hc1, hc2, hb1, hBl, hBw, hs1⟩ := bytes_made l w hl
  have ht1 := ht.below hb1
  have HS := Lib.hid hs1
  have HT := Lib.hid ht1
  have hsz1 := hb1.size
  unfold refsV
  obtain ⟨R, hR⟩ : ∃ R, refsN l l.length 0 = R := ⟨_, rfl⟩
  have HR0 := Lib.hid hR
  rw [hR]
  clear hs1 ht1 ht hR
  go_enter Tryd.func101, Tryd.ntmps101
  go_wp2_with fail
  go_loopw [5] (fun i wr => RefRel l R W1 i wr) (fun i _ => l.length - (intOf i).toNat)
  case atStart => exact refRel_mk 0 l.length (by omega) (by omega) rfl HR0.out (Below.refl _ _)
  case round =>
    obtain ⟨k, f, hk, hf, rfl, hr, hB⟩ := hrel
    have HR := Lib.hid hr
    clear hr
    by_cases hlt : k < l.length
    · have hck : ¬ cap = k := by omega
      have hsd := sees_off (HS.out.below hB) k
      have hi0 := bIndex_any wr (some ⟨B, k, none⟩) (l.length - k) (cap - k) (l.drop k) 38 List.length_drop hsd
      rw [show ((38 : Int).toNat.toUInt8) = UInt8.ofNat 38 from rfl] at hi0
      rcases index_cases (l.drop k) (UInt8.ofNat 38) with ⟨h, hno⟩ | ⟨i, h, hi, hat, hno⟩
      · rw [h] at hi0
        have HI := Lib.hid hi0
        have HE := Lib.hid (refs_none (l := l) f k (fun j h1 h2 h3 => hno (j - k) (by
          rw [at_iff (by rw [List.length_drop]; omega) (by omega), byte_drop, show k + (j - k) = j by omega]; exact h3)))
        clear hi0 h hno hsd
        go_wp2_with fail
        refine HI.out.mono ?_
        rintro e w2 ⟨rfl, rfl⟩
        go_wp2_with fail
        go_ret2
        exact ⟨ret_ii (by rw [← HR.out, HE.out]) (by rw [← HR.out, HE.out]), hb1.trans (hB.mono hsz1)⟩
      · rw [h] at hi0
        have HI := Lib.hid hi0
        rw [List.length_drop] at hi
        have h38 : byteAt l (k + i) = 38 := by
          have := (at_iff (by rw [List.length_drop]; exact hi) (by omega)).1 hat
          rwa [byte_drop] at this
        have hsk := refs_skip (l := l) i f k (by omega) (by omega) (fun j hj h3 => hno j hj ((at_iff (by rw [List.length_drop]; omega) (by omega)).2 (by rw [byte_drop]; exact h3)))
        have hbh := behind_any l (some ⟨B, 0, none⟩) l.length cap (k + i) wr rfl hc1 hc2 (by omega) hl (HS.out.below hB) (HT.out.below hB)
        obtain ⟨g, hg⟩ : ∃ g, f - i = g + 1 := ⟨f - i - 1, by omega⟩
        rw [hg] at hsk
        have hgf : f ≤ i + g + 1 := by omega
        rw [show ((k + i : Nat) : Int) = (k : Int) + (i : Int) by omega] at hbh
        by_cases he : (bhN l (k + i)).2 = 0
        · obtain ⟨m, hm1, hm2, hm3⟩ := bh_go (l := l) (k := k + i) (by omega) he
          have hon := refs_on (l := l) g (k + i) m (by omega) h38 he hm1
          rw [he, hm1] at hbh
          have HBH := Lib.hid hbh
          have HN := Lib.hid (hon.symm.trans (hsk.symm.trans HR.out))
          clear hi0 h hno hsd hat hbh h38 hsk hon hm1 he hg
          go_wp2_with fail
          refine HI.out.mono ?_
          rintro e w2 ⟨rfl, rfl⟩
          go_wp2_with fail
          refine HBH.out.mono ?_
          rintro e w2 ⟨rfl, hb2⟩
          have hB2 := hB.trans (hb2.mono hB.size)
          clear hb2
          go_wp2_with fail
          go_roundw
          case rel => exact refRel_mk m g hm3 (by omega) rfl HN.out hB2
          case measure => simp [intOf]; omega
        · have her := refs_err (l := l) g (k + i) (by omega) h38 he
          obtain ⟨e', hee⟩ : ∃ e', (bhN l (k + i)).2 = e' := ⟨_, rfl⟩
          obtain ⟨y', hyy⟩ : ∃ e', (bhN l (k + i)).1 = e' := ⟨_, rfl⟩
          rw [hee] at hbh her he
          rw [hyy] at hbh
          have t1 : (e' != 0) = true := by simpa using he
          have HBH := Lib.hid hbh
          have HN := Lib.hid (her.symm.trans (hsk.symm.trans HR.out))
          clear hi0 h hno hsd hat hbh h38 hsk her he hg hee hyy
          go_wp2_with fail
          refine HI.out.mono ?_
          rintro e w2 ⟨rfl, rfl⟩
          go_wp2_with fail
          refine HBH.out.mono ?_
          rintro e w2 ⟨rfl, hb2⟩
          have hB2 := hB.trans (hb2.mono hB.size)
          clear hb2
          go_wp2_with fail
          go_ret2
          exact ⟨ret_ii (by rw [← HN.out]; show (k : Int) + i = ((k + i : Nat) : Int); omega) (by rw [← HN.out]), hb1.trans (hB2.mono hsz1)⟩
    · obtain rfl : k = l.length := by omega
      have HI := Lib.hid (fun (A' : Option Addr) (c' : Nat) => bIndex_any wr A' 0 c' [] 38 rfl (sees_nil _ _))
      have HE := Lib.hid (refs_end (l := l) f l.length (Nat.le_refl _))
      by_cases hck : cap = l.length
      all_goals
        go_wp2_with fail
        refine (HI.out _ _).mono ?_
        rintro e w2 ⟨rfl, rfl⟩
        go_wp2_with fail
        go_ret2
        exact ⟨ret_ii (by rw [← HR.out, HE.out]) (by rw [← HR.out, HE.out]), hb1.trans (hB.mono hsz1)⟩
end Go.Proofs.YtdmfladcldkmeaaDoor
namespace Go.Proofs.YtdmfladcldkmeaaDoor
open Go.ChangeShapes Go.WideShapes Go.ChangeAt Go.RowKit
set_option linter.unusedVariables false
set_option maxRecDepth 100000

set_option maxHeartbeats 4000000 in
theorem rrefs_any (l : List UInt8) (w : World) (hl : l.length ≤ 1000000) (ht : TabN w) :
    Calls Tryd.prog 62 #[strV l] w fun e w' => e = .returned (refsV l) ∧ Below w.heap.size w w' := by
  obtain ⟨B, cap, W1, hrun, hc1, hc2, hb1, hBl, hBw, hs1⟩ := bytes_made l w hl
  have ht1 := ht.below hb1
  have HS := Lib.hid hs1
  have HT := Lib.hid ht1
  have hsz1 := hb1.size
  unfold refsV
  obtain ⟨R, hR⟩ : ∃ R, refsN l l.length 0 = R := ⟨_, rfl⟩
  have HR0 := Lib.hid hR
  rw [hR]
  clear hs1 ht1 ht hR
  go_enter Tryd.func62, Tryd.ntmps62
  go_wp2_with fail
  go_loopw [5] (fun i wr => RefRel l R W1 i wr) (fun i _ => l.length - (intOf i).toNat)
  case atStart => exact refRel_mk 0 l.length (by omega) (by omega) rfl HR0.out (Below.refl _ _)
  case round =>
    obtain ⟨k, f, hk, hf, rfl, hr, hB⟩ := hrel
    have HR := Lib.hid hr
    clear hr
    by_cases hlt : k < l.length
    · have hcell := cell_off (HS.out.below hB) hlt
      obtain ⟨b, hb⟩ : ∃ b, byteAt l k = b := ⟨_, rfl⟩
      have hb9 := byteAt_lt l k
      rw [hb] at hcell hb9
      obtain ⟨g, rfl⟩ : ∃ g, f = g + 1 := ⟨f - 1, by omega⟩
      by_cases h38 : b = 38
      · have h38' : byteAt l k = 38 := by rw [hb, h38]
        have t0 : ((b : Int) != 38) = false := by rw [h38]; rfl
        have HC := rchar6_any l (some ⟨B, 0, none⟩) l.length cap k wr rfl hc1 hc2 ⟨by omega, by omega⟩ hl (HS.out.below hB)
        have HE := rent_any l (some ⟨B, 0, none⟩) l.length cap k 38 wr rfl hc1 hc2 ⟨by omega, by omega⟩ hl (by omega) (HS.out.below hB) (HT.out.below hB)
        obtain ⟨x1, x2, x3, hv⟩ := chV_tup l k
        obtain ⟨y1, y2, y3, hv2⟩ := entV_tup l k 38
        rw [hv] at HC
        rw [hv2] at HE
        have KC := Lib.hid HC
        have KE := Lib.hid HE
        clear HC HE
        by_cases h1 : k + 1 < l.length
        · have hcell2 := cell_off (HS.out.below hB) h1
          obtain ⟨d, hd⟩ : ∃ d, byteAt l (k + 1) = d := ⟨_, rfl⟩
          have hd9 := byteAt_lt l (k + 1)
          rw [hd] at hcell2 hd9
          by_cases h35 : d = 35
          · have hbh : bhN l k = (x2, x3) := by unfold bhN; rw [if_pos ⟨h1, by rw [hd]; exact h35⟩, hv]; rfl
            have t1 : ((d : Int) == 35) = true := by rw [h35]; rfl
            by_cases he : x3 = 0
            · obtain ⟨m, hm1, hm2, hm3⟩ := bh_go (l := l) (k := k) hlt (by rw [hbh]; exact he)
              have hon := refs_on (l := l) g k m hlt h38' (by rw [hbh]; exact he) hm1
              rw [hbh] at hm1
              simp only at hm1
              subst hm1 he
              have HN := Lib.hid (hon.symm.trans HR.out)
              clear hv hv2 hb hd h38 h35 h38' hbh hon
              go_wp2_with fail
              refine KC.out.mono ?_
              rintro e w2 ⟨rfl, rfl⟩
              go_wp2_with fail
              go_roundw
              case rel => exact refRel_mk m g hm3 (by omega) rfl HN.out hB
              case measure => simp [intOf]; omega
            · have her := refs_err (l := l) g k hlt h38' (by rw [hbh]; exact he)
              rw [hbh] at her
              have t2 : (x3 != 0) = true := by simpa using he
              have HN := Lib.hid (her.symm.trans HR.out)
              clear hv hv2 hb hd h38 h35 h38' hbh her he
              go_wp2_with fail
              refine KC.out.mono ?_
              rintro e w2 ⟨rfl, rfl⟩
              go_wp2_with fail
              go_ret2
              exact ⟨ret_ii (congrArg Prod.fst HN.out) (congrArg Prod.snd HN.out), hb1.trans (hB.mono hsz1)⟩
          · have hbh : bhN l k = (y2, y3) := by unfold bhN; rw [if_neg (by rintro ⟨_, h⟩; rw [hd] at h; exact h35 h), hv2]; rfl
            have t1 : ((d : Int) == 35) = false := by simp; omega
            by_cases he : y3 = 0
            · obtain ⟨m, hm1, hm2, hm3⟩ := bh_go (l := l) (k := k) hlt (by rw [hbh]; exact he)
              have hon := refs_on (l := l) g k m hlt h38' (by rw [hbh]; exact he) hm1
              rw [hbh] at hm1
              simp only at hm1
              subst hm1 he
              have HN := Lib.hid (hon.symm.trans HR.out)
              clear hv hv2 hb hd h38 h35 h38' hbh hon
              go_wp2_with fail
              refine KE.out.mono ?_
              rintro e w2 ⟨rfl, hb2⟩
              have hB2 := hB.trans (hb2.mono hB.size)
              clear hb2
              go_wp2_with fail
              go_roundw
              case rel => exact refRel_mk m g hm3 (by omega) rfl HN.out hB2
              case measure => simp [intOf]; omega
            · have her := refs_err (l := l) g k hlt h38' (by rw [hbh]; exact he)
              rw [hbh] at her
              have t2 : (y3 != 0) = true := by simpa using he
              have HN := Lib.hid (her.symm.trans HR.out)
              clear hv hv2 hb hd h38 h35 h38' hbh her he
              go_wp2_with fail
              refine KE.out.mono ?_
              rintro e w2 ⟨rfl, hb2⟩
              have hB2 := hB.trans (hb2.mono hB.size)
              clear hb2
              go_wp2_with fail
              go_ret2
              exact ⟨ret_ii (congrArg Prod.fst HN.out) (congrArg Prod.snd HN.out), hb1.trans (hB2.mono hsz1)⟩
        · have hbh : bhN l k = (y2, y3) := by unfold bhN; rw [if_neg (by rintro ⟨h, _⟩; exact h1 h), hv2]; rfl
          by_cases he : y3 = 0
          · obtain ⟨m, hm1, hm2, hm3⟩ := bh_go (l := l) (k := k) hlt (by rw [hbh]; exact he)
            have hon := refs_on (l := l) g k m hlt h38' (by rw [hbh]; exact he) hm1
            rw [hbh] at hm1
            simp only at hm1
            subst hm1 he
            have HN := Lib.hid (hon.symm.trans HR.out)
            clear hv hv2 hb h38 h38' hbh hon
            go_wp2_with fail
            refine KE.out.mono ?_
            rintro e w2 ⟨rfl, hb2⟩
            have hB2 := hB.trans (hb2.mono hB.size)
            clear hb2
            go_wp2_with fail
            go_roundw
            case rel => exact refRel_mk m g hm3 (by omega) rfl HN.out hB2
            case measure => simp [intOf]; omega
          · have her := refs_err (l := l) g k hlt h38' (by rw [hbh]; exact he)
            rw [hbh] at her
            have t2 : (y3 != 0) = true := by simpa using he
            have HN := Lib.hid (her.symm.trans HR.out)
            clear hv hv2 hb h38 h38' hbh her he
            go_wp2_with fail
            refine KE.out.mono ?_
            rintro e w2 ⟨rfl, hb2⟩
            have hB2 := hB.trans (hb2.mono hB.size)
            clear hb2
            go_wp2_with fail
            go_ret2
            exact ⟨ret_ii (congrArg Prod.fst HN.out) (congrArg Prod.snd HN.out), hb1.trans (hB2.mono hsz1)⟩
      · have t0 : ((b : Int) != 38) = true := by simp; omega
        have HN := Lib.hid ((refs_one (l := l) g k hlt (by rw [hb]; exact h38)).symm.trans HR.out)
        clear hb h38
        go_wp2_with fail
        go_roundw
        case rel => exact refRel_mk (k + 1) g (by omega) (by omega) (by omega) HN.out hB
        case measure => simp [intOf]; omega
    · obtain rfl : k = l.length := by omega
      have HE := Lib.hid (refs_end (l := l) f l.length (Nat.le_refl _))
      go_wp2_with fail
      go_ret2
      exact ⟨ret_ii (by rw [← HR.out, HE.out]) (by rw [← HR.out, HE.out]), hb1.trans (hB.mono hsz1)⟩

set_option maxHeartbeats 1000000 in
theorem rhas_any (l : List UInt8) (b : Nat) (w : World) (hl : l.length ≤ 1000000) (hb : b < 256) :
    Calls Tryd.prog 46 #[strV l, .int .u8 (b : Int)] w fun e w' => e = .returned (.bool (decide (0 ≤ Lib.indexByte l (UInt8.ofNat b)))) ∧ w = w' := by
  have hsc := scan_ix (l := l) (b := b) (a := 0) hb (by omega)
  rw [List.drop_zero] at hsc
  obtain ⟨q, hq⟩ : ∃ q, decide (0 ≤ Lib.indexByte l (UInt8.ofNat b)) = q := ⟨_, rfl⟩
  have HY : Hid (scanN l b l.length 0 < l.length → true = q) := by
    unfold Hid
    intro h
    rcases hsc with ⟨_, h2⟩ | ⟨i, h1, _, _, _⟩
    · omega
    · rw [← hq, h1]; symm; rw [decide_eq_true_eq]; omega
  have HX : Hid (scanN l b l.length 0 = l.length → false = q) := by
    unfold Hid
    intro h
    rcases hsc with ⟨h1, _⟩ | ⟨i, h1, h2, h3, _⟩
    · rw [← hq, h1]; rfl
    · omega
  rw [hq]
  have HSZ := str_size l
  clear hq hsc
  go_enter Tryd.func46, Tryd.ntmps46
  go_wp2_with fail
  go_loop [5] (fun i => ∃ kk f : Nat, l.length ≤ kk + f ∧ kk ≤ l.length ∧ i = .int .i64 kk ∧ Hid (scanN l b f kk = scanN l b l.length 0)) (fun i => l.length - (intOf i).toNat)
  case atStart => exact ⟨0, l.length, by omega, by omega, rfl, rfl⟩
  case round =>
    obtain ⟨kk, f, hnf, hkn, rfl, HZ⟩ := hrel
    by_cases hlt : kk < l.length
    · have hix := str_idx l kk hlt
      obtain ⟨d, hd⟩ : ∃ d, byteAt l kk = d := ⟨_, rfl⟩
      have hd9 := byteAt_lt l kk
      rw [hd] at hix hd9
      by_cases hdb : d = b
      · have t1 : ((d : Int) == (b : Int)) = true := by rw [hdb]; simp
        have hz := HZ.out
        rw [scan_out f kk (.inr (by rw [hd]; exact hdb))] at hz
        have HR := Lib.hid (HY.out (by rw [← hz]; exact hlt))
        clear hd hdb hz
        go_wp2_with fail
        go_ret
        exact ⟨ret_bool HR.out, rfl⟩
      · have t1 : ((d : Int) == (b : Int)) = false := by simp; omega
        obtain ⟨g, rfl⟩ : ∃ g, f = g + 1 := ⟨f - 1, by omega⟩
        have hz := HZ.out
        rw [scan_on g kk hlt (by rw [hd]; exact hdb)] at hz
        have Hz := Lib.hid hz
        clear hd hdb hz
        go_wp2_with fail
        go_round
        case rel => exact ⟨kk + 1, g, by omega, by omega, by go_num, Hz⟩
        case measure => simp [intOf]; omega
    · obtain rfl : kk = l.length := by omega
      have hz := HZ.out
      rw [scan_out f l.length (.inl (Nat.le_refl _))] at hz
      have HR := Lib.hid (HX.out hz.symm)
      clear hz
      go_wp2_with fail
      go_ret
      exact ⟨ret_bool HR.out, rfl⟩
end Go.Proofs.YtdmfladcldkmeaaDoor
namespace Go.Proofs.YtdmfladcldkmeaaDoor
open Go.ChangeShapes Go.WideShapes Go.ChangeAt Go.RowKit
set_option linter.unusedVariables false
set_option maxRecDepth 100000

set_option maxHeartbeats 1000000 in
theorem slIndex_any (l : List UInt8) (b : Nat) (w : World) :
    Calls Tryd.prog 175 #[strV l, .int .u8 (b : Int)] w fun e w' => e = .returned (.int .i64 (Lib.indexByte l (UInt8.ofNat b))) ∧ w = w' := by
  have H := Lib.hid (Lib.run_indexByteString (P := Tryd.prog) ⟨l.toArray⟩ (b : Int) w)
  go_enter Tryd.func175, Tryd.ntmps175
  go_wp2
  rw [run_callFunc_extern Tryd.func190 (by kernel_rfl) (by kernel_rfl) (by kernel_rfl) (e := Extern.BytealgIndexByte.indexByte) (by kernel_rfl), H.out]
  simp only [Result.andThen]
  rw [Oper.upon_value]
  go_wp2
  go_ret
  exact ⟨rfl, rfl⟩
set_option maxHeartbeats 1000000 in
theorem sIndex_any (l : List UInt8) (b : Nat) (w : World) :
    Calls Tryd.prog 187 #[strV l, .int .u8 (b : Int)] w fun e w' => e = .returned (.int .i64 (Lib.indexByte l (UInt8.ofNat b))) ∧ w = w' := by
  have H := Lib.hid (slIndex_any l b w)
  go_enter Tryd.func187, Tryd.ntmps187
  go_wp2_with fail
  refine H.out.mono ?_
  rintro e w1 ⟨rfl, rfl⟩
  go_wp2_with fail
  go_ret
  exact ⟨rfl, rfl⟩

/-- A function value that tells an error of a text by E, in every world that keeps what lay below p. -/
def TellsE (F : Nat) (caps : Array Value) (E : List UInt8 → Int) (p : Nat) (W : World) : Prop :=
  ∀ (s : List UInt8) (w' : World), s.length ≤ 1000000 → Below p W w' → Calls Tryd.prog F (#[strV s] ++ caps) w' fun e w'' => e = .returned (.int .i64 (E s)) ∧ Below w'.heap.size w' w''

set_option maxHeartbeats 1000000 in
theorem without1_any (c : Nat) (s : List UInt8) (B : Nat) (w : World) (hc : w.cell? ⟨B, 0, none⟩ = some (.int .u8 (c : Int))) :
    Calls Tryd.prog 189 #[strV s, .pointer (some ⟨B, 0, none⟩)] w fun e w' => e = .returned (.int .i64 (withoutE c s)) ∧ Below w.heap.size w w' := by
  have H := sIndex_any s c w
  unfold withoutE
  obtain ⟨ix, hix⟩ : ∃ ix, Lib.indexByte s (UInt8.ofNat c) = ix := ⟨_, rfl⟩
  rw [hix] at H ⊢
  have HH := Lib.hid H
  clear H hix
  by_cases h : 0 ≤ ix
  · rw [if_pos h]
    go_enter Tryd.func189, Tryd.ntmps189
    go_wp2_with fail
    refine HH.out.mono ?_
    rintro e w1 ⟨rfl, rfl⟩
    go_wp2_with fail
    go_ret
    exact ⟨rfl, Below.refl _ _⟩
  · rw [if_neg h]
    go_enter Tryd.func189, Tryd.ntmps189
    go_wp2_with fail
    refine HH.out.mono ?_
    rintro e w1 ⟨rfl, rfl⟩
    go_wp2_with fail
    go_ret
    exact ⟨rfl, Below.refl _ _⟩
set_option maxHeartbeats 1000000 in
theorem without_any (c : Nat) (w : World) :
    Calls Tryd.prog 169 #[.int .u8 (c : Int)] w fun e w' => e = .returned (.func (.func 189) #[] #[.pointer (some ⟨w.heap.size, 0, none⟩)]) ∧ w' = w.alloc (.cells #[.int .u8 (c : Int)] 5) := by
  go_enter Tryd.func169, Tryd.ntmps169
  go_wp2_with fail
  go_ret
  exact ⟨rfl, rfl⟩
set_option maxHeartbeats 1000000 in
theorem rightRefs_any (s : List UInt8) (w : World) (hs : s.length ≤ 1000000) (ht : TabC w) :
    Calls Tryd.prog 170 #[strV s] w fun e w' => e = .returned (.int .i64 (refsE s)) ∧ Below w.heap.size w w' := by
  have H := Lib.hid (refs_any s w hs ht)
  unfold refsV at H
  unfold refsE
  obtain ⟨x, y, hxy⟩ : ∃ x y, refsN s s.length 0 = (x, y) := ⟨_, _, rfl⟩
  rw [hxy] at H ⊢
  go_enter Tryd.func170, Tryd.ntmps170
  go_wp2_with fail
  refine H.out.mono ?_
  rintro e w1 ⟨rfl, hb⟩
  go_wp2_with fail
  go_ret
  exact ⟨rfl, hb⟩

theorem chk_zero {fs : List (List UInt8 → Int)} {s : List UInt8} {k : Nat} (hk : k < fs.length) (h : (fs[k]'hk) s = 0) : chk (fs.drop k) s = chk (fs.drop (k + 1)) s := by
  rw [List.drop_eq_getElem_cons hk, chk, if_neg (by rw [h]; simp)]
theorem chk_one {fs : List (List UInt8 → Int)} {s : List UInt8} {k : Nat} (hk : k < fs.length) (h : (fs[k]'hk) s ≠ 0) : chk (fs.drop k) s = (fs[k]'hk) s := by
  rw [List.drop_eq_getElem_cons hk, chk, if_pos h]
abbrev Chk := Nat × Array Value × (List UInt8 → Int)
def chkV (x : Chk) : Value := .func (.func x.1) #[] x.2.1
theorem ret_tr {x y : Trip} (h : x = y) : Ending.returned (trV x) = .returned (trV y) := by rw [h]

set_option maxHeartbeats 4000000 in
theorem checked_any (fs : List Chk) (l : List UInt8) (A A3 : Option Addr) (n c m c3 : Nat) (k : Int) (w : World)
    (hn : l.length = n) (hnc : n ≤ c) (hm : c ≤ 9223372036854775807) (hk : I64 k) (hn9 : n ≤ 1000000) (hs : Sees w A (vB l))
    (hfl : fs.length = m) (hm3 : m ≤ 1000000) (hf : Sees w A3 (fs.map chkV)) (he : ∀ x ∈ fs, Enters x.1 ∧ TellsE x.1 x.2.1 x.2.2 w.heap.size w) :
    Calls Tryd.prog 151 #[.slice A n c, .int .i64 k, .slice A3 m c3] w fun e w' => e = .returned (trV (chkT (fs.map fun x : Chk => x.2.2) (quoT l k))) ∧ Below w.heap.size w w' := by
  have HQ := quoted_any l A n c k w hn hnc hm hk hn9 hs
  have hqe := quoT_err l k
  have hql := quoT_len l k
  unfold chkT
  obtain ⟨s, y, e0, hq⟩ : ∃ s y e0, quoT l k = (s, y, e0) := ⟨_, _, _, rfl⟩
  rw [hq] at HQ hqe hql ⊢
  simp only at hqe hql ⊢
  have HF := Lib.hid hf
  have HE := Lib.hid he
  by_cases h0 : e0 = 0
  · subst h0
    rw [if_neg (by simp)]
    unfold trV at HQ
    have H := Lib.hid HQ
    obtain ⟨V, hV⟩ : ∃ V, trV (if chk (fs.map fun x : Chk => x.2.2) s ≠ 0 then noT (chk (fs.map fun x : Chk => x.2.2) s) else (s, y, 0)) = V := ⟨_, rfl⟩
    have HV := Lib.hid hV
    rw [hV]
    have hsl : s.length ≤ 1000000 := by omega
    clear HQ hqe hql hq hV hs hf he
    go_enter Tryd.func151, Tryd.ntmps151
    go_wp2_with fail
    refine H.out.mono ?_
    rintro e w1 ⟨rfl, hb1⟩
    go_wp2_with fail
    go_loopw [27] (fun i wr => ∃ kk : Nat, kk ≤ m ∧ i = .int .i64 kk ∧ Hid (chk ((fs.map fun x : Chk => x.2.2).drop kk) s = chk (fs.map fun x : Chk => x.2.2) s) ∧ Below w.heap.size w wr) (fun i _ => m - (intOf i).toNat)
    case atStart => exact ⟨0, by omega, rfl, rfl, hb1⟩
    case round =>
      obtain ⟨kk, hkm, rfl, HC, hB⟩ := hrel
      by_cases hlt : kk < m
      · have hkl : kk < fs.length := by omega
        obtain ⟨F, caps, E, hx⟩ : ∃ F caps E, fs[kk]'hkl = (F, caps, E) := ⟨_, _, _, rfl⟩
        obtain ⟨hF, hT⟩ := HE.out _ (List.getElem_mem hkl)
        rw [hx] at hF hT
        obtain ⟨ad, u, hA3, hu, hcell⟩ := (HF.out.below hB).at (k := kk) (by rw [List.length_map]; exact hkl)
        rw [List.getElem?_map, List.getElem?_eq_getElem hkl, hx] at hu
        obtain rfl : u = .func (.func F) #[] caps := by simpa [chkV] using hu.symm
        subst hA3
        have hF' : ∀ args w, (callFunc F args).run Tryd.prog w = .ok (.enter F args) w := hF
        have hC := hT s wr hsl hB
        simp only at hC
        have hEk : ((fs.map fun x : Chk => x.2.2)[kk]'(by rw [List.length_map]; exact hkl)) s = E s := by rw [List.getElem_map, hx]
        by_cases hz : E s = 0
        · have h2 := chk_zero (fs := fs.map fun x : Chk => x.2.2) (s := s) (k := kk) (by rw [List.length_map]; exact hkl) (hEk.trans hz)
          have HN := Lib.hid (h2.symm.trans HC.out)
          rw [hz] at hC
          have HCC := Lib.hid hC
          clear hC hz h2 hEk hu hx hT
          go_wp2_with fail
          refine HCC.out.mono ?_
          rintro e w2 ⟨rfl, hb2⟩
          have hB2 := hB.trans (hb2.mono hB.size)
          clear hb2
          go_wp2_with fail
          go_roundw
          case rel => exact ⟨kk + 1, by omega, by go_num, HN, hB2⟩
          case measure => simp [intOf]; omega
        · have h2 := chk_one (fs := fs.map fun x : Chk => x.2.2) (s := s) (k := kk) (by rw [List.length_map]; exact hkl) (by rw [hEk]; exact hz)
          rw [hEk] at h2
          have h3 := h2.symm.trans HC.out
          obtain ⟨e', hee⟩ : ∃ e', E s = e' := ⟨_, rfl⟩
          rw [hee] at hC hz h3
          have t1 : (e' != 0) = true := by simpa using hz
          have HN := Lib.hid (show trV (noT e') = V by rw [← HV.out, ← h3, if_pos hz])
          have HCC := Lib.hid hC
          clear hC hz h2 h3 hEk hu hx hT hee
          go_wp2_with fail
          refine HCC.out.mono ?_
          rintro e w2 ⟨rfl, hb2⟩
          have hB2 := hB.trans (hb2.mono hB.size)
          clear hb2
          go_wp2_with fail
          go_ret3
          exact ⟨by rw [← HN.out]; rfl, hB2⟩
      · obtain rfl : kk = m := by omega
        have HN := Lib.hid (show trV (s, y, 0) = V by
          have h := HC.out
          rw [List.drop_eq_nil_of_le (by rw [List.length_map]; omega)] at h
          rw [← HV.out, ← h, if_neg (by simp [chk])])
        go_wp2_with fail
        go_ret3
        exact ⟨by rw [← HN.out]; rfl, hB⟩
  · rw [if_pos h0]
    have hqe := hqe h0
    rw [hqe] at HQ
    rw [trV_no] at HQ ⊢
    have t1 : (e0 != 0) = true := by simpa using h0
    have H := Lib.hid HQ
    clear HQ hqe hql hq hs hf he h0
    go_enter Tryd.func151, Tryd.ntmps151
    go_wp2_with fail
    refine H.out.mono ?_
    rintro e w1 ⟨rfl, hb1⟩
    go_wp2_with fail
    go_ret3
    exact ⟨rfl, hb1⟩
end Go.Proofs.YtdmfladcldkmeaaDoor
namespace Go.Proofs.YtdmfladcldkmeaaDoor
open Go.ChangeShapes Go.WideShapes Go.ChangeAt Go.RowKit
set_option linter.unusedVariables false
set_option maxRecDepth 100000

theorem enters_without : Enters 189 := fun _ _ => by kernel_rfl
theorem enters_refs : Enters 170 := fun _ _ => by kernel_rfl
/-- What a value that may not hold byte c is. -/
def strT (c : Nat) (l : List UInt8) (k : Int) : Trip := chkT [withoutE c, refsE] (quoT l k)
theorem strT_tup (c : Nat) (l : List UInt8) (k : Int) : ∃ s y e, trV (strT c l k) = .tuple #[.string s, .int .i64 y, .int .i64 e] := ⟨_, _, _, rfl⟩
/-- The contract of 'checked' where its checks are those of a value. -/
theorem checked_val (d : Nat) (l : List UInt8) (A : Option Addr) (n c : Nat) (k : Int) (w : World)
    (hn : l.length = n) (hnc : n ≤ c) (hm : c ≤ 9223372036854775807) (hk : I64 k) (hn9 : n ≤ 1000000) (hs : Sees w A (vB l)) (ht : TabC w) :
    Calls Tryd.prog 151 #[.slice A n c, .int .i64 k, .slice (some ⟨w.heap.size + 1, 0, none⟩) 2 2] ((w.alloc (.cells #[.int .u8 (d : Int)] 5)).alloc (.cells #[.func (.func 189) #[] #[.pointer (some ⟨w.heap.size, 0, none⟩)], .func (.func 170) #[] #[]] 126))
      fun e w' => e = .returned (trV (strT d l k)) ∧ Below w.heap.size w w' := by
  obtain ⟨W, hW⟩ : ∃ W, (w.alloc (.cells #[.int .u8 (d : Int)] 5)).alloc (.cells #[.func (.func 189) #[] #[.pointer (some ⟨w.heap.size, 0, none⟩)], .func (.func 170) #[] #[]] 126) = W := ⟨_, rfl⟩
  have hb : Below w.heap.size w W := hW ▸ (((Below.refl _ w).alloc (Nat.le_refl _) _).alloc (by simp) _)
  have hsz : W.heap.size = w.heap.size + 2 := by rw [← hW]; simp
  have hcell : W.cell? ⟨w.heap.size, 0, none⟩ = some (.int .u8 (d : Int)) := by
    rw [← hW]
    have h1 : ((w.alloc (.cells #[.int .u8 (d : Int)] 5)).alloc (.cells #[.func (.func 189) #[] #[.pointer (some ⟨w.heap.size, 0, none⟩)], .func (.func 170) #[] #[]] 126)).heap[w.heap.size]? = some (.cells #[.int .u8 (d : Int)] 5) := by
      rw [Lib.alloc_old _ _ _ (by simp), heap_alloc_new]
    unfold World.cell?
    rw [h1]
    rfl
  have hS : Sees W (some ⟨w.heap.size + 1, 0, none⟩) (([(189, #[.pointer (some ⟨w.heap.size, 0, none⟩)], withoutE d), (170, #[], refsE)] : List Chk).map chkV) := by
    rw [← hW]
    have h := sees_lit (w.alloc (.cells #[.int .u8 (d : Int)] 5)) [.func (.func 189) #[] #[.pointer (some ⟨w.heap.size, 0, none⟩)], .func (.func 170) #[] #[]] 126 (0, 0)
    rw [show (w.alloc (.cells #[.int .u8 (d : Int)] 5)).heap.size = w.heap.size + 1 by simp] at h
    exact h
  rw [hW]
  have h := checked_any [(189, #[.pointer (some ⟨w.heap.size, 0, none⟩)], withoutE d), (170, #[], refsE)] l A (some ⟨w.heap.size + 1, 0, none⟩) n c 2 2 k W hn hnc hm hk hn9 (hs.below hb) rfl (by omega) hS (fun x hx => by
    have hx' : x = (189, #[.pointer (some ⟨w.heap.size, 0, none⟩)], withoutE d) ∨ x = (170, #[], refsE) := by simpa using hx
    rcases hx' with rfl | rfl
    · exact ⟨enters_without, fun s w' hs' hb' => without1_any d s w.heap.size w' (by rw [hb'.cell (p := ⟨w.heap.size, 0, none⟩) (by show w.heap.size < _; omega)]; exact hcell)⟩
    · exact ⟨enters_refs, fun s w' hs' hb' => rightRefs_any s w' hs' ((ht.below hb).below hb')⟩)
  exact h.mono fun e w' ⟨he, hb'⟩ => ⟨he, hb.trans (hb'.mono hb.size)⟩

set_option maxHeartbeats 1000000 in
theorem litValue_any (l : List UInt8) (A : Option Addr) (n c : Nat) (k : Int) (w : World)
    (hn : l.length = n) (hnc : n ≤ c) (hm : c ≤ 9223372036854775807) (hk : I64 k) (hn9 : n ≤ 1000000) (hs : Sees w A (vB l)) (ht : TabC w) :
    Calls Tryd.prog 145 #[.slice A n c, .int .i64 k] w fun e w' => e = .returned (trV (strT 60 l k)) ∧ Below w.heap.size w w' := by
  have H := checked_val 60 l A n c k w hn hnc hm hk hn9 hs ht
  have HW := Lib.hid (without_any 60 w)
  obtain ⟨s, y, e0, hv⟩ := strT_tup 60 l k
  rw [hv] at H ⊢
  have HH := Lib.hid H
  clear H hv hs ht hn
  go_enter Tryd.func145, Tryd.ntmps145
  go_wp2_with fail
  refine HW.out.mono ?_
  rintro e w1 ⟨rfl, rfl⟩
  go_wp2_with fail
  refine HH.out.mono ?_
  rintro e w1 ⟨rfl, hb⟩
  go_wp2_with fail
  go_ret3
  exact ⟨rfl, hb⟩

end Go.Proofs.YtdmfladcldkmeaaDoor
namespace Go.Proofs.YtdmfladcldkmeaaDoor
open Go.ChangeShapes Go.WideShapes Go.ChangeAt Go.RowKit
set_option linter.unusedVariables false
set_option maxRecDepth 100000

/-- Stands a text at a place? -/
def atB (l : List UInt8) (k : Int) (m : List UInt8) : Bool := decide (0 ≤ k) && ((l.drop k.toNat).take m.length == m)
theorem atB_fit {l m : List UInt8} {k : Nat} (h : atB l (k : Int) m = true) (hm : m ≠ []) : k + m.length ≤ l.length := by
  unfold atB at h
  rw [Bool.and_eq_true, beq_iff_eq, Int.toNat_natCast] at h
  have h2 := congrArg List.length h.2
  rw [List.length_take, List.length_drop] at h2
  have := List.length_pos_iff.2 hm
  omega
set_option maxHeartbeats 1000000 in
theorem rat_any (l m : List UInt8) (A : Option Addr) (n c : Nat) (k : Int) (w : World) (hn : l.length = n) (hnc : n ≤ c) (hm : c ≤ 9223372036854775807) (hn9 : n ≤ 1000000) (hk : I64 k) (hm0 : m ≠ []) (hm9 : m.length ≤ 1000000) (hs : Sees w A (vB l)) :
    Calls Tryd.prog 74 #[.slice A n c, .int .i64 k, strV m] w fun e w' => e = .returned (.bool (atB l k m)) ∧ w = w' := by
  have hkl := hk.1
  have hkh := hk.2
  have hml := List.length_pos_iff.2 hm0
  have HSM := str_size m
  by_cases hneg : k < 0
  · have hf : atB l k m = false := by unfold atB; rw [decide_eq_false (by omega)]; rfl
    rw [hf]
    go_enter Tryd.func74, Tryd.ntmps74
    go_wp2_with fail
    go_ret
    exact ⟨rfl, rfl⟩
  · obtain ⟨j, rfl⟩ : ∃ j : Nat, k = j := ⟨k.toNat, by omega⟩
    by_cases hfit : j + m.length ≤ n
    · obtain ⟨ad, rfl, _⟩ := hs.byte (k := j) (by omega)
      have hcj : ¬ c = j := by omega
      have hp : Sees w (some (ad.add j)) (vB ((l.drop j).take m.length)) := by
        have h1 := hs.drop (k := j) (cap := c) (by rw [vB_len]; omega)
        rw [if_neg hcj, ← vB_drop] at h1
        rw [vB_take]
        exact h1.take _
      have hv : atB l (j : Int) m = ((l.drop j).take m.length == m) := by unfold atB; rw [decide_eq_true (by omega), Int.toNat_natCast]; rfl
      rw [hv]
      obtain ⟨T, hT⟩ : ∃ T, (l.drop j).take m.length = T := ⟨_, rfl⟩
      rw [hT] at hp ⊢
      have hTl : T.length = m.length := by rw [← hT, List.length_take, List.length_drop]; omega
      have kc := conv_sees w (some (ad.add j)) m.length (c - j) T hTl hp
      have t1 : decide ((m.length : Int) ≤ (n : Int) - (j : Int)) = true := by simp; omega
      clear hs hp hT hn hv hm0
      go_enter Tryd.func74, Tryd.ntmps74
      go_wp2_with fail
      go_ret
      exact ⟨rfl, rfl⟩
    · have hf : atB l (j : Int) m = false := by
        cases h : atB l (j : Int) m with
        | false => rfl
        | true => exact absurd (atB_fit h hm0) (by omega)
      have t1 : decide ((m.length : Int) ≤ (n : Int) - (j : Int)) = false := by simp; omega
      rw [hf]
      clear hs hf hn hm0
      go_enter Tryd.func74, Tryd.ntmps74
      go_wp2_with fail
      go_ret
      exact ⟨rfl, rfl⟩
end Go.Proofs.YtdmfladcldkmeaaDoor
namespace Go.Proofs.YtdmfladcldkmeaaDoor
open Go.ChangeShapes Go.WideShapes Go.ChangeAt Go.RowKit
set_option linter.unusedVariables false
set_option maxRecDepth 100000

/-- The name at a place. -/
def nmT (l : List UInt8) (k : Int) : Trip :=
  if k < 0 ∨ (l.length : Int) < k then noT 3
  else if endN l charN l.length startN k.toNat = k.toNat then noT 7
  else if 1024 < endN l charN l.length startN k.toNat - k.toNat then noT 11
  else ((l.drop k.toNat).take (endN l charN l.length startN k.toNat - k.toNat), (endN l charN l.length startN k.toNat : Nat), 0)
theorem readV_tr (l : List UInt8) (k : Int) : readV l k startN charN = trV (nmT l k) := by
  unfold readV nmT
  split
  · rfl
  · split
    · rfl
    · split <;> rfl
theorem nmT_err (l : List UInt8) (k : Int) (h : (nmT l k).2.2 ≠ 0) : nmT l k = noT (nmT l k).2.2 := by
  unfold nmT at h ⊢
  split
  · rfl
  · next h1 =>
    rw [if_neg h1] at h
    split
    · rfl
    · next h2 =>
      rw [if_neg h2] at h
      split
      · rfl
      · next h3 => rw [if_neg h3] at h; exact absurd rfl h
theorem nmT_go {l : List UInt8} {k : Nat} (hk : k ≤ l.length) (h : (nmT l (k : Int)).2.2 = 0) : ∃ z : Nat, nmT l (k : Int) = ((l.drop k).take (z - k), (z : Int), 0) ∧ k < z ∧ z ≤ l.length ∧ z - k ≤ 1024 := by
  have hz := endN_le l charN l.length startN k hk
  unfold nmT at h ⊢
  rw [if_neg (by omega), Int.toNat_natCast] at h ⊢
  split
  · next h2 => rw [if_pos h2] at h; exact absurd h (by show (7 : Int) ≠ 0; omega)
  · next h2 =>
    rw [if_neg h2] at h
    split
    · next h3 => rw [if_pos h3] at h; exact absurd h (by show (11 : Int) ≠ 0; omega)
    · next h3 => exact ⟨_, rfl, by omega, hz.2, by omega⟩
/-- A mark, and the name behind it. -/
def begT (l : List UInt8) (k : Int) (m : List UInt8) : Trip :=
  if k < 0 ∨ (l.length : Int) < k then noT 3 else if atB l k m = false then noT 7 else nmT l (k + m.length)
theorem trV_tup (x : Trip) : ∃ s y e, trV x = .tuple #[.string s, .int .i64 y, .int .i64 e] := ⟨_, _, _, rfl⟩

set_option maxHeartbeats 2000000 in
theorem begin_any (l m : List UInt8) (A : Option Addr) (n c : Nat) (k : Int) (w : World) (hn : l.length = n) (hnc : n ≤ c) (hm : c ≤ 9223372036854775807) (hn9 : n ≤ 1000000) (hk : I64 k) (hm0 : m ≠ []) (hm9 : m.length ≤ 1000) (hs : Sees w A (vB l)) (ht : TabN w) :
    Calls Tryd.prog 63 #[.slice A n c, .int .i64 k, strV m] w fun e w' => e = .returned (trV (begT l k m)) ∧ Below w.heap.size w w' := by
  have hkl := hk.1
  have hkh := hk.2
  have hml := List.length_pos_iff.2 hm0
  have HSM := str_size m
  unfold begT
  rw [hn]
  by_cases hout : k < 0 ∨ (n : Int) < k
  · rw [if_pos hout, trV_no]
    clear hm0
    rcases hout with h0 | h0
    all_goals
      go_enter Tryd.func63, Tryd.ntmps63
      go_wp2_with fail
      go_ret3
      exact ⟨rfl, Below.refl _ _⟩
  · obtain ⟨j, rfl⟩ : ∃ j : Nat, k = j := ⟨k.toNat, by omega⟩
    rw [if_neg hout]
    have hj : j ≤ n := by omega
    obtain ⟨B, cap, W1, hrun, hc1, hc2, hb1, hBl, hBw, hs1⟩ := bytes_made m w (by omega)
    have hsW := hs.below hb1
    have htW := ht.below hb1
    by_cases hjn : j = n
    · have hf : atB l (j : Int) m = false := by
        cases h : atB l (j : Int) m with
        | false => rfl
        | true => exact absurd (atB_fit h hm0) (by omega)
      have hp0 : (([] : List UInt8).take m.length == m) = false := by rw [List.take_nil, beq_eq_false_iff_ne]; exact fun e => hm0 e.symm
      have H0 := Lib.hid (fun (A' : Option Addr) (c' : Nat) => hp0 ▸ hasPre_any [] m A' (some ⟨B, 0, none⟩) 0 m.length c' cap W1 rfl (by omega) (by omega) rfl hml (by omega) (sees_nil _ _) hs1)
      rw [if_pos hf, trV_no]
      clear hs hsW hs1 hf hp0 hm0 hn
      subst hjn
      by_cases hcj : c = j
      all_goals
        go_enter Tryd.func63, Tryd.ntmps63
        go_wp2_with fail
        refine (H0.out _ _).mono ?_
        rintro e w1 ⟨rfl, rfl⟩
        go_wp2_with fail
        go_ret3
        exact ⟨rfl, hb1⟩
    · obtain ⟨ad, rfl, _⟩ := hs.byte (k := j) (by omega)
      have hcj : ¬ c = j := by omega
      have hsd : Sees W1 (some (ad.add j)) (vB (l.drop j)) := by
        have h1 := hsW.drop (k := j) (cap := c) (by rw [vB_len]; omega)
        rw [if_neg hcj, ← vB_drop] at h1
        exact h1
      have hp := hasPre_any (l.drop j) m (some (ad.add j)) (some ⟨B, 0, none⟩) (n - j) m.length (c - j) cap W1 (by rw [List.length_drop, hn]) (by omega) (by omega) rfl hml (by omega) hsd hs1
      have hv : atB l (j : Int) m = ((l.drop j).take m.length == m) := by unfold atB; rw [decide_eq_true (by omega), Int.toNat_natCast]; rfl
      have HN := name_any l (some ad) n c ((j : Int) + (m.length : Int)) W1 hn hnc hm ⟨by omega, by omega⟩ hsW htW
      rw [readV_tr] at HN
      cases hq : atB l (j : Int) m with
      | false =>
        rw [← hv, hq] at hp
        have HP := Lib.hid hp
        rw [if_pos rfl, trV_no]
        clear hs hsW hs1 hsd hp hv HN hq hm0 hn
        go_enter Tryd.func63, Tryd.ntmps63
        go_wp2_with fail
        refine HP.out.mono ?_
        rintro e w1 ⟨rfl, rfl⟩
        go_wp2_with fail
        go_ret3
        exact ⟨rfl, hb1⟩
      | true =>
        rw [← hv, hq] at hp
        have HP := Lib.hid hp
        rw [if_neg (by simp)]
        obtain ⟨s, y, e0, htu⟩ := trV_tup (nmT l ((j : Int) + (m.length : Int)))
        rw [htu] at HN ⊢
        have HNN := Lib.hid HN
        clear hs hsW hs1 hsd hp hv HN hq hm0 hn htu
        go_enter Tryd.func63, Tryd.ntmps63
        go_wp2_with fail
        refine HP.out.mono ?_
        rintro e w1 ⟨rfl, rfl⟩
        go_wp2_with fail
        refine HNN.out.mono ?_
        rintro e w1 ⟨rfl, hb2⟩
        go_wp2_with fail
        go_ret3
        exact ⟨rfl, hb1.trans (hb2.mono hb1.size)⟩
end Go.Proofs.YtdmfladcldkmeaaDoor
