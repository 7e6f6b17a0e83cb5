/- References: Entity and Param; which names are always known, by the document. Escaped texts: what stands at the place to which a byte comes. References: Char, by the document. Texts between quotes, and the references of a text: what is read (pure). Contracts of package bytes over any bytes: IndexByte, Count of one byte, LastIndexByte, Clone. -/
import Derived.Lib.BytesEntry
import Derived.Laws.AppendOwn
import Derived.Laws.Externs
import Derived.OwnWalk
import Derived.Test.YtcpdllghlbdhiaaDoorPkaa
import Derived.Test.YtcpdllghlbdhiaaDoorPkae
import Derived.Test.YtcpdllghlbdhiaaDoorPkaf
import Derived.Test.YtcpdllghlbdhiaaDoorPkag
namespace Go.Proofs.YtcpdllghlbdhiaaDoor
open Go.ChangeShapes Go.WideShapes Go.ChangeAt Go.RowKit
set_option linter.unusedVariables false
set_option maxRecDepth 100000

theorem entV_tup (l : List UInt8) (k : Int) (mark : Nat) : ∃ s z e, entV l k mark = .tuple #[.string s, .int .i64 z, .int .i64 e] := by
  unfold entV noV
  split
  · exact ⟨_, _, _, rfl⟩
  · split
    · exact ⟨_, _, _, rfl⟩
    · split
      · exact ⟨_, _, _, rfl⟩
      · split
        · exact ⟨_, _, _, rfl⟩
        · split <;> exact ⟨_, _, _, rfl⟩

set_option maxHeartbeats 1000000 in
theorem entity_any (l : List UInt8) (A : Option Addr) (n c : Nat) (k : Int) (w : World)
    (hn : l.length = n) (hnc : n ≤ c) (hm : c ≤ 9223372036854775807) (hk : I64 k) (hn9 : n ≤ 1000000) (hs : Sees w A (vB l)) (ht : TabN w) :
    Calls Tryd.prog 128 #[.slice A n c, .int .i64 k] w fun e w' => e = .returned (entV l k 38) ∧ Below w.heap.size w w' := by
  have H := cread_any l A n c k 38 w hn hnc hm hk hn9 (by omega) hs ht
  obtain ⟨x, y, z, hv⟩ := entV_tup l k 38
  rw [hv] at H ⊢
  have HH := Lib.hid H
  clear H hv
  go_enter Tryd.func128, Tryd.ntmps128
  go_wp2_with fail
  refine HH.out.mono ?_
  rintro e w1 ⟨rfl, hb⟩
  go_wp2_with fail
  go_ret3
  exact ⟨rfl, hb⟩


def knownN (l : List UInt8) : Int := if l = [108, 116] then 60 else if l = [103, 116] then 62 else if l = [97, 109, 112] then 38 else if l = [97, 112, 111, 115] then 39 else if l = [113, 117, 111, 116] then 34 else 0
end Go.Proofs.YtcpdllghlbdhiaaDoor
namespace Go.Proofs.YtcpdllghlbdhiaaDoor
open Go.ChangeShapes Go.WideShapes Go.ChangeAt Go.RowKit
set_option linter.unusedVariables false
set_option maxRecDepth 100000

/-- The place to which byte k comes. -/
def posE (s : List UInt8) (k : Nat) : Nat := (escL (s.take k)).length
theorem esc_parts (s : List UInt8) (k : Nat) (hk : k < s.length) : escL s = escL (s.take k) ++ escB (byteAt s k) ++ escL (s.drop (k + 1)) := by
  rw [← escL_snoc s k hk, ← escL_app, List.take_append_drop]
theorem pos_zero (s : List UInt8) : posE s 0 = 0 := rfl
theorem pos_end (s : List UInt8) : posE s s.length = (escL s).length := by unfold posE; rw [List.take_length]
theorem pos_succ (s : List UInt8) (k : Nat) (hk : k < s.length) : posE s (k + 1) = posE s k + (escB (byteAt s k)).length := by
  unfold posE
  rw [escL_snoc s k hk, List.length_append]
theorem pos_le (s : List UInt8) (k : Nat) (hk : k < s.length) : posE s (k + 1) ≤ (escL s).length := by
  rw [pos_succ s k hk, esc_parts s k hk]
  simp only [List.length_append]
  unfold posE
  omega

theorem at_named (s : List UInt8) (k n : Nat) (nm : List UInt8) (hk : k < s.length) (hb : byteAt s k = n) (hn : escB n = 38 :: nm ++ [59]) (h0 : nm ≠ []) (h1 : nm.length ≤ 1024)
    (hl : ∀ j, j < nm.length → 97 ≤ byteAt nm j ∧ byteAt nm j ≤ 122) :
    byteAt (escL s) (posE s k) = 38 ∧ byteAt (escL s) (posE s k + 1) ≠ 35 ∧ entV (escL s) (posE s k : Nat) 38 = .tuple #[strV nm, .int .i64 (posE s (k + 1) : Nat), .int .i64 0] ∧ chV (escL s) (posE s k : Nat) = noC 7 := by
  have hX : (38 :: nm ++ [59] : List UInt8).length = nm.length + 2 := by simp
  have hp := esc_parts s k hk
  rw [hb, hn] at hp
  have hs := pos_succ s k hk
  rw [hb, hn, hX] at hs
  have h38 : byteAt (escL s) (posE s k) = 38 := by
    have := byte_mid (escL (s.take k)) (38 :: nm ++ [59]) (escL (s.drop (k + 1))) 0 (by rw [hX]; omega)
    rw [← hp, Nat.add_zero] at this
    rw [show posE s k = (escL (s.take k)).length from rfl, this]
    rfl
  have hn0 : 0 < nm.length := List.length_pos_iff.2 h0
  have h35 : byteAt (escL s) (posE s k + 1) ≠ 35 := by
    have h2 := byte_mid (escL (s.take k)) (38 :: nm ++ [59]) (escL (s.drop (k + 1))) 1 (by rw [hX]; omega)
    rw [← hp] at h2
    rw [show posE s k = (escL (s.take k)).length from rfl, h2, byte_head _ _ _ (by simp; omega)]
    have h3 := hl 0 hn0
    have h4 : byteAt (38 :: nm) 1 = byteAt nm 0 := rfl
    rw [h4]
    omega
  have hle : posE s k ≤ (escL s).length := by have := pos_le s k hk; omega
  refine ⟨h38, h35, ?_, ch_none hle (.inr h35)⟩
  have := ent_mid (escL (s.take k)) (escL (s.drop (k + 1))) nm h0 h1 hl
  rw [← hp] at this
  rw [hs]
  exact this

theorem at_num (s : List UInt8) (k n : Nat) (ds : List UInt8) (hk : k < s.length) (hb : byteAt s k = n) (hn : escB n = 38 :: 35 :: ds ++ [59]) (h0 : ds ≠ [])
    (hl : ∀ j, j < ds.length → 48 ≤ byteAt ds j ∧ byteAt ds j ≤ 57) (hd : dec10 ds 0 = n) (hc : hasT charT (n : Int) = true) :
    byteAt (escL s) (posE s k) = 38 ∧ byteAt (escL s) (posE s k + 1) = 35 ∧ chV (escL s) (posE s k : Nat) = .tuple #[.int .i64 (n : Nat), .int .i64 (posE s (k + 1) : Nat), .int .i64 0] ∧ entV (escL s) (posE s k : Nat) 38 = noV 7 := by
  have hX : (38 :: 35 :: ds ++ [59] : List UInt8).length = ds.length + 3 := by simp
  have hp := esc_parts s k hk
  rw [hb, hn] at hp
  have hs := pos_succ s k hk
  rw [hb, hn, hX] at hs
  have hlen := pos_le s k hk
  have h38 : byteAt (escL s) (posE s k) = 38 := by
    have := byte_mid (escL (s.take k)) (38 :: 35 :: ds ++ [59]) (escL (s.drop (k + 1))) 0 (by rw [hX]; omega)
    rw [← hp, Nat.add_zero] at this
    rw [show posE s k = (escL (s.take k)).length from rfl, this]
    rfl
  have h35 : byteAt (escL s) (posE s k + 1) = 35 := by
    have := byte_mid (escL (s.take k)) (38 :: 35 :: ds ++ [59]) (escL (s.drop (k + 1))) 1 (by rw [hX]; omega)
    rw [← hp] at this
    rw [show posE s k = (escL (s.take k)).length from rfl, this]
    rfl
  refine ⟨h38, h35, ?_, ent_num (by omega) h38 h35⟩
  have := ch_mid (escL (s.take k)) (escL (s.drop (k + 1))) ds h0 hl (by rw [hd]; exact hc)
  rw [← hp, hd] at this
  rw [hs]
  exact this

theorem at_plain (s : List UInt8) (k n : Nat) (hk : k < s.length) (hb : byteAt s k = n) (hn : escB n = [UInt8.ofNat n]) (h38 : n ≠ 38) :
    byteAt (escL s) (posE s k) = n ∧ posE s (k + 1) = posE s k + 1 ∧ chV (escL s) (posE s k : Nat) = noC 7 ∧ entV (escL s) (posE s k : Nat) 38 = noV 7 := by
  have hp := esc_parts s k hk
  rw [hb, hn] at hp
  have hs := pos_succ s k hk
  rw [hb, hn] at hs
  have hn9 : n < 256 := hb ▸ byteAt_lt s k
  have hle := pos_le s k hk
  have h1 : byteAt (escL s) (posE s k) = n := by
    have := byte_mid (escL (s.take k)) [UInt8.ofNat n] (escL (s.drop (k + 1))) 0 (by simp)
    rw [← hp, Nat.add_zero] at this
    rw [show posE s k = (escL (s.take k)).length from rfl, this]
    show (UInt8.ofNat n).toNat = n
    simp
    omega
  exact ⟨h1, hs, ch_none (by omega) (.inl (by rw [h1]; exact h38)), ent_none (by omega) (by rw [h1]; exact h38)⟩

/-- What stands where a byte has come to: an entity that is always known, a number, or the byte. -/
theorem esc_at (s : List UInt8) (k : Nat) (hk : k < s.length) :
    (byteAt (escL s) (posE s k) = 38 ∧ byteAt (escL s) (posE s k + 1) ≠ 35 ∧ chV (escL s) (posE s k : Nat) = noC 7 ∧
      ∃ nm, entV (escL s) (posE s k : Nat) 38 = .tuple #[strV nm, .int .i64 (posE s (k + 1) : Nat), .int .i64 0] ∧ knownN nm = (byteAt s k : Int)) ∨
    (byteAt (escL s) (posE s k) = 38 ∧ byteAt (escL s) (posE s k + 1) = 35 ∧ entV (escL s) (posE s k : Nat) 38 = noV 7 ∧
      chV (escL s) (posE s k : Nat) = .tuple #[.int .i64 (byteAt s k : Nat), .int .i64 (posE s (k + 1) : Nat), .int .i64 0]) ∨
    (byteAt (escL s) (posE s k) = byteAt s k ∧ (byteAt s k ≠ 38 ∧ byteAt s k ≠ 60 ∧ byteAt s k ≠ 62 ∧ byteAt s k ≠ 34 ∧ byteAt s k ≠ 13 ∧ byteAt s k ≠ 10 ∧ byteAt s k ≠ 9) ∧ posE s (k + 1) = posE s k + 1 ∧
      chV (escL s) (posE s k : Nat) = noC 7 ∧ entV (escL s) (posE s k : Nat) 38 = noV 7) := by
  by_cases h38 : byteAt s k = 38
  · obtain ⟨h1, h2, h3, h4⟩ := at_named s k 38 [97, 109, 112] hk h38 rfl (by simp) (by simp) (by decide)
    exact .inl ⟨h1, h2, h4, _, h3, by rw [h38]; kernel_rfl⟩
  by_cases h60 : byteAt s k = 60
  · obtain ⟨h1, h2, h3, h4⟩ := at_named s k 60 [108, 116] hk h60 rfl (by simp) (by simp) (by decide)
    exact .inl ⟨h1, h2, h4, _, h3, by rw [h60]; kernel_rfl⟩
  by_cases h62 : byteAt s k = 62
  · obtain ⟨h1, h2, h3, h4⟩ := at_named s k 62 [103, 116] hk h62 rfl (by simp) (by simp) (by decide)
    exact .inl ⟨h1, h2, h4, _, h3, by rw [h62]; kernel_rfl⟩
  by_cases h34 : byteAt s k = 34
  · obtain ⟨h1, h2, h3, h4⟩ := at_named s k 34 [113, 117, 111, 116] hk h34 rfl (by simp) (by simp) (by decide)
    exact .inl ⟨h1, h2, h4, _, h3, by rw [h34]; kernel_rfl⟩
  by_cases h13 : byteAt s k = 13
  · obtain ⟨h1, h2, h3, h4⟩ := at_num s k 13 [49, 51] hk h13 rfl (by simp) (by decide) rfl (by kernel_rfl)
    exact .inr (.inl ⟨h1, h2, h4, by rw [h13]; exact h3⟩)
  by_cases h10 : byteAt s k = 10
  · obtain ⟨h1, h2, h3, h4⟩ := at_num s k 10 [49, 48] hk h10 rfl (by simp) (by decide) rfl (by kernel_rfl)
    exact .inr (.inl ⟨h1, h2, h4, by rw [h10]; exact h3⟩)
  by_cases h9 : byteAt s k = 9
  · obtain ⟨h1, h2, h3, h4⟩ := at_num s k 9 [57] hk h9 rfl (by simp) (by decide) rfl (by kernel_rfl)
    exact .inr (.inl ⟨h1, h2, h4, by rw [h9]; exact h3⟩)
  obtain ⟨h1, h2, h3, h4⟩ := at_plain s k _ hk rfl (by unfold escB; rw [if_neg h38, if_neg h60, if_neg h62, if_neg h34, if_neg h13, if_neg h10, if_neg h9]) h38
  exact .inr (.inr ⟨h1, ⟨h38, h60, h62, h34, h13, h10, h9⟩, h2, h3, h4⟩)
end Go.Proofs.YtcpdllghlbdhiaaDoor
namespace Go.Proofs.YtcpdllghlbdhiaaDoor
open Go.ChangeShapes Go.WideShapes Go.ChangeAt Go.RowKit
set_option linter.unusedVariables false
set_option maxRecDepth 100000

theorem cap10d {T x d : Nat} (h : x = min T 2000000) : min (x * 10 + d) 2000000 = min (T * 10 + d) 2000000 := cap10 _ h
theorem cap16d {T x d : Nat} (h : x = min T 2000000) : min (x * 16 + d) 2000000 = min (T * 16 + d) 2000000 := cap16 _ h
theorem add1_at (ad : Addr) (j : Nat) : ad.add (j + 1) = { block := ad.block, off := ad.off + (j + 1) } := by unfold Addr.add; rw [if_neg (by omega)]
theorem add2_at (ad : Addr) (j : Nat) : ad.add (j + 2) = { block := ad.block, off := ad.off + (j + 1 + 1) } := by unfold Addr.add; rw [if_neg (by omega)]

set_option maxHeartbeats 4000000 in
theorem rchar_16 (l : List UInt8) (ad : Addr) (n c j : Nat) (w : World)
    (HN : Hid (l.length = n)) (hnc : n ≤ c) (hm : c ≤ 9223372036854775807) (hn9 : n ≤ 1000000) (HS : Hid (Sees w (some ad) (vB l))) (hj3 : j + 2 < n)
    (h0 : w.cell? (ad.add j) = some (.int .u8 38)) (h1 : w.cell? { block := ad.block, off := ad.off + (j + 1) } = some (.int .u8 35))
    (b2 : Nat) (hb2l : b2 < 256) (h2 : w.cell? { block := ad.block, off := ad.off + (j + 1 + 1) } = some (.int .u8 b2)) (hx : b2 = 120) :
    Calls Tryd.prog 125 #[.slice (some ad) n c, .int .i64 (j : Int)] w fun e w' => e = .returned (crefD l 16 (j + 3)) ∧ w = w' := by
  have t1 : ((b2 : Int) == 120) = true := by simp; omega
  have t0 : decide ((n : Int) - (j : Int) < 3) = false := by simp; omega
  have HA1 := Lib.hid (add1_at ad j)
  have HA2 := Lib.hid (add2_at ad j)
  obtain ⟨V, hV⟩ : ∃ V, crefD l 16 (j + 3) = V := ⟨_, rfl⟩
  rw [hV]
  have HV := Lib.hid hV
  clear hV hx
  have hz0 : Hid (digZ l 16 n (j + 3) = digZ l 16 l.length (j + 3)) := by unfold Hid; rw [HN.out]
  have ht0 : Hid (digT l 16 n (j + 3) 0 = digT l 16 l.length (j + 3) 0) := by unfold Hid; rw [HN.out]
  go_enter Tryd.func125, Tryd.ntmps125
  go_wp2_with fail
  try rw [HA1.out]
  try rw [HA2.out]
  have d2 : decide (n < j) = false := by simp; omega
  simp only [d2, Bool.or_false]
  clear d2
  go_loop [9, 10] (fun r p => DigRel l 16 n (j + 3) 2000000 r p) (fun _ p => n - (intOf p).toNat)
  case atStart => exact digRel_mk (j + 3) n 0 0 (by omega) (Nat.le_refl _) (by omega) rfl (by omega) hz0.out ht0.out (by simp)
  case round =>
    obtain ⟨kk, f, T, x, hnf, hks, hkn, hx9, rfl, rfl, hZ, hTT, hX⟩ := hrel
    have HZ := Lib.hid hZ
    have HTT := Lib.hid hTT
    have HX := Lib.hid hX
    clear hZ hTT hX
    by_cases hlt : kk < n
    · obtain ⟨ad3, e3, hcell4⟩ := HS.out.byte (k := kk) (by rw [HN.out]; exact hlt)
      injection e3 with e3
      subst e3
      obtain ⟨b, hb⟩ : ∃ b, byteAt l kk = b := ⟨_, rfl⟩
      have hb256 := byteAt_lt l kk
      rw [hb] at hcell4 hb256
      obtain ⟨d, hd⟩ : ∃ d, digN (b : Int) 16 = d := ⟨_, rfl⟩
      have hdl : d < 16 := hd ▸ digN_le b 16 (by omega)
      have HD := Lib.hid (fun w => hd ▸ rdigit_any (b : Int) 16 w)
      have HBB := Lib.hid hb
      have HDD := Lib.hid hd
      clear hb hd
      by_cases hneg : d < 0
      · have hz1 := HZ.out
        have ht1 := HTT.out
        rw [digZ_out f kk (.inr (by rw [HBB.out, HDD.out]; exact hneg))] at hz1
        rw [digT_out f kk T (.inr (by rw [HBB.out, HDD.out]; exact hneg))] at ht1
        have Hz := Lib.hid hz1
        have Ht := Lib.hid ht1
        clear hz1 ht1
        by_cases hfirst : kk = j + 3
        · have HE := Lib.hid (crefD_7 Hz.out (.inl hfirst))
          have t3 : ((kk : Int) == (j : Int) + 3) = true := by simp; omega
          clear hfirst
          go_wp2_with fail
          refine (HD.out _).mono ?_
          rintro e w1 ⟨rfl, rfl⟩
          go_wp2_with fail
          go_ret3
          exact ⟨ret_v (HE.out.trans HV.out), rfl⟩
        · have t3 : ((kk : Int) == (j : Int) + 3) = false := by simp; omega
          by_cases h59 : b = 59
          · have hno : ¬ (kk = j + 3 ∨ kk = l.length ∨ byteAt l kk ≠ 59) := by rw [HN.out, HBB.out]; omega
            have hcc := char_cap 2000000 (by omega) HX.out
            have HC := rchar3_any (x : Int) w
            have t2 : ((b : Int) != 59) = false := by rw [h59]; rfl
            cases hq : hasT charT (x : Int) with
            | false =>
              rw [hq] at HC hcc
              have HE := Lib.hid (crefD_6 Hz.out Ht.out hno hcc.symm)
              have HCC := Lib.hid HC
              clear hno hcc HC hq h59
              go_wp2_with fail
              refine (HD.out _).mono ?_
              rintro e w1 ⟨rfl, rfl⟩
              go_wp2_with fail
              refine HCC.out.mono ?_
              rintro e w1 ⟨rfl, rfl⟩
              go_wp2_with fail
              go_ret3
              exact ⟨ret_v (HE.out.trans HV.out), rfl⟩
            | true =>
              have hxT := char_low 2000000 (by omega) HX.out hq
              rw [hq] at HC hcc
              have HE := Lib.hid (crefD_ok Hz.out Ht.out hno hcc.symm)
              rw [← hxT] at HE
              have HCC := Lib.hid HC
              clear hno hcc HC hq h59 hxT
              go_wp2_with fail
              refine (HD.out _).mono ?_
              rintro e w1 ⟨rfl, rfl⟩
              go_wp2_with fail
              refine HCC.out.mono ?_
              rintro e w1 ⟨rfl, rfl⟩
              go_wp2_with fail
              go_ret3
              exact ⟨ret_v (HE.out.trans HV.out), rfl⟩
          · have HE := Lib.hid (crefD_7 Hz.out (.inr (.inr (by rw [HBB.out]; exact h59))))
            have t2 : ((b : Int) != 59) = true := by simp; omega
            clear h59
            go_wp2_with fail
            refine (HD.out _).mono ?_
            rintro e w1 ⟨rfl, rfl⟩
            go_wp2_with fail
            go_ret3
            exact ⟨ret_v (HE.out.trans HV.out), rfl⟩
      · obtain ⟨g, rfl⟩ : ∃ g, f = g + 1 := ⟨f - 1, by omega⟩
        obtain ⟨dn, rfl⟩ : ∃ dn : Nat, d = dn := ⟨d.toNat, by omega⟩
        have hz1 := HZ.out
        have ht1 := HTT.out
        rw [digZ_on g kk (by rw [HN.out]; exact hlt) (by rw [HBB.out, HDD.out]; omega)] at hz1
        rw [digT_on g kk T (by rw [HN.out]; exact hlt) (by rw [HBB.out, HDD.out]; omega), HBB.out, HDD.out, Int.toNat_natCast] at ht1
        have Hz := Lib.hid hz1
        have Ht := Lib.hid ht1
        have HXX := Lib.hid (cap16d (d := dn) HX.out)
        clear hz1 ht1
        by_cases hcap : x * 16 + dn ≤ 2000000
        · go_wp2_with fail
          refine (HD.out _).mono ?_
          rintro e w1 ⟨rfl, rfl⟩
          go_wp2_with fail
          refine (HD.out _).mono ?_
          rintro e w1 ⟨rfl, rfl⟩
          go_wp2_with fail
          all_goals
            first
            | (exfalso; omega)
            | (go_round
               case rel =>
                 refine digRel_mk (kk + 1) g (T * (16 : Int).toNat + dn) (x * 16 + dn) ?_ ?_ ?_ ?_ ?_ Hz.out Ht.out ?_
                 · omega
                 · omega
                 · omega
                 · omega
                 · omega
                 · have h := HXX.out
                   simp at h ⊢
                   omega
               case measure => simp [intOf]; omega)
        · go_wp2_with fail
          refine (HD.out _).mono ?_
          rintro e w1 ⟨rfl, rfl⟩
          go_wp2_with fail
          refine (HD.out _).mono ?_
          rintro e w1 ⟨rfl, rfl⟩
          go_wp2_with fail
          all_goals
            first
            | (exfalso; omega)
            | (go_round
               case rel =>
                 refine digRel_mk (kk + 1) g (T * (16 : Int).toNat + dn) 2000000 ?_ ?_ ?_ ?_ ?_ Hz.out Ht.out ?_
                 · omega
                 · omega
                 · omega
                 · omega
                 · omega
                 · have h := HXX.out
                   simp at h ⊢
                   omega
               case measure => simp [intOf]; omega)
    · obtain rfl : kk = n := by omega
      have hz1 := HZ.out
      rw [digZ_out f kk (.inl (by rw [HN.out]; exact Nat.le_refl _))] at hz1
      have HE := Lib.hid (crefD_7 hz1 (.inr (.inl HN.out.symm)))
      clear hz1
      by_cases hfirst : kk = j + 3
      · have t3 : ((kk : Int) == (j : Int) + 3) = true := by simp; omega
        clear hfirst
        go_wp2_with fail
        go_ret3
        exact ⟨ret_v (HE.out.trans HV.out), rfl⟩
      · have t3 : ((kk : Int) == (j : Int) + 3) = false := by simp; omega
        clear hfirst
        go_wp2_with fail
        go_ret3
        exact ⟨ret_v (HE.out.trans HV.out), rfl⟩

set_option maxHeartbeats 4000000 in
theorem rchar_10 (l : List UInt8) (ad : Addr) (n c j : Nat) (w : World)
    (HN : Hid (l.length = n)) (hnc : n ≤ c) (hm : c ≤ 9223372036854775807) (hn9 : n ≤ 1000000) (HS : Hid (Sees w (some ad) (vB l))) (hj3 : j + 2 < n)
    (h0 : w.cell? (ad.add j) = some (.int .u8 38)) (h1 : w.cell? { block := ad.block, off := ad.off + (j + 1) } = some (.int .u8 35))
    (b2 : Nat) (hb2l : b2 < 256) (h2 : w.cell? { block := ad.block, off := ad.off + (j + 1 + 1) } = some (.int .u8 b2)) (hx : ¬ b2 = 120) :
    Calls Tryd.prog 125 #[.slice (some ad) n c, .int .i64 (j : Int)] w fun e w' => e = .returned (crefD l 10 (j + 2)) ∧ w = w' := by
  have t1 : ((b2 : Int) == 120) = false := by simp; omega
  have t0 : decide ((n : Int) - (j : Int) < 3) = false := by simp; omega
  have HA1 := Lib.hid (add1_at ad j)
  have HA2 := Lib.hid (add2_at ad j)
  obtain ⟨V, hV⟩ : ∃ V, crefD l 10 (j + 2) = V := ⟨_, rfl⟩
  rw [hV]
  have HV := Lib.hid hV
  clear hV hx
  have hz0 : Hid (digZ l 10 n (j + 2) = digZ l 10 l.length (j + 2)) := by unfold Hid; rw [HN.out]
  have ht0 : Hid (digT l 10 n (j + 2) 0 = digT l 10 l.length (j + 2) 0) := by unfold Hid; rw [HN.out]
  go_enter Tryd.func125, Tryd.ntmps125
  go_wp2_with fail
  try rw [HA1.out]
  try rw [HA2.out]
  have d2 : decide (n < j) = false := by simp; omega
  simp only [d2, Bool.or_false]
  clear d2
  go_loop [9, 10] (fun r p => DigRel l 10 n (j + 2) 2000000 r p) (fun _ p => n - (intOf p).toNat)
  case atStart => exact digRel_mk (j + 2) n 0 0 (by omega) (Nat.le_refl _) (by omega) rfl (by omega) hz0.out ht0.out (by simp)
  case round =>
    obtain ⟨kk, f, T, x, hnf, hks, hkn, hx9, rfl, rfl, hZ, hTT, hX⟩ := hrel
    have HZ := Lib.hid hZ
    have HTT := Lib.hid hTT
    have HX := Lib.hid hX
    clear hZ hTT hX
    by_cases hlt : kk < n
    · obtain ⟨ad3, e3, hcell4⟩ := HS.out.byte (k := kk) (by rw [HN.out]; exact hlt)
      injection e3 with e3
      subst e3
      obtain ⟨b, hb⟩ : ∃ b, byteAt l kk = b := ⟨_, rfl⟩
      have hb256 := byteAt_lt l kk
      rw [hb] at hcell4 hb256
      obtain ⟨d, hd⟩ : ∃ d, digN (b : Int) 10 = d := ⟨_, rfl⟩
      have hdl : d < 10 := hd ▸ digN_le b 10 (by omega)
      have HD := Lib.hid (fun w => hd ▸ rdigit_any (b : Int) 10 w)
      have HBB := Lib.hid hb
      have HDD := Lib.hid hd
      clear hb hd
      by_cases hneg : d < 0
      · have hz1 := HZ.out
        have ht1 := HTT.out
        rw [digZ_out f kk (.inr (by rw [HBB.out, HDD.out]; exact hneg))] at hz1
        rw [digT_out f kk T (.inr (by rw [HBB.out, HDD.out]; exact hneg))] at ht1
        have Hz := Lib.hid hz1
        have Ht := Lib.hid ht1
        clear hz1 ht1
        by_cases hfirst : kk = j + 2
        · have HE := Lib.hid (crefD_7 Hz.out (.inl hfirst))
          have t3 : ((kk : Int) == (j : Int) + 2) = true := by simp; omega
          clear hfirst
          go_wp2_with fail
          refine (HD.out _).mono ?_
          rintro e w1 ⟨rfl, rfl⟩
          go_wp2_with fail
          go_ret3
          exact ⟨ret_v (HE.out.trans HV.out), rfl⟩
        · have t3 : ((kk : Int) == (j : Int) + 2) = false := by simp; omega
          by_cases h59 : b = 59
          · have hno : ¬ (kk = j + 2 ∨ kk = l.length ∨ byteAt l kk ≠ 59) := by rw [HN.out, HBB.out]; omega
            have hcc := char_cap 2000000 (by omega) HX.out
            have HC := rchar3_any (x : Int) w
            have t2 : ((b : Int) != 59) = false := by rw [h59]; rfl
            cases hq : hasT charT (x : Int) with
            | false =>
              rw [hq] at HC hcc
              have HE := Lib.hid (crefD_6 Hz.out Ht.out hno hcc.symm)
              have HCC := Lib.hid HC
              clear hno hcc HC hq h59
              go_wp2_with fail
              refine (HD.out _).mono ?_
              rintro e w1 ⟨rfl, rfl⟩
              go_wp2_with fail
              refine HCC.out.mono ?_
              rintro e w1 ⟨rfl, rfl⟩
              go_wp2_with fail
              go_ret3
              exact ⟨ret_v (HE.out.trans HV.out), rfl⟩
            | true =>
              have hxT := char_low 2000000 (by omega) HX.out hq
              rw [hq] at HC hcc
              have HE := Lib.hid (crefD_ok Hz.out Ht.out hno hcc.symm)
              rw [← hxT] at HE
              have HCC := Lib.hid HC
              clear hno hcc HC hq h59 hxT
              go_wp2_with fail
              refine (HD.out _).mono ?_
              rintro e w1 ⟨rfl, rfl⟩
              go_wp2_with fail
              refine HCC.out.mono ?_
              rintro e w1 ⟨rfl, rfl⟩
              go_wp2_with fail
              go_ret3
              exact ⟨ret_v (HE.out.trans HV.out), rfl⟩
          · have HE := Lib.hid (crefD_7 Hz.out (.inr (.inr (by rw [HBB.out]; exact h59))))
            have t2 : ((b : Int) != 59) = true := by simp; omega
            clear h59
            go_wp2_with fail
            refine (HD.out _).mono ?_
            rintro e w1 ⟨rfl, rfl⟩
            go_wp2_with fail
            go_ret3
            exact ⟨ret_v (HE.out.trans HV.out), rfl⟩
      · obtain ⟨g, rfl⟩ : ∃ g, f = g + 1 := ⟨f - 1, by omega⟩
        obtain ⟨dn, rfl⟩ : ∃ dn : Nat, d = dn := ⟨d.toNat, by omega⟩
        have hz1 := HZ.out
        have ht1 := HTT.out
        rw [digZ_on g kk (by rw [HN.out]; exact hlt) (by rw [HBB.out, HDD.out]; omega)] at hz1
        rw [digT_on g kk T (by rw [HN.out]; exact hlt) (by rw [HBB.out, HDD.out]; omega), HBB.out, HDD.out, Int.toNat_natCast] at ht1
        have Hz := Lib.hid hz1
        have Ht := Lib.hid ht1
        have HXX := Lib.hid (cap10d (d := dn) HX.out)
        clear hz1 ht1
        by_cases hcap : x * 10 + dn ≤ 2000000
        · go_wp2_with fail
          refine (HD.out _).mono ?_
          rintro e w1 ⟨rfl, rfl⟩
          go_wp2_with fail
          refine (HD.out _).mono ?_
          rintro e w1 ⟨rfl, rfl⟩
          go_wp2_with fail
          all_goals
            first
            | (exfalso; omega)
            | (go_round
               case rel =>
                 refine digRel_mk (kk + 1) g (T * (10 : Int).toNat + dn) (x * 10 + dn) ?_ ?_ ?_ ?_ ?_ Hz.out Ht.out ?_
                 · omega
                 · omega
                 · omega
                 · omega
                 · omega
                 · have h := HXX.out
                   simp at h ⊢
                   omega
               case measure => simp [intOf]; omega)
        · go_wp2_with fail
          refine (HD.out _).mono ?_
          rintro e w1 ⟨rfl, rfl⟩
          go_wp2_with fail
          refine (HD.out _).mono ?_
          rintro e w1 ⟨rfl, rfl⟩
          go_wp2_with fail
          all_goals
            first
            | (exfalso; omega)
            | (go_round
               case rel =>
                 refine digRel_mk (kk + 1) g (T * (10 : Int).toNat + dn) 2000000 ?_ ?_ ?_ ?_ ?_ Hz.out Ht.out ?_
                 · omega
                 · omega
                 · omega
                 · omega
                 · omega
                 · have h := HXX.out
                   simp at h ⊢
                   omega
               case measure => simp [intOf]; omega)
    · obtain rfl : kk = n := by omega
      have hz1 := HZ.out
      rw [digZ_out f kk (.inl (by rw [HN.out]; exact Nat.le_refl _))] at hz1
      have HE := Lib.hid (crefD_7 hz1 (.inr (.inl HN.out.symm)))
      clear hz1
      by_cases hfirst : kk = j + 2
      · have t3 : ((kk : Int) == (j : Int) + 2) = true := by simp; omega
        clear hfirst
        go_wp2_with fail
        go_ret3
        exact ⟨ret_v (HE.out.trans HV.out), rfl⟩
      · have t3 : ((kk : Int) == (j : Int) + 2) = false := by simp; omega
        clear hfirst
        go_wp2_with fail
        go_ret3
        exact ⟨ret_v (HE.out.trans HV.out), rfl⟩

set_option maxHeartbeats 4000000 in
theorem rchar6_any (l : List UInt8) (A : Option Addr) (n c : Nat) (k : Int) (w : World)
    (hn : l.length = n) (hnc : n ≤ c) (hm : c ≤ 9223372036854775807) (hk : I64 k) (hn9 : n ≤ 1000000) (hs : Sees w A (vB l)) :
    Calls Tryd.prog 125 #[.slice A n c, .int .i64 k] w fun e w' => e = .returned (chV l k) ∧ w = w' := by
  have hkl := hk.1
  have hkh := hk.2
  by_cases hout : k < 0 ∨ (n : Int) < k
  · have hv : chV l k = noC 3 := by rw [chV, if_pos (by rw [hn]; exact hout)]
    rw [hv]
    clear hv
    unfold noC
    rcases hout with h0 | h0
    all_goals
      go_enter Tryd.func125, Tryd.ntmps125
      go_wp2_with fail
      go_ret3
      exact ⟨rfl, rfl⟩
  · obtain ⟨j, rfl⟩ : ∃ j : Nat, k = j := ⟨k.toNat, by omega⟩
    have hj : j ≤ n := by omega
    by_cases hshort : n < j + 3
    · have hv : chV l j = noC 7 := by rw [chV, if_neg (by omega), Int.toNat_natCast, if_pos (.inl (by omega))]
      have t0 : decide ((n : Int) - (j : Int) < 3) = true := by simp; omega
      rw [hv]
      clear hv hs hn
      unfold noC
      go_enter Tryd.func125, Tryd.ntmps125
      go_wp2_with fail
      go_ret3
      exact ⟨rfl, rfl⟩
    · have t0 : decide ((n : Int) - (j : Int) < 3) = false := by simp; omega
      have hjl : j < n := by omega
      obtain ⟨ad, rfl, h0⟩ := hs.byte (k := j) (by omega)
      obtain ⟨ad1, e1, h1⟩ := hs.byte (k := j + 1) (by omega)
      injection e1 with e1
      subst e1
      obtain ⟨ad2, e2, h2⟩ := hs.byte (k := j + 2) (by omega)
      injection e2 with e2
      subst e2
      rw [add1_at] at h1
      rw [add2_at] at h2
      obtain ⟨b0, hb0⟩ : ∃ b0, byteAt l j = b0 := ⟨_, rfl⟩
      obtain ⟨b1, hb1⟩ : ∃ b1, byteAt l (j + 1) = b1 := ⟨_, rfl⟩
      obtain ⟨b2, hb2⟩ : ∃ b2, byteAt l (j + 2) = b2 := ⟨_, rfl⟩
      have g0 := byteAt_lt l j
      have g1 := byteAt_lt l (j + 1)
      have g2 := byteAt_lt l (j + 2)
      rw [hb0] at h0 g0
      rw [hb1] at h1 g1
      rw [hb2] at h2 g2
      have hv : chV l j = if b0 ≠ 38 ∨ b1 ≠ 35 then noC 7 else if b2 = 120 then crefD l 16 (j + 3) else crefD l 10 (j + 2) := by
        rw [chV, if_neg (by omega), Int.toNat_natCast, hb0, hb1, hb2]
        by_cases hh : b0 ≠ 38 ∨ b1 ≠ 35
        · rw [if_pos (.inr hh), if_pos hh]
        · rw [if_neg (by omega), if_neg hh]
      rw [hv]
      clear hv hb0 hb1 hb2
      by_cases q0 : b0 = 38
      · by_cases q1 : b1 = 35
        · subst q0 q1
          rw [if_neg (by omega)]
          have HN := Lib.hid hn
          have HS := Lib.hid hs
          by_cases q2 : b2 = 120
          · rw [if_pos q2]
            exact rchar_16 l ad n c j w HN hnc hm hn9 HS (by omega) h0 h1 b2 g2 h2 q2
          · rw [if_neg q2]
            exact rchar_10 l ad n c j w HN hnc hm hn9 HS (by omega) h0 h1 b2 g2 h2 q2
        · rw [if_pos (.inr q1)]
          subst q0
          have t1 : ((b1 : Int) != 35) = true := by simp; omega
          clear hs hn q1
          unfold noC
          go_enter Tryd.func125, Tryd.ntmps125
          go_wp2_with fail
          go_ret3
          exact ⟨rfl, rfl⟩
      · rw [if_pos (.inl q0)]
        have t1 : ((b0 : Int) != 38) = true := by simp; omega
        clear hs hn q0
        unfold noC
        go_enter Tryd.func125, Tryd.ntmps125
        go_wp2_with fail
        go_ret3
        exact ⟨rfl, rfl⟩
end Go.Proofs.YtcpdllghlbdhiaaDoor
namespace Go.Proofs.YtcpdllghlbdhiaaDoor
open Go.ChangeShapes Go.WideShapes Go.ChangeAt Go.RowKit
set_option linter.unusedVariables false
set_option maxRecDepth 100000

theorem index_cases (l : List UInt8) (b : UInt8) : (Lib.indexByte l b = -1 ∧ ∀ k : Nat, l[k]? ≠ some b) ∨ ∃ i : Nat, Lib.indexByte l b = i ∧ i < l.length ∧ l[i]? = some b ∧ ∀ k < i, l[k]? ≠ some b := by
  have h := Lib.indexByte_ge l b
  by_cases h0 : Lib.indexByte l b = -1
  · exact .inl ⟨h0, Lib.indexByte_none h0⟩
  · obtain ⟨i, hi⟩ : ∃ i : Nat, Lib.indexByte l b = i := ⟨(Lib.indexByte l b).toNat, by omega⟩
    obtain ⟨h1, h2⟩ := Lib.indexByte_some hi
    exact .inr ⟨i, hi, (List.getElem?_eq_some_iff.1 h1).1, h1, h2⟩
/-- A byte at a place, as a number. -/
theorem at_iff {l : List UInt8} {k b : Nat} (hk : k < l.length) (hb : b < 256) : l[k]? = some (UInt8.ofNat b) ↔ byteAt l k = b := by
  unfold byteAt
  rw [List.getElem?_eq_getElem hk, Option.some_inj, Option.getD_some]
  constructor
  · rintro h; rw [h]; simp; omega
  · rintro rfl; simp

/-- A text, a place, an error, as results. -/
abbrev Trip := List UInt8 × Int × Int
def trV (x : Trip) : Value := .tuple #[strV x.1, .int .i64 x.2.1, .int .i64 x.2.2]
def noT (e : Int) : Trip := ([], 0, e)
theorem trV_no (e : Int) : trV (noT e) = .tuple #[.string ⟨#[]⟩, .int .i64 0, .int .i64 e] := rfl
/-- What stands between two quotes. -/
def quoT (l : List UInt8) (k : Int) : Trip :=
  if k < 0 ∨ (l.length : Int) < k then noT 3
  else if k.toNat = l.length ∨ (byteAt l k.toNat ≠ 34 ∧ byteAt l k.toNat ≠ 39) then noT 7
  else if Lib.indexByte (l.drop (k.toNat + 1)) (UInt8.ofNat (byteAt l k.toNat)) < 0 then noT 7
  else ((l.drop (k.toNat + 1)).take (Lib.indexByte (l.drop (k.toNat + 1)) (UInt8.ofNat (byteAt l k.toNat))).toNat,
    ((k.toNat + 1 + (Lib.indexByte (l.drop (k.toNat + 1)) (UInt8.ofNat (byteAt l k.toNat))).toNat + 1 : Nat) : Int), 0)
theorem quoT_out {l : List UInt8} {k : Int} (h : k < 0 ∨ (l.length : Int) < k) : quoT l k = noT 3 := by rw [quoT, if_pos h]
theorem quoT_not {l : List UInt8} {k : Nat} (hk : k ≤ l.length) (h : k = l.length ∨ (byteAt l k ≠ 34 ∧ byteAt l k ≠ 39)) : quoT l (k : Int) = noT 7 := by
  rw [quoT, if_neg (by omega), Int.toNat_natCast, if_pos h]
theorem quoT_open {l : List UInt8} {k b : Nat} (hk : k < l.length) (hb : byteAt l k = b) (h : b = 34 ∨ b = 39) (hi : Lib.indexByte (l.drop (k + 1)) (UInt8.ofNat b) < 0) : quoT l (k : Int) = noT 7 := by
  rw [quoT, if_neg (by omega), Int.toNat_natCast, if_neg (by rw [hb]; omega), hb, if_pos hi]
theorem quoT_ok {l : List UInt8} {k b i : Nat} (hk : k < l.length) (hb : byteAt l k = b) (h : b = 34 ∨ b = 39) (hi : Lib.indexByte (l.drop (k + 1)) (UInt8.ofNat b) = i) :
    quoT l (k : Int) = ((l.drop (k + 1)).take i, ((k + 1 + i + 1 : Nat) : Int), 0) := by
  rw [quoT, if_neg (by omega), Int.toNat_natCast, if_neg (by rw [hb]; omega), hb, hi, if_neg (by omega), Int.toNat_natCast]
theorem quoT_err (l : List UInt8) (k : Int) (h : (quoT l k).2.2 ≠ 0) : quoT l k = noT (quoT l k).2.2 := by
  unfold quoT at h ⊢
  split
  · rfl
  · next h1 =>
    rw [if_neg h1] at h
    split
    · rfl
    · next h2 =>
      rw [if_neg h2] at h
      split
      · rfl
      · next h3 =>
        rw [if_neg h3] at h
        exact absurd rfl h
theorem quoT_len (l : List UInt8) (k : Int) : (quoT l k).1.length ≤ l.length := by
  unfold quoT
  split
  · simp [noT]
  · split
    · simp [noT]
    · split
      · simp [noT]
      · simp only [List.length_take, List.length_drop]; omega

/-- A number among results. -/
def fldI (v : Value) (i : Nat) : Int := match v with | .tuple xs => intOf (xs.getD i undef) | _ => 0
/-- The place behind the reference at a place, and the error. -/
def bhN (l : List UInt8) (k : Nat) : Int × Int :=
  if k + 1 < l.length ∧ byteAt l (k + 1) = 35 then (fldI (chV l k) 1, fldI (chV l k) 2) else (fldI (entV l k 38) 1, fldI (entV l k 38) 2)
theorem digZ_le (l : List UInt8) (b : Int) : ∀ f k, k ≤ l.length → digZ l b f k ≤ l.length
  | 0, k, h => h
  | f + 1, k, h => by
    rw [digZ]
    split
    · next h1 => exact digZ_le l b f (k + 1) (by omega)
    · exact h
theorem crefD_go {l : List UInt8} {b : Int} {s : Nat} (hs : s ≤ l.length) (h : fldI (crefD l b s) 2 = 0) : ∃ m : Nat, fldI (crefD l b s) 1 = m ∧ s < m ∧ m ≤ l.length := by
  unfold crefD at h ⊢
  split
  · next h1 => rw [if_pos h1] at h; exact absurd h (by show (7 : Int) ≠ 0; omega)
  · next h1 =>
    rw [if_neg h1] at h
    split
    · next h2 => rw [if_pos h2] at h; exact absurd h (by show (6 : Int) ≠ 0; omega)
    · have hg := digZ_ge l b l.length s
      have hl := digZ_le l b l.length s hs
      exact ⟨digZ l b l.length s + 1, rfl, by omega, by omega⟩
theorem chV_go {l : List UInt8} {k : Nat} (hk : k < l.length) (h : fldI (chV l k) 2 = 0) : ∃ m : Nat, fldI (chV l k) 1 = m ∧ k < m ∧ m ≤ l.length := by
  unfold chV at h ⊢
  rw [if_neg (by omega)] at h ⊢
  rw [Int.toNat_natCast] at h ⊢
  split
  · next h1 => rw [if_pos h1] at h; exact absurd h (by show (7 : Int) ≠ 0; omega)
  · next h1 =>
    rw [if_neg h1] at h
    have hk3 : k + 3 ≤ l.length := by
      rcases Nat.lt_or_ge l.length (k + 3) with h2 | h2
      · exact absurd (.inl h2) h1
      · exact h2
    split
    · next h2 =>
      rw [if_pos h2] at h
      obtain ⟨m, a, b, c⟩ := crefD_go (by omega) h
      exact ⟨m, a, by omega, c⟩
    · next h2 =>
      rw [if_neg h2] at h
      obtain ⟨m, a, b, c⟩ := crefD_go (by omega) h
      exact ⟨m, a, by omega, c⟩
theorem entV_go {l : List UInt8} {k : Nat} (hk : k < l.length) (h : fldI (entV l k 38) 2 = 0) : ∃ m : Nat, fldI (entV l k 38) 1 = m ∧ k < m ∧ m ≤ l.length := by
  have hz := endN_le l (plainP charN) l.length (plainP startN) (k + 1) (by omega)
  rw [show endN l (plainP charN) l.length (plainP startN) (k + 1) = entZ l k from rfl] at hz
  unfold entV at h ⊢
  rw [if_neg (by omega)] at h ⊢
  rw [Int.toNat_natCast] at h ⊢
  split
  · next h1 => rw [if_pos h1] at h; exact absurd h (by show (7 : Int) ≠ 0; omega)
  · next h1 =>
    rw [if_neg h1] at h
    split
    · next h2 => rw [if_pos h2] at h; exact absurd h (by show (7 : Int) ≠ 0; omega)
    · next h2 =>
      rw [if_neg h2] at h
      split
      · next h3 => rw [if_pos h3] at h; exact absurd h (by show (11 : Int) ≠ 0; omega)
      · next h3 =>
        rw [if_neg h3] at h
        split
        · next h4 => rw [if_pos h4] at h; exact absurd h (by show (7 : Int) ≠ 0; omega)
        · next h4 => exact ⟨entZ l k + 1, rfl, by omega, by omega⟩
theorem bh_go {l : List UInt8} {k : Nat} (hk : k < l.length) (h : (bhN l k).2 = 0) : ∃ m : Nat, (bhN l k).1 = m ∧ k < m ∧ m ≤ l.length := by
  unfold bhN at h ⊢
  split
  · next h1 => rw [if_pos h1] at h; exact chV_go hk h
  · next h1 => rw [if_neg h1] at h; exact entV_go hk h

/-- The first place at which an "&" begins no reference, and the error. -/
def refsN (l : List UInt8) : Nat → Nat → Int × Int
  | 0, _ => (0, 0)
  | f + 1, k => if k < l.length then (if byteAt l k ≠ 38 then refsN l f (k + 1) else if (bhN l k).2 ≠ 0 then ((k : Int), (bhN l k).2) else refsN l f (bhN l k).1.toNat) else (0, 0)
theorem refs_end {l : List UInt8} (f k : Nat) (h : l.length ≤ k) : refsN l f k = (0, 0) := by
  cases f with
  | zero => rfl
  | succ f => rw [refsN, if_neg (by omega)]
theorem refs_one {l : List UInt8} (f k : Nat) (h : k < l.length) (hb : byteAt l k ≠ 38) : refsN l (f + 1) k = refsN l f (k + 1) := by rw [refsN, if_pos h, if_pos hb]
theorem refs_err {l : List UInt8} (f k : Nat) (h : k < l.length) (hb : byteAt l k = 38) (he : (bhN l k).2 ≠ 0) : refsN l (f + 1) k = ((k : Int), (bhN l k).2) := by
  rw [refsN, if_pos h, if_neg (by omega), if_pos he]
theorem refs_on {l : List UInt8} (f k m : Nat) (h : k < l.length) (hb : byteAt l k = 38) (he : (bhN l k).2 = 0) (hm : (bhN l k).1 = m) : refsN l (f + 1) k = refsN l f m := by
  rw [refsN, if_pos h, if_neg (by omega), if_neg (by rw [he]; simp), hm, Int.toNat_natCast]
theorem refs_skip {l : List UInt8} (m : Nat) : ∀ (f k : Nat), m ≤ f → k + m ≤ l.length → (∀ j, j < m → byteAt l (k + j) ≠ 38) → refsN l f k = refsN l (f - m) (k + m) := by
  induction m with
  | zero => intro f k _ _ _; rfl
  | succ m ih =>
    intro f k hf hk h
    obtain ⟨g, rfl⟩ : ∃ g, f = g + 1 := ⟨f - 1, by omega⟩
    have h0 := h 0 (by omega)
    rw [Nat.add_zero] at h0
    rw [refs_one g k (by omega) h0, ih g (k + 1) (by omega) (by omega) (fun j hj => by have := h (j + 1) (by omega); rwa [show k + 1 + j = k + (j + 1) by omega])]
    congr 1 <;> omega
theorem refs_none {l : List UInt8} (f k : Nat) (h : ∀ j, k ≤ j → j < l.length → byteAt l j ≠ 38) : refsN l f k = (0, 0) := by
  induction f generalizing k with
  | zero => rfl
  | succ f ih =>
    by_cases hk : k < l.length
    · rw [refs_one f k hk (h k (Nat.le_refl _) hk)]
      exact ih (k + 1) (fun j h1 h2 => h j (by omega) h2)
    · exact refs_end _ _ (by omega)
def refsV (l : List UInt8) : Value := .tuple #[.int .i64 (refsN l l.length 0).1, .int .i64 (refsN l l.length 0).2]

/-- The error of the first check that has one. -/
def chk : List (List UInt8 → Int) → List UInt8 → Int
  | [], _ => 0
  | f :: fs, s => if f s ≠ 0 then f s else chk fs s
def chkT (fs : List (List UInt8 → Int)) (x : Trip) : Trip := if x.2.2 ≠ 0 then noT x.2.2 else if chk fs x.1 ≠ 0 then noT (chk fs x.1) else (x.1, x.2.1, 0)
def withoutE (c : Nat) (s : List UInt8) : Int := if 0 ≤ Lib.indexByte s (UInt8.ofNat c) then 7 else 0
def refsE (s : List UInt8) : Int := (refsN s s.length 0).2
end Go.Proofs.YtcpdllghlbdhiaaDoor
namespace Go.Proofs.YtcpdllghlbdhiaaDoor
open Go.ChangeShapes Go.WideShapes Go.ChangeAt Go.RowKit
set_option linter.unusedVariables false

/-- Bytes as numbers. -/
def nB (l : List UInt8) : List Int := l.map fun c => (c.toNat : Int)
theorem nB_len (l : List UInt8) : (nB l).length = l.length := by unfold nB; simp
theorem bytesOf_nB (l : List UInt8) : Lib.bytesOf (nB l) = l := by
  unfold Lib.bytesOf nB
  rw [List.map_map]
  conv => rhs; rw [← List.map_id l]
  apply List.map_congr_left
  intro c _
  simp
theorem sees_nB {w : World} {ad : Addr} {l : List UInt8} (hs : Sees w (some ad) (vB l)) (hl : l ≠ []) : ∀ j x, (nB l)[j]? = some x → w.cell? (ad.add j) = some (.int .u8 x) := by
  intro j x hx
  obtain ⟨a2, e, hc⟩ := hs (by unfold vB; intro h; exact hl (by simpa using h))
  injection e with e
  subst e
  unfold nB at hx
  rw [List.getElem?_map] at hx
  cases hj : l[j]? with
  | none => rw [hj] at hx; cases hx
  | some c =>
    rw [hj] at hx
    injection hx with hx
    exact hc j _ (by unfold vB; rw [List.getElem?_map, hj, ← hx]; rfl)

theorem run_loadB (w : World) (A : Option Addr) (n c : Nat) (l : List UInt8) (hn : l.length = n) (hs : Sees w A (vB l)) :
    (Extern.Bytes.bytesOf (.slice A n c)).run Tryd.prog w = .ok ⟨l.toArray⟩ w := by
  cases A with
  | none =>
    have : l = [] := by
      cases l with
      | nil => rfl
      | cons x l => obtain ⟨_, e, _⟩ := hs (by simp [vB]); cases e
    subst this
    rfl
  | some ad =>
    by_cases hl : l = []
    · subst hl
      simp only [List.length_nil] at hn
      subst hn
      rfl
    · have := Lib.run_loadBytesX (P := Tryd.prog) w (nB l) ad .empty (sees_nB hs hl)
      rw [nB_len, hn, bytesOf_nB] at this
      have he : (⟨ByteArray.empty.data ++ l.toArray⟩ : ByteArray) = ⟨l.toArray⟩ := by
        apply ByteArray.ext
        show (#[] : Array UInt8) ++ l.toArray = l.toArray
        simp
      rw [he] at this
      exact this
theorem bytesOf_str (w : World) (s : ByteArray) : (Extern.Bytes.bytesOf (.string s)).run Tryd.prog w = .ok s w := rfl

theorem run_indexB (w : World) (A : Option Addr) (n c : Nat) (l : List UInt8) (cv : Int) (hn : l.length = n) (hs : Sees w A (vB l)) :
    (Extern.BytealgIndexByte.indexByte #[.slice A n c, .int .u8 cv]).run Tryd.prog w = .ok (.int .i64 (Lib.indexByte l cv.toNat.toUInt8)) w := by
  have hl := run_loadB w A n c l hn hs
  have h2 := Lib.run_indexByteString (P := Tryd.prog) ⟨l.toArray⟩ cv w
  change Sem.run Tryd.prog (do
    let b ← Extern.Bytes.bytesOf (.slice A n c)
    let c ← Extern.Bytes.asByte (.int .u8 cv)
    match (List.range b.size).find? fun i => b[i]! == c with
    | some i => pure (goInt i)
    | none => pure (goInt (-1))) w = _
  change Sem.run Tryd.prog (do
    let b ← Extern.Bytes.bytesOf (.string ⟨l.toArray⟩)
    let c ← Extern.Bytes.asByte (.int .u8 cv)
    match (List.range b.size).find? fun i => b[i]! == c with
    | some i => pure (goInt i)
    | none => pure (goInt (-1))) w = _ at h2
  simp only [Sem.run_bind, hl, bytesOf_str, Result.andThen] at h2 ⊢
  exact h2

set_option maxHeartbeats 1000000 in
set_option maxRecDepth 100000 in
theorem bIndex_any (w : World) (A : Option Addr) (n c : Nat) (l : List UInt8) (cv : Int) (hn : l.length = n) (hs : Sees w A (vB l)) :
    Calls Tryd.prog 127 #[.slice A n c, .int .u8 cv] w fun e w' => e = .returned (.int .i64 (Lib.indexByte l cv.toNat.toUInt8)) ∧ w = w' := by
  have H := Lib.hid (run_indexB w A n c l cv hn hs)
  clear hn hs
  go_enter Tryd.func127, Tryd.ntmps127
  go_wp2
  rw [run_callFunc_extern Tryd.func155 (by kernel_rfl) (by kernel_rfl) (by kernel_rfl) (e := Extern.BytealgIndexByte.indexByte) (by kernel_rfl), H.out]
  simp only [Result.andThen]
  rw [Oper.upon_value]
  go_wp2
  go_ret
  exact ⟨rfl, rfl⟩
end Go.Proofs.YtcpdllghlbdhiaaDoor
