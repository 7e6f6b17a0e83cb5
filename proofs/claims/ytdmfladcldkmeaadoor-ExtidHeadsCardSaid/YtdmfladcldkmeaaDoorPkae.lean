/- Contracts: the document's own answers for names and public identifiers. Names: the document's own End and Read. Names: the document's own Read; blanks, by the program and by the document. Names: is a text wholly a name? Names: IsName, IsPlain, IsToken and the document's own Is. -/
import Derived.Laws.IdiomStrings
import Derived.Laws.AppendOwn
import Derived.MapKept
import Derived.Lib.Bytealg
import Derived.Lib.IndexLaws
import Derived.Test.YtdmfladcldkmeaaDoorPkad
namespace Go.Proofs.YtdmfladcldkmeaaDoor
open Go.ChangeShapes Go.WideShapes Go.ChangeAt Go.RowKit
set_option linter.unusedVariables false
set_option maxRecDepth 100000

set_option maxRecDepth 100000 in
set_option maxHeartbeats 8000000 in
theorem rstart_any (r : Int) (w : World) :
    Calls Tryd.prog 135 #[.int .i64 r] w fun e w' => e = .returned (.bool (hasT startT r)) ∧ w = w' := by
  by_cases c1 : r < 128
  · go_enter Tryd.func135, Tryd.ntmps135
    go_wp2
    all_goals
      go_ret
      exact ⟨ret_bool (by rw [Bool.eq_iff_iff, startT_iff]; simp; try omega), rfl⟩
  by_cases c2 : r < 8192
  · go_enter Tryd.func135, Tryd.ntmps135
    go_wp2
    all_goals
      go_ret
      exact ⟨ret_bool (by rw [Bool.eq_iff_iff, startT_iff]; simp; try omega), rfl⟩
  · go_enter Tryd.func135, Tryd.ntmps135
    go_wp2
    all_goals
      go_ret
      exact ⟨ret_bool (by rw [Bool.eq_iff_iff, startT_iff]; simp; try omega), rfl⟩

set_option maxRecDepth 100000 in
set_option maxHeartbeats 4000000 in
theorem rname_any (r : Int) (w : World) :
    Calls Tryd.prog 134 #[.int .i64 r] w fun e w' => e = .returned (.bool (hasT followT r || hasT startT r)) ∧ w = w' := by
  cases hs : hasT startT r with
  | true =>
    have H := Lib.hid (show ∀ w : World, Calls Tryd.prog 135 #[.int .i64 r] w fun e w' => e = .returned (.bool true) ∧ w = w' from fun w => hs ▸ rstart_any r w)
    clear hs
    go_enter Tryd.func134, Tryd.ntmps134
    go_wp2_with (go_at_call 135; refine (H.out _).mono ?_; rintro e w1 ⟨rfl, rfl⟩)
    go_ret
    exact ⟨ret_bool (by simp), rfl⟩
  | false =>
    have H := Lib.hid (show ∀ w : World, Calls Tryd.prog 135 #[.int .i64 r] w fun e w' => e = .returned (.bool false) ∧ w = w' from fun w => hs ▸ rstart_any r w)
    clear hs
    go_enter Tryd.func134, Tryd.ntmps134
    go_wp2_with (go_at_call 135; refine (H.out _).mono ?_; rintro e w1 ⟨rfl, rfl⟩)
    all_goals
      go_ret
      exact ⟨ret_bool (by rw [Bool.eq_iff_iff]; first | rw [Bool.or_false, followT_iff] | rw [followT_iff]
                          simp; try omega), rfl⟩

def pubS : List Nat := [45, 39, 40, 41, 43, 44, 46, 47, 58, 61, 63, 59, 33, 42, 35, 64, 36, 95, 37]
theorem idx_pub (k : Nat) (h : k < 19) : ∀ w : World, (Instr.index 9 (.string { data := #[45, 39, 40, 41, 43, 44, 46, 47, 58, 61, 63, 59, 33, 42, 35, 64, 36, 95, 37] }) (.int .i64 (k : Int))).run Tryd.prog w = .ok (.int .u8 ((pubS[k]'h : Nat) : Int)) w := by
  match k, h with
  | 0, _ => exact fun _ => by kernel_rfl
  | 1, _ => exact fun _ => by kernel_rfl
  | 2, _ => exact fun _ => by kernel_rfl
  | 3, _ => exact fun _ => by kernel_rfl
  | 4, _ => exact fun _ => by kernel_rfl
  | 5, _ => exact fun _ => by kernel_rfl
  | 6, _ => exact fun _ => by kernel_rfl
  | 7, _ => exact fun _ => by kernel_rfl
  | 8, _ => exact fun _ => by kernel_rfl
  | 9, _ => exact fun _ => by kernel_rfl
  | 10, _ => exact fun _ => by kernel_rfl
  | 11, _ => exact fun _ => by kernel_rfl
  | 12, _ => exact fun _ => by kernel_rfl
  | 13, _ => exact fun _ => by kernel_rfl
  | 14, _ => exact fun _ => by kernel_rfl
  | 15, _ => exact fun _ => by kernel_rfl
  | 16, _ => exact fun _ => by kernel_rfl
  | 17, _ => exact fun _ => by kernel_rfl
  | 18, _ => exact fun _ => by kernel_rfl
  | j + 19, h => exact absurd h (by omega)
theorem pub_rest (r : Int) (h : ∀ k (hk : k < 19), ((pubS[k]'hk : Nat) : Int) ≠ r) (h1 : r ≠ 32 ∧ r ≠ 13 ∧ r ≠ 10 ∧ ¬ (97 ≤ r ∧ r ≤ 122) ∧ ¬ (65 ≤ r ∧ r ≤ 90) ∧ ¬ (48 ≤ r ∧ r ≤ 57)) : hasT pubidT r = false := by
  rw [Bool.eq_false_iff]
  intro hp
  rw [ne_eq] at h1
  have hp := (pubidT_iff r).1 hp
  have a := fun k hk => h k hk
  simp only [pubS] at a
  have a0 := a 0 (by omega); have a1 := a 1 (by omega); have a2 := a 2 (by omega); have a3 := a 3 (by omega); have a4 := a 4 (by omega); have a5 := a 5 (by omega)
  have a6 := a 6 (by omega); have a7 := a 7 (by omega); have a8 := a 8 (by omega); have a9 := a 9 (by omega); have a10 := a 10 (by omega); have a11 := a 11 (by omega)
  have a12 := a 12 (by omega); have a13 := a 13 (by omega); have a14 := a 14 (by omega); have a15 := a 15 (by omega); have a16 := a 16 (by omega); have a17 := a 17 (by omega); have a18 := a 18 (by omega)
  simp at a0 a1 a2 a3 a4 a5 a6 a7 a8 a9 a10 a11 a12 a13 a14 a15 a16 a17 a18
  omega
theorem pub_hit (k : Nat) (hk : k < 19) : hasT pubidT ((pubS[k]'hk : Nat) : Int) = true := by
  have h : ∀ y ∈ pubS, hasT pubidT ((y : Nat) : Int) = true := by decide
  exact h _ (List.getElem_mem hk)

set_option maxRecDepth 100000 in
set_option maxHeartbeats 4000000 in
theorem rpubid_any (r : Int) (w : World) :
    Calls Tryd.prog 180 #[.int .i64 r] w fun e w' => e = .returned (.bool (hasT pubidT r)) ∧ w = w' := by
  by_cases hE : r = 32 ∨ r = 13 ∨ r = 10 ∨ (97 ≤ r ∧ r ≤ 122) ∨ (65 ≤ r ∧ r ≤ 90) ∨ (48 ≤ r ∧ r ≤ 57)
  · rcases hE with rfl | rfl | rfl | ⟨h1, h2⟩ | ⟨h1, h2⟩ | ⟨h1, h2⟩
    all_goals
      go_enter Tryd.func180, Tryd.ntmps180
      go_wp2_with fail
      go_ret
      exact ⟨ret_bool (by rw [Bool.eq_iff_iff, pubidT_iff]; simp; try omega), rfl⟩
  · have HE := Lib.hid hE
    have D : r < 48 ∨ (57 < r ∧ r < 65) ∨ (90 < r ∧ r < 97) ∨ 122 < r := by omega
    have h1 : (r == 32) = false := by simp; omega
    have h2 : (r == 13) = false := by simp; omega
    have h3 : (r == 10) = false := by simp; omega
    clear hE
    rcases D with d | ⟨d, d'⟩ | ⟨d, d'⟩ | d
    all_goals
      go_enter Tryd.func180, Tryd.ntmps180
      go_wp2_with fail
      go_loop [4] (fun i => ∃ k : Nat, k ≤ 19 ∧ i = .int .i64 k ∧ ∀ j (hj : j < 19), j < k → ((pubS[j]'hj : Nat) : Int) ≠ r) (fun i => 19 - (intOf i).toNat)
      case atStart => exact ⟨0, by omega, rfl, fun j hj h => absurd h (by omega)⟩
      case round =>
        obtain ⟨k, hk, rfl, hno⟩ := hrel
        have HNO := Lib.hid hno
        clear hno
        by_cases hlt : k < 19
        · have hix := idx_pub k hlt
          have HY := Lib.hid (pub_hit k hlt)
          obtain ⟨x, hx⟩ : ∃ x, (pubS[k]'hlt) = x := ⟨_, rfl⟩
          rw [hx] at hix HY
          have HX := Lib.hid hx
          have hx9 : x < 256 := by
            have : ∀ y ∈ pubS, y < 256 := by decide
            exact this x (hx ▸ List.getElem_mem hlt)
          clear hx
          by_cases hxr : (x : Int) = r
          · have HXR := Lib.hid hxr
            have t : ((x : Int) == r) = true := by rw [hxr]; simp
            clear hxr
            go_wp2_with fail
            go_ret
            exact ⟨ret_bool (by rw [← HXR.out, HY.out]), rfl⟩
          · have t : ((x : Int) == r) = false := by simpa using hxr
            have HXR := Lib.hid hxr
            clear hxr
            go_wp2_with fail
            go_round
            case rel =>
              refine ⟨k + 1, by omega, by go_num, fun j hj h => ?_⟩
              rcases Nat.lt_or_ge j k with h5 | h5
              · exact HNO.out j hj h5
              · obtain rfl : j = k := by omega
                rw [HX.out]; exact HXR.out
            case measure => simp [intOf]; omega
        · have hk19 : k = 19 := by omega
          subst hk19
          go_wp2_with fail
          go_ret
          exact ⟨ret_bool (pub_rest r (fun k hk => HNO.out k hk hk) (by have := HE.out; omega)).symm, rfl⟩
end Go.Proofs.YtdmfladcldkmeaaDoor
namespace Go.Proofs.YtdmfladcldkmeaaDoor
open Go.ChangeShapes Go.WideShapes Go.ChangeAt Go.RowKit
set_option linter.unusedVariables false
set_option maxRecDepth 100000

def kindP (b : Bool) (f : Int → Bool) : Int → Bool := if b then plainP f else f
def firstP (b : Bool) : Int → Bool := if b then startN else charN
theorem kind_no {b : Bool} {f : Int → Bool} {r : Int} (h : f r = false) : kindP b f r = false := by
  cases b
  · exact h
  · show plainP f r = false
    unfold plainP; rw [h]; simp
theorem kind_58 {f : Int → Bool} {r : Int} (h : r = 58) : kindP true f r = false := by
  show plainP f r = false
  unfold plainP; simp [h]
theorem kind_yes {b : Bool} {f : Int → Bool} {r : Int} (h : f r = true) (hb : b = false ∨ r ≠ 58) : kindP b f r = true := by
  cases b
  · exact h
  · show plainP f r = true
    unfold plainP; rw [h]; rcases hb with hb | hb
    · cases hb
    · simp [hb]

set_option maxHeartbeats 4000000 in
theorem rend_any (l : List UInt8) (A : Option Addr) (n c k : Nat) (w : World) (pl : Bool) (hn : l.length = n) (hm : n ≤ 9223372036854775800) (hk : k ≤ n) (hs : Sees w A (vB l)) :
    Calls Tryd.prog 98 #[.slice A n c, .int .i64 k, .bool pl] w fun e w' =>
      e = .returned (.int .i64 (endN l (kindP pl charN) n (kindP pl startN) k : Nat)) ∧ Below w.heap.size w w' := by
  obtain ⟨z, hz⟩ : ∃ z, endN l (kindP pl charN) n (kindP pl startN) k = z := ⟨_, rfl⟩
  have HZ0 := Lib.hid hz
  have HS := Lib.hid hs
  have HN := Lib.hid hn
  rw [hz]
  clear hz hs hn
  go_enter Tryd.func98, Tryd.ntmps98
  go_wp2_with fail
  go_loopw [1, 7] (fun i v wr => ∃ k' f : Nat, ∃ b : Bool, k' ≤ n ∧ n ≤ k' + f ∧ i = .int .i64 k' ∧ v = .bool b ∧ Hid (endN l (kindP pl charN) f (kindP pl (firstP b)) k' = z) ∧ Below w.heap.size w wr) (fun i _ _ => n - (intOf i).toNat)
  case atStart => exact ⟨k, n, true, hk, by omega, rfl, rfl, HZ0, Below.refl _ _⟩
  case round =>
    obtain ⟨k', f, b, hkn, hnf, rfl, rfl, HZ, hB⟩ := hrel
    have hs' := HS.out.below hB
    by_cases hlt : k' < n
    · obtain ⟨r, m, hrm⟩ : ∃ r m, chrAt l k' = (r, m) := ⟨_, _, rfl⟩
      have hroom := chrAt_room l k' (by rw [HN.out]; exact hlt)
      rw [hrm, HN.out] at hroom
      simp only [] at hroom
      have H1 := Lib.hid (rchar_ok l A n c k' wr HN.out hm hlt hs' r m hrm)
      have HRM := Lib.hid hrm
      clear hs' hrm
      obtain ⟨x, hx⟩ : ∃ x, charN r = x := ⟨_, rfl⟩
      obtain ⟨y, hy⟩ : ∃ y, startN r = y := ⟨_, rfl⟩
      have H2 := Lib.hid (show ∀ w, Calls Tryd.prog 134 #[.int .i64 r] w fun e w' => e = .returned (.bool x) ∧ w = w' from fun w => hx ▸ rname_any r w)
      have H3 := Lib.hid (show ∀ w, Calls Tryd.prog 135 #[.int .i64 r] w fun e w' => e = .returned (.bool y) ∧ w = w' from fun w => hy ▸ rstart_any r w)
      obtain ⟨u, hu⟩ : ∃ u, firstP b r = u := ⟨_, rfl⟩
      have huv : u = if b then y else x := by rw [← hu, ← hx, ← hy]; cases b <;> rfl
      have HU := Lib.hid hu
      clear hx hy hu
      by_cases h0 : m = 0
      · have HE := Lib.hid (endN_out (l := l) (p := kindP pl (firstP b)) (q := kindP pl charN) f k' (.inr (.inl (by rw [HRM.out]; exact h0))))
        subst h0
        cases b
        all_goals
          go_wp2_with fail
          refine H1.out.mono ?_
          rintro e w1 ⟨rfl, hb⟩
          go_wp2_with (first
            | (go_at_call 134; refine (H2.out _).mono ?_; rintro e w2 ⟨rfl, rfl⟩)
            | (go_at_call 135; refine (H3.out _).mono ?_; rintro e w2 ⟨rfl, rfl⟩))
          go_ret
          exact ⟨by have hz := HZ.out; rw [HE.out] at hz; subst hz; rfl, hB.trans (hb.mono hB.size)⟩
      · cases u with
        | false =>
          have HE := Lib.hid (endN_out (l := l) (p := kindP pl (firstP b)) (q := kindP pl charN) f k' (.inr (.inr (by rw [HRM.out]; exact kind_no HU.out))))
          cases b
          all_goals
            simp only [Bool.false_eq_true, if_false, if_true] at huv
            subst huv
            go_wp2_with fail
            refine H1.out.mono ?_
            rintro e w1 ⟨rfl, hb⟩
            go_wp2_with (first
              | (go_at_call 134; refine (H2.out _).mono ?_; rintro e w2 ⟨rfl, rfl⟩)
              | (go_at_call 135; refine (H3.out _).mono ?_; rintro e w2 ⟨rfl, rfl⟩))
            go_ret
            exact ⟨by have hz := HZ.out; rw [HE.out] at hz; subst hz; rfl, hB.trans (hb.mono hB.size)⟩
        | true =>
          by_cases h58 : pl = true ∧ r = 58
          · obtain ⟨rfl, rfl⟩ := h58
            have HE := Lib.hid (endN_out (l := l) (p := kindP true (firstP b)) (q := kindP true charN) f k' (.inr (.inr (by rw [HRM.out]; exact kind_58 rfl))))
            cases b
            all_goals
              simp only [Bool.false_eq_true, if_false, if_true] at huv
              subst huv
              go_wp2_with fail
              refine H1.out.mono ?_
              rintro e w1 ⟨rfl, hb⟩
              go_wp2_with (first
                | (go_at_call 134; refine (H2.out _).mono ?_; rintro e w2 ⟨rfl, rfl⟩)
                | (go_at_call 135; refine (H3.out _).mono ?_; rintro e w2 ⟨rfl, rfl⟩))
              go_ret
              exact ⟨by have hz := HZ.out; rw [HE.out] at hz; subst hz; rfl, hB.trans (hb.mono hB.size)⟩
          · have hpl : pl = false ∨ r ≠ 58 := by
              cases pl
              · exact .inl rfl
              · exact .inr fun h => h58 ⟨rfl, h⟩
            obtain ⟨g, rfl⟩ : ∃ g, f = g + 1 := ⟨f - 1, by omega⟩
            have HE := Lib.hid (endN_on (l := l) (p := kindP pl (firstP b)) (q := kindP pl charN) g k' (by rw [HN.out]; exact hlt) HRM.out h0 (kind_yes HU.out hpl))
            clear h58
            have hpl2 : pl = false ∨ (pl = true ∧ (r == 58) = false) := by
              rcases hpl with h | h
              · exact .inl h
              · cases pl
                · exact .inl rfl
                · exact .inr ⟨rfl, by simpa using h⟩
            clear hpl
            rcases hpl2 with rfl | ⟨rfl, t58⟩
            all_goals
              cases b
              all_goals
                simp only [Bool.false_eq_true, if_false, if_true] at huv
                subst huv
                go_wp2_with fail
                refine H1.out.mono ?_
                rintro e w1 ⟨rfl, hb⟩
                go_wp2_with (first
                  | (go_at_call 134; refine (H2.out _).mono ?_; rintro e w2 ⟨rfl, rfl⟩)
                  | (go_at_call 135; refine (H3.out _).mono ?_; rintro e w2 ⟨rfl, rfl⟩))
                go_roundw
                case rel => exact ⟨k' + m, g, false, by omega, by omega, by go_num, rfl, by unfold Hid; rw [← HZ.out]; exact HE.out.symm, hB.trans (hb.mono hB.size)⟩
                case measure => simp [intOf]; omega
    · obtain rfl : k' = n := by omega
      have HE := Lib.hid (endN_out (l := l) (p := kindP pl (firstP b)) (q := kindP pl charN) f k' (.inl (by rw [HN.out]; exact Nat.le_refl _)))
      go_wp2_with fail
      go_ret
      exact ⟨by have hz := HZ.out; rw [HE.out] at hz; subst hz; rfl, hB⟩
end Go.Proofs.YtdmfladcldkmeaaDoor
namespace Go.Proofs.YtdmfladcldkmeaaDoor
open Go.ChangeShapes Go.WideShapes Go.ChangeAt Go.RowKit
set_option linter.unusedVariables false
set_option maxRecDepth 100000

set_option maxHeartbeats 1000000 in
theorem rread_any (l : List UInt8) (A : Option Addr) (n c : Nat) (k : Int) (w : World) (pl : Bool)
    (hn : l.length = n) (hnc : n ≤ c) (hm : n ≤ 9223372036854775800) (hk : I64 k) (hs : Sees w A (vB l)) :
    Calls Tryd.prog 80 #[.slice A n c, .int .i64 k, .bool pl] w fun e w' =>
      e = .returned (readV l k (kindP pl startN) (kindP pl charN)) ∧ Below w.heap.size w w' := by
  have hkl := hk.1
  have hkh := hk.2
  by_cases hout : k < 0 ∨ (n : Int) < k
  · rw [readV_out (by rw [hn]; exact hout)]
    rcases hout with h0 | h0
    all_goals
      go_enter Tryd.func80, Tryd.ntmps80
      go_wp2_with fail
      go_ret3
      exact ⟨rfl, Below.refl _ _⟩
  · obtain ⟨j, rfl⟩ : ∃ j : Nat, k = j := ⟨k.toNat, by omega⟩
    have hj : j ≤ n := by omega
    have H := rend_any l A n c j w pl hn (by omega) hj hs
    have hle := endN_le l (kindP pl charN) n (kindP pl startN) j (by omega)
    obtain ⟨z, hz⟩ : ∃ z, endN l (kindP pl charN) n (kindP pl startN) j = z := ⟨_, rfl⟩
    rw [hz] at H hle
    rw [hn] at hle
    subst hn
    have HE := Lib.hid H
    clear H
    rcases Nat.lt_or_ge j z with hjz | hjz
    · obtain ⟨ad, rfl, hcell⟩ := hs.byte (k := j) (by omega)
      by_cases hlong : 1024 < z - j
      · rw [readV_long hj hz hjz hlong]
        clear hz hcell
        go_enter Tryd.func80, Tryd.ntmps80
        go_wp2_with fail
        refine HE.out.mono ?_
        rintro e w1 ⟨rfl, hb⟩
        go_wp2_with fail
        go_ret3
        exact ⟨rfl, hb⟩
      · rw [readV_ok hj hz hjz (by omega)]
        have hsd : Sees w (some (ad.add j)) (vB ((l.drop j).take (z - j))) := by
          have h1 := hs.drop (k := j) (cap := c) (by rw [vB_len]; exact hnc)
          rw [if_neg (by omega), ← vB_drop] at h1
          have h2 := h1.take (z - j)
          rw [← vB_take] at h2
          exact h2
        clear hz hcell
        go_enter Tryd.func80, Tryd.ntmps80
        go_wp2_with fail
        refine HE.out.mono ?_
        rintro e w1 ⟨rfl, hb⟩
        have kc := conv_sees w1 (some (ad.add j)) (z - j) (c - j) _ (by simp; omega) (hsd.below hb)
        go_wp2_with fail
        go_ret3
        exact ⟨rfl, hb⟩
    · obtain rfl : z = j := by omega
      rw [readV_none hj hz]
      clear hz
      go_enter Tryd.func80, Tryd.ntmps80
      go_wp2_with fail
      refine HE.out.mono ?_
      rintro e w1 ⟨rfl, hb⟩
      go_wp2_with fail
      go_ret3
      exact ⟨rfl, hb⟩

/-- The first place from k on at which no blank stands. -/
def blkN (l : List UInt8) : Nat → Nat → Nat
  | 0, k => k
  | f + 1, k => if k < l.length ∧ blankB (byteAt l k) = true then blkN l f (k + 1) else k
theorem blkN_out {l : List UInt8} (f k : Nat) (h : l.length ≤ k ∨ blankB (byteAt l k) = false) : blkN l f k = k := by
  cases f with
  | zero => rfl
  | succ f =>
    rw [blkN, if_neg]
    rintro ⟨h1, h2⟩
    rcases h with h | h
    · omega
    · rw [h] at h2; cases h2
theorem blkN_on {l : List UInt8} (f k : Nat) (h : k < l.length) (hp : blankB (byteAt l k) = true) : blkN l (f + 1) k = blkN l f (k + 1) := by
  rw [blkN, if_pos ⟨h, hp⟩]
def blkV (l : List UInt8) (k : Int) : Int := if k < 0 ∨ (l.length : Int) < k then k else (blkN l l.length k.toNat : Nat)
theorem blkV_out {l : List UInt8} {k : Int} (h : k < 0 ∨ (l.length : Int) < k) : blkV l k = k := by rw [blkV, if_pos h]
theorem blkV_in {l : List UInt8} {k : Nat} (h : k ≤ l.length) : blkV l k = (blkN l l.length k : Nat) := by rw [blkV, if_neg (by omega), Int.toNat_natCast]

set_option maxHeartbeats 1000000 in
theorem blanks_any (l : List UInt8) (A : Option Addr) (n c : Nat) (k : Int) (w : World) (hn : l.length = n) (hnc : n ≤ c) (hm : n ≤ 9223372036854775800) (hk : I64 k) (hs : Sees w A (vB l)) :
    Calls Tryd.prog 65 #[.slice A n c, .int .i64 k] w fun e w' => e = .returned (.int .i64 (blkV l k)) ∧ w = w' := by
  have hkl := hk.1
  have hkh := hk.2
  by_cases hneg : k < 0
  · rw [blkV_out (.inl hneg)]
    go_enter Tryd.func65, Tryd.ntmps65
    go_wp2_with fail
    go_ret
    exact ⟨rfl, rfl⟩
  · obtain ⟨j, rfl⟩ : ∃ j : Nat, k = j := ⟨k.toNat, by omega⟩
    obtain ⟨z, hz⟩ : ∃ z, blkV l j = z := ⟨_, rfl⟩
    have h0 : Hid ((blkN l n j : Nat) = z) := by
      unfold Hid
      rw [← hz]
      rcases Nat.lt_or_ge n j with h | h
      · rw [blkV_out (.inr (by omega)), blkN_out n j (.inl (by omega))]
      · rw [blkV_in (by omega), hn]
    have HS := Lib.hid hs
    have HN := Lib.hid hn
    rw [hz]
    clear hz hs hn
    go_enter Tryd.func65, Tryd.ntmps65
    go_wp2_with fail
    go_loop [1] (fun i => ∃ k' f : Nat, (k' : Int) ≤ 9223372036854775807 ∧ n ≤ k' + f ∧ i = .int .i64 k' ∧ Hid ((blkN l f k' : Nat) = z)) (fun i => n - (intOf i).toNat)
    case atStart => exact ⟨j, n, hkh, by omega, rfl, h0⟩
    case round =>
      obtain ⟨k', f, hk9, hnf, rfl, HZ⟩ := hrel
      by_cases hlt : k' < n
      · obtain ⟨ad, rfl, hcell⟩ := HS.out.byte (k := k') (by rw [HN.out]; exact hlt)
        obtain ⟨b, hb⟩ : ∃ b, byteAt l k' = b := ⟨_, rfl⟩
        have hb256 := byteAt_lt l k'
        rw [hb] at hcell hb256
        have H1 := blank_any (b : Int) w
        cases hq : blankB (b : Int) with
        | false =>
          have HE := Lib.hid (blkN_out (l := l) f k' (.inr (by rw [hb]; exact hq)))
          rw [hq] at H1
          have H := Lib.hid H1
          clear H1 hq hb
          go_wp2_with fail
          refine H.out.mono ?_
          rintro e w1 ⟨rfl, rfl⟩
          go_wp2_with fail
          go_ret
          exact ⟨by have hz := HZ.out; rw [HE.out] at hz; subst hz; rfl, rfl⟩
        | true =>
          obtain ⟨g, rfl⟩ : ∃ g, f = g + 1 := ⟨f - 1, by omega⟩
          have HE := Lib.hid (blkN_on (l := l) g k' (by rw [HN.out]; exact hlt) (by rw [hb]; exact hq))
          rw [hq] at H1
          have H := Lib.hid H1
          clear H1 hq hb
          go_wp2_with fail
          refine H.out.mono ?_
          rintro e w1 ⟨rfl, rfl⟩
          go_wp2_with fail
          go_round
          case rel => exact ⟨k' + 1, g, by omega, by omega, by go_num, by unfold Hid; rw [← HZ.out, HE.out]⟩
          case measure => simp [intOf]; omega
      · have HE := Lib.hid (blkN_out (l := l) f k' (.inl (by rw [HN.out]; omega)))
        go_wp2_with fail
        go_ret
        exact ⟨by have hz := HZ.out; rw [HE.out] at hz; subst hz; rfl, rfl⟩
set_option maxHeartbeats 1000000 in
theorem rblanks_any (l : List UInt8) (A : Option Addr) (n c : Nat) (k : Int) (w : World) (hn : l.length = n) (hnc : n ≤ c) (hm : n ≤ 9223372036854775800) (hk : I64 k) (hs : Sees w A (vB l)) :
    Calls Tryd.prog 73 #[.slice A n c, .int .i64 k] w fun e w' => e = .returned (.int .i64 (blkV l k)) ∧ w = w' := by
  have hkl := hk.1
  have hkh := hk.2
  by_cases hout : k < 0 ∨ (n : Int) < k
  · rw [blkV_out (by rw [hn]; exact hout)]
    rcases hout with h0 | h0
    all_goals
      go_enter Tryd.func73, Tryd.ntmps73
      go_wp2_with fail
      go_ret
      exact ⟨rfl, rfl⟩
  · obtain ⟨j, rfl⟩ : ∃ j : Nat, k = j := ⟨k.toNat, by omega⟩
    obtain ⟨z, hz⟩ : ∃ z, blkV l j = z := ⟨_, rfl⟩
    have h0 : Hid ((blkN l n j : Nat) = z) := by
      unfold Hid
      rw [← hz, blkV_in (by omega), hn]
    have HS := Lib.hid hs
    have HN := Lib.hid hn
    rw [hz]
    clear hz hs hn
    go_enter Tryd.func73, Tryd.ntmps73
    go_wp2_with fail
    have d1 : decide ((j : Int) < 0) = false := by simp
    have d2 : decide (n < j) = false := by simp; omega
    simp only [d1, d2, Bool.or_self]
    go_loop [1] (fun i => ∃ k' f : Nat, (k' : Int) ≤ 9223372036854775807 ∧ n ≤ k' + f ∧ i = .int .i64 k' ∧ Hid ((blkN l f k' : Nat) = z)) (fun i => n - (intOf i).toNat)
    case atStart => exact ⟨j, n, hkh, by omega, rfl, h0⟩
    case round =>
      obtain ⟨k', f, hk9, hnf, rfl, HZ⟩ := hrel
      by_cases hlt : k' < n
      · obtain ⟨ad, rfl, hcell⟩ := HS.out.byte (k := k') (by rw [HN.out]; exact hlt)
        obtain ⟨b, hb⟩ : ∃ b, byteAt l k' = b := ⟨_, rfl⟩
        have hb256 := byteAt_lt l k'
        rw [hb] at hcell hb256
        have H1 := rblank_any (b : Int) w
        cases hq : blankB (b : Int) with
        | false =>
          have HE := Lib.hid (blkN_out (l := l) f k' (.inr (by rw [hb]; exact hq)))
          rw [hq] at H1
          have H := Lib.hid H1
          clear H1 hq hb
          go_wp2_with fail
          refine H.out.mono ?_
          rintro e w1 ⟨rfl, rfl⟩
          go_wp2_with fail
          go_ret
          exact ⟨by have hz := HZ.out; rw [HE.out] at hz; subst hz; rfl, rfl⟩
        | true =>
          obtain ⟨g, rfl⟩ : ∃ g, f = g + 1 := ⟨f - 1, by omega⟩
          have HE := Lib.hid (blkN_on (l := l) g k' (by rw [HN.out]; exact hlt) (by rw [hb]; exact hq))
          rw [hq] at H1
          have H := Lib.hid H1
          clear H1 hq hb
          go_wp2_with fail
          refine H.out.mono ?_
          rintro e w1 ⟨rfl, rfl⟩
          go_wp2_with fail
          go_round
          case rel => exact ⟨k' + 1, g, by omega, by omega, by go_num, by unfold Hid; rw [← HZ.out, HE.out]⟩
          case measure => simp [intOf]; omega
      · have HE := Lib.hid (blkN_out (l := l) f k' (.inl (by rw [HN.out]; omega)))
        go_wp2_with fail
        go_ret
        exact ⟨by have hz := HZ.out; rw [HE.out] at hz; subst hz; rfl, rfl⟩
end Go.Proofs.YtdmfladcldkmeaaDoor
namespace Go.Proofs.YtdmfladcldkmeaaDoor
open Go.ChangeShapes Go.WideShapes Go.ChangeAt Go.RowKit
set_option linter.unusedVariables false
set_option maxRecDepth 100000

/-- Is the text wholly such a row? -/
def wholeB (l : List UInt8) (p q : Int → Bool) : Bool := !l.isEmpty && decide (endN l q l.length p 0 = l.length)
abbrev strV (l : List UInt8) : Value := .string ⟨l.toArray⟩
/-- The slice that '[]byte(s)' makes. -/
theorem made_sees (W : World) (l : List UInt8) (t : TypeId) (f : Nat × Nat) (cap b : Nat) (hb : W.heap.size = b) : Sees ((W.alloc (.cells (bytesRow ⟨l.toArray⟩ cap) t f)).drew) (some ⟨b, 0, none⟩) (vB l) := by
  subst hb
  intro hne
  refine ⟨_, rfl, fun j u hu => ?_⟩
  have hj : j < l.length := by
    have := (List.getElem?_eq_some_iff.1 hu).1
    rwa [vB_len] at this
  have e : (⟨W.heap.size, 0, none⟩ : Addr).add j = ⟨W.heap.size, j, none⟩ := by
    unfold Addr.add; split
    · next h0 => rw [h0]
    · simp
  rw [e]
  have e2 : ((W.alloc (.cells (bytesRow ⟨l.toArray⟩ cap) t f)).drew).cell? ⟨W.heap.size, j, none⟩ = (bytesRow ⟨l.toArray⟩ cap)[j]? := by
    show (W.alloc (.cells (bytesRow ⟨l.toArray⟩ cap) t f)).cell? ⟨W.heap.size, j, none⟩ = _
    unfold World.cell?
    rw [heap_alloc_new]
    simp
  rw [e2]
  unfold bytesRow
  rw [Array.getElem?_append_left (by simp; exact hj)]
  rw [← hu]
  unfold vB
  simp
theorem below_bytes {B : Nat} {a W : World} (h : Below B a W) (hB : B ≤ W.heap.size) (o : Obj) : Below B a (W.drew.alloc o) := (h.drew).alloc hB o

set_option maxHeartbeats 1000000 in
theorem whole_any (l : List UInt8) (w : World) (F G : Nat) (cf cg : Array Value) (p q : Int → Bool) (hl : l.length ≤ 1000000)
    (hF : Enters F) (hG : Enters G) (tF : Tells F cf p w.heap.size w) (tG : Tells G cg q w.heap.size w) :
    Calls Tryd.prog 105 #[.agg #[.func (.func F) #[] cf, .func (.func G) #[] cg], strV l] w fun e w' =>
      e = .returned (.bool (wholeB l p q)) ∧ Below w.heap.size w w' := by
  by_cases h0 : l = []
  · subst h0
    go_enter Tryd.func105, Tryd.ntmps105
    go_wp2_with fail
    go_ret
    exact ⟨rfl, (Below.refl _ _).alloc (Nat.le_refl _) _⟩
  · have H := fun (w' : World) (cap : Nat) (A : Option Addr) (hb : Below w.heap.size w w') (hs : Sees w' A (vB l)) (h1 : l.length ≤ cap) (h2 : cap ≤ maxLen) =>
      end_any l A l.length cap 0 w' F G cf cg p q rfl h1 (by unfold maxLen at h2; omega) (Nat.zero_le _) hs hF hG (fun r w'' hb' => tF r w'' (hb.trans (hb'.mono hb.size))) (fun r w'' hb' => tG r w'' (hb.trans (hb'.mono hb.size)))
    have hie : l.isEmpty = false := List.isEmpty_eq_false_iff.2 h0
    have hw : wholeB l p q = decide (endN l q l.length p 0 = l.length) := by
      unfold wholeB; rw [List.isEmpty_eq_false_iff.2 h0]; rfl
    rw [hw]
    obtain ⟨z, hz⟩ : ∃ z, endN l q l.length p 0 = z := ⟨_, rfl⟩
    rw [hz] at H ⊢
    have HH := Lib.hid H
    clear H hw hz
    have kc := fun W => run_bytes_of_string (P := Tryd.prog) W 9 36 5 ⟨l.toArray⟩ Tryd.underlying9 Tryd.underlying36 Tryd.underlying5
    go_enter Tryd.func105, Tryd.ntmps105
    go_wp2_with fail
    have hcg := grownCap_ge (w.alloc (.cells #[.func (.func F) #[] cf, .func (.func G) #[] cg] 153)) l.length 0 5
    have hcl := grownCap_le_maxLen (w.alloc (.cells #[.func (.func F) #[] cf, .func (.func G) #[] cg] 153)) l.length 0 5 (by unfold maxLen; omega)
    have hB : Below w.heap.size w (w.alloc (.cells #[.func (.func F) #[] cf, .func (.func G) #[] cg] 153)) := (Below.refl _ _).alloc (Nat.le_refl _) _
    have hB2 := fun o => (hB.alloc (by simp) o).drew
    refine (HH.out _ _ _ (hB2 _) (made_sees _ l _ _ _ _ (by simp)) hcg hcl).mono ?_
    rintro e w2 ⟨rfl, hb⟩
    go_wp2_with fail
    go_ret
    exact ⟨ret_bool (by rw [Bool.eq_iff_iff]; simp; try omega), (hB2 _).trans (hb.mono (hB2 _).size)⟩
end Go.Proofs.YtdmfladcldkmeaaDoor
namespace Go.Proofs.YtdmfladcldkmeaaDoor
open Go.ChangeShapes Go.WideShapes Go.ChangeAt Go.RowKit
set_option linter.unusedVariables false
set_option maxRecDepth 100000

set_option maxHeartbeats 1000000 in
theorem isName_any (l : List UInt8) (w : World) (hl : l.length ≤ 1000000) (ht : TabN w) :
    Calls Tryd.prog 60 #[strV l] w fun e w' => e = .returned (.bool (wholeB l startN charN)) ∧ Below w.heap.size w w' := by
  have HR := Lib.hid (fun (w' : World) (hb : Below w.heap.size w w') => whole_any l w' _ _ _ _ _ _ hl enters_start enters_char (tells_start (ht.below hb) (Nat.le_refl _)) (tells_char (ht.below hb) (Nat.le_refl _)))
  go_enter Tryd.func60, Tryd.ntmps60
  go_wp2_with fail
  refine (names_any w).mono ?_
  rintro e w1 ⟨rfl, hb1⟩
  go_wp2_with fail
  refine (HR.out w1 hb1).mono ?_
  rintro e w2 ⟨rfl, hb2⟩
  go_wp2_with fail
  go_ret
  exact ⟨rfl, hb1.trans (hb2.mono hb1.size)⟩
set_option maxHeartbeats 1000000 in
theorem isPlain_any (l : List UInt8) (w : World) (hl : l.length ≤ 1000000) (ht : TabN w) :
    Calls Tryd.prog 137 #[strV l] w fun e w' => e = .returned (.bool (wholeB l (plainP startN) (plainP charN))) ∧ Below w.heap.size w w' := by
  have HR := Lib.hid (fun (w' : World) (b1 b2 : Nat) (hb : Below w.heap.size w w') (l1 : b1 < w'.heap.size) (l2 : b2 < w'.heap.size) (c1 : w'.cell? ⟨b1, 0, none⟩ = some (fn0 142)) (c2 : w'.cell? ⟨b2, 0, none⟩ = some (fn0 143)) =>
    whole_any l w' _ _ _ _ _ _ hl enters_plain enters_plain (tells_plain enters_start l1 c1 (tells_start (ht.below hb) (Nat.le_refl _))) (tells_plain enters_char l2 c2 (tells_char (ht.below hb) (Nat.le_refl _))))
  go_enter Tryd.func137, Tryd.ntmps137
  go_wp2_with fail
  refine (plains_any w).mono ?_
  rintro e w1 ⟨b1, b2, rfl, l1, l2, c1, c2, hb1⟩
  go_wp2_with fail
  refine (HR.out w1 b1 b2 hb1 l1 l2 c1 c2).mono ?_
  rintro e w2 ⟨rfl, hb2⟩
  go_wp2_with fail
  go_ret
  exact ⟨rfl, hb1.trans (hb2.mono hb1.size)⟩

set_option maxHeartbeats 1000000 in
theorem risB_any (l : List UInt8) (w : World) (pl : Bool) (hl : l.length ≤ 1000000) :
    Calls Tryd.prog 51 #[strV l, .bool pl] w fun e w' => e = .returned (.bool (wholeB l (kindP pl startN) (kindP pl charN))) ∧ Below w.heap.size w w' := by
  by_cases h0 : l = []
  · subst h0
    go_enter Tryd.func51, Tryd.ntmps51
    go_wp2_with fail
    go_ret
    exact ⟨rfl, Below.refl _ _⟩
  · have H := fun (w' : World) (cap : Nat) (A : Option Addr) (hs : Sees w' A (vB l)) => rend_any l A l.length cap 0 w' pl rfl (by omega) (Nat.zero_le _) hs
    have hie : l.isEmpty = false := List.isEmpty_eq_false_iff.2 h0
    have hw : wholeB l (kindP pl startN) (kindP pl charN) = decide (endN l (kindP pl charN) l.length (kindP pl startN) 0 = l.length) := by
      unfold wholeB; rw [List.isEmpty_eq_false_iff.2 h0]; rfl
    rw [hw]
    obtain ⟨z, hz⟩ : ∃ z, endN l (kindP pl charN) l.length (kindP pl startN) 0 = z := ⟨_, rfl⟩
    rw [hz] at H ⊢
    have HH := Lib.hid H
    clear H hw hz
    have kc := fun W => run_bytes_of_string (P := Tryd.prog) W 9 36 5 ⟨l.toArray⟩ Tryd.underlying9 Tryd.underlying36 Tryd.underlying5
    have hB2 := fun o => ((Below.refl w.heap.size w).alloc (Nat.le_refl _) o).drew
    go_enter Tryd.func51, Tryd.ntmps51
    go_wp2_with fail
    refine (HH.out _ _ _ (made_sees _ l _ _ _ _ rfl)).mono ?_
    rintro e w2 ⟨rfl, hb⟩
    go_wp2_with fail
    go_ret
    exact ⟨ret_bool (by rw [Bool.eq_iff_iff]; simp; try omega), (hB2 _).trans (hb.mono (hB2 _).size)⟩

/-- The place of the first colon, or -1. -/
def colI (l : List UInt8) : Int := Lib.indexByte l 58
set_option maxHeartbeats 1000000 in
theorem indexB_any (l : List UInt8) (w : World) :
    Calls Tryd.prog 175 #[strV l, .int .u8 58] w fun e w' => e = .returned (.int .i64 (colI l)) ∧ w = w' := by
  have H := Lib.hid (Lib.run_indexByteString (P := Tryd.prog) ⟨l.toArray⟩ 58 w)
  go_enter Tryd.func175, Tryd.ntmps175
  go_wp2
  rw [run_callFunc_extern Tryd.func190 (by kernel_rfl) (by kernel_rfl) (by kernel_rfl) (e := Extern.BytealgIndexByte.indexByte) (by kernel_rfl), H.out]
  simp only [Result.andThen]
  rw [Oper.upon_value]
  go_wp2
  go_ret
  exact ⟨rfl, rfl⟩
set_option maxHeartbeats 1000000 in
theorem index_any (l : List UInt8) (w : World) :
    Calls Tryd.prog 149 #[strV l, .string ⟨#[58]⟩] w fun e w' => e = .returned (.int .i64 (colI l)) ∧ w = w' := by
  by_cases h : l = [58]
  · subst h
    go_enter Tryd.func149, Tryd.ntmps149
    go_wp2_with (go_at_call 175; refine (indexB_any _ _).mono ?_; rintro e w2 ⟨rfl, rfl⟩)
    all_goals
      go_ret
      exact ⟨rfl, rfl⟩
  · have t : ([58] == l) = false := by rw [beq_eq_false_iff_ne]; exact fun e => h e.symm
    clear h
    go_enter Tryd.func149, Tryd.ntmps149
    go_wp2_with (go_at_call 175; refine (indexB_any l _).mono ?_; rintro e w2 ⟨rfl, rfl⟩)
    go_ret
    exact ⟨rfl, rfl⟩

/-- What Cut tells. -/
def cutV (l : List UInt8) : Value :=
  if colI l < 0 then .tuple #[strV l, .string ⟨#[]⟩, .bool false] else .tuple #[strV (l.take (colI l).toNat), strV (l.drop ((colI l).toNat + 1)), .bool true]
theorem colI_cases (l : List UInt8) : (colI l = -1 ∧ ∀ k : Nat, l[k]? ≠ some 58) ∨ ∃ i : Nat, colI l = i ∧ l[i]? = some 58 ∧ ∀ k < i, l[k]? ≠ some 58 := by
  have h := Lib.indexByte_ge l 58
  by_cases h0 : colI l = -1
  · exact .inl ⟨h0, Lib.indexByte_none h0⟩
  · obtain ⟨i, hi⟩ : ∃ i : Nat, colI l = i := ⟨(colI l).toNat, by unfold colI at h0 ⊢; omega⟩
    exact .inr ⟨i, hi, Lib.indexByte_some hi⟩
theorem colI_lt (l : List UInt8) : colI l < 0 ∨ ∃ i : Nat, colI l = i ∧ i < l.length := by
  rcases colI_cases l with ⟨h, _⟩ | ⟨i, h, h1, _⟩
  · exact .inl (by omega)
  · exact .inr ⟨i, h, (List.getElem?_eq_some_iff.1 h1).1⟩
theorem str_extract (l : List UInt8) (a b : Nat) : (⟨l.toArray⟩ : ByteArray).extract a b = ⟨((l.drop a).take (b - a)).toArray⟩ := by
  apply ByteArray.ext
  rw [ByteArray.data_extract]
  simp [List.extract_eq_take_drop]
theorem ret_cut {a b c d : ByteArray} {p : Bool} (h1 : a = c) (h2 : b = d) : Ending.returned (.tuple #[.string a, .string b, .bool p]) = .returned (.tuple #[.string c, .string d, .bool p]) := by rw [h1, h2]
set_option maxHeartbeats 1000000 in
theorem cutL_any (l : List UInt8) (w : World) (hl : l.length ≤ 1000000) :
    Calls Tryd.prog 161 #[strV l, .string ⟨#[58]⟩] w fun e w' => e = .returned (cutV l) ∧ Below w.heap.size w w' := by
  unfold cutV
  rcases colI_lt l with h | ⟨i, h, hi⟩
  · rw [if_pos h]
    have H := Lib.hid (index_any l w)
    obtain ⟨z, hz⟩ : ∃ z, colI l = z := ⟨_, rfl⟩
    rw [hz] at H h
    clear hz
    go_enter Tryd.func161, Tryd.ntmps161
    go_wp2_with fail
    refine H.out.mono ?_
    rintro e w1 ⟨rfl, rfl⟩
    go_wp2_with fail
    go_ret3
    exact ⟨rfl, Below.refl _ _⟩
  · rw [if_neg (by omega)]
    have H := Lib.hid (index_any l w)
    rw [h] at H ⊢
    rw [Int.toNat_natCast]
    clear h
    go_enter Tryd.func161, Tryd.ntmps161
    go_wp2_with fail
    refine H.out.mono ?_
    rintro e w1 ⟨rfl, rfl⟩
    go_wp2_with fail
    go_quiet (fail)
    go_wp2_with fail
    go_ret3
    exact ⟨ret_cut (by rw [str_extract]; simp) (by rw [str_extract, ← List.length_drop, List.take_length]), below_drw (Below.refl _ _) _⟩

set_option maxHeartbeats 1000000 in
theorem cut_any (l : List UInt8) (w : World) (hl : l.length ≤ 1000000) :
    Calls Tryd.prog 136 #[strV l, .string ⟨#[58]⟩] w fun e w' => e = .returned (cutV l) ∧ Below w.heap.size w w' := by
  have H := Lib.hid (cutL_any l w hl)
  have HV : ∃ x y z, cutV l = .tuple #[x, y, z] := by
    unfold cutV; split <;> exact ⟨_, _, _, rfl⟩
  obtain ⟨x, y, z, hv⟩ := HV
  rw [hv] at H ⊢
  clear hv
  go_enter Tryd.func136, Tryd.ntmps136
  go_wp2_with fail
  refine H.out.mono ?_
  rintro e w1 ⟨rfl, hb⟩
  go_wp2_with fail
  go_ret3
  exact ⟨rfl, hb⟩
end Go.Proofs.YtdmfladcldkmeaaDoor
