/- The walk of EolLines. -/
import Derived.Test.YtpgpniemkmiljaaEolJ
import Derived.Laws.Concat
namespace Go.Proofs.Ytpgpniemkmiljaa
open Go.ChangeShapes Go.WideShapes Go.ChangeAt Go.RowKit
set_option linter.unusedVariables false
set_option linter.unusedSimpArgs false

/-- What has been put together ahead of line i. -/
def Said (l : List UInt8) (i : Nat) (X : List UInt8) : Prop := (i = 1 ∧ X = []) ∨ ∃ p e, 1 < i ∧ IsStart l (i - 1) p ∧ EndOf l p e ∧ X = l.take e
theorem said_one (l : List UInt8) : Said l 1 [] := .inl ⟨rfl, rfl⟩
theorem said_first {l X : List UInt8} {p e : Nat} (h : Said l 1 X) (hp : IsStart l 1 p) (he : EndOf l p e) : Said l 2 (X ++ (l.drop p).take (e - p)) := by
  have hX : X = [] := by
    rcases h with ⟨_, h⟩ | ⟨_, _, h, _⟩
    · exact h
    · omega
  refine .inr ⟨p, e, by omega, hp, he, ?_⟩
  rw [hX, ← take_end he, start_unique hp (start_one l)]; simp
theorem said_next {l X : List UInt8} {i p e : Nat} (hi : 1 < i) (h : Said l i X) (hp : IsStart l i p) (he : EndOf l p e) : Said l (i + 1) (X ++ [10] ++ (l.drop p).take (e - p)) := by
  rcases h with ⟨h, _⟩ | ⟨q, f, _, hq, hf, hX⟩
  · omega
  · have h10 := end_feed hq hf (by have := (start_bd hp).2; omega)
    have hs := start_next hq hf h10
    rw [show i - 1 + 1 = i by omega] at hs
    obtain rfl := start_unique hp hs
    exact .inr ⟨f + 1, e, by omega, by rw [show i + 1 - 1 = i by omega]; exact hp, he, by rw [hX, take_feed h10, take_end he]⟩
theorem said_all {l X : List UInt8} (h : Said l (lineN l l.length + 1) X) : X = l := by
  rcases h with ⟨h, _⟩ | ⟨q, f, h1, hq, hf, hX⟩
  · have := (lineN_le l l.length).1; omega
  · rw [hX, end_last hq hf (by omega), List.take_of_length_le (Nat.le_refl _)]
theorem str_app (X Y : List UInt8) : (⟨X.toArray⟩ : ByteArray) ++ ⟨Y.toArray⟩ = ⟨(X ++ Y).toArray⟩ := by
  apply ByteArray.ext
  simp
theorem said_len {l X : List UInt8} {i : Nat} (h : Said l i X) : X.length ≤ l.length := by
  rcases h with ⟨_, h⟩ | ⟨_, _, _, _, _, h⟩
  · rw [h]; exact Nat.zero_le _
  · rw [h]; exact List.length_take_le' _ _
def AtIn (p : Nat) (w : World) (e : Ending) (w' : World) : Prop := e = .returned (.tuple #[.int .i64 p, .int .i64 0]) ∧ w = w'

set_option maxRecDepth 100000 in
set_option maxHeartbeats 2000000 in
theorem eolLines_out (w : World) (A : Option Addr) (n c : Nat) (L : Int) (l : List UInt8) (hn : l.length = n) (hnc : n ≤ c) (hcm : c ≤ 9223372036854775807) (hbig : ¬ 100 < n) (hL1 : -9223372036854775808 ≤ L) (hL2 : L ≤ 9223372036854775807) (hs : Sees w A (vB l)) (hout : L < 1 ∨ (lineN l n : Nat) < L) :
    Calls Try.prog 6 #[.slice A n c, .int .i64 L] w fun e w' => e = .returned (.bool true) ∧ Below w.heap.size w w' := by
  have h3 : Calls Try.prog 26 #[.slice A n c, .int .i64 L] w fun e w' => e = .returned (.tuple #[.int .i64 0, .int .i64 3]) ∧ w = w' := by
    rcases hout with h | h
    · exact at_low w A n c L h
    · obtain ⟨q, rfl⟩ : ∃ q : Nat, L = q := ⟨L.toNat, by omega⟩
      refine (at_any w A n c q l hn hnc (by omega) hcm (by have := (lineN_le l n).1; omega) (by omega) hs).mono fun x w' h2 => ⟨?_, h2.2⟩
      rcases h2.1 with ⟨p, hp, _⟩ | ⟨_, e1⟩
      · have := (start_bd hp).2; rw [hn] at this; omega
      · exact e1
  have HA := Lib.hid h3
  have HB := Lib.hid (line_bad w A n c L h3)
  have HC := Lib.hid (lines_any w A n c l hn (by omega) hs)
  have hl := lineN_le l n
  obtain ⟨x, hx⟩ : ∃ x, lineN l n = x := ⟨_, rfl⟩
  rw [hx] at HC hout hl
  clear h3 hs hn hx
  rcases hout with h1 | h1
  · go_enter Try.func6, Try.ntmps6
    go_wp2_with (first
      | (go_at_call 26; refine HA.out.mono ?_; rintro e w' ⟨rfl, rfl⟩)
      | (go_at_call 27; refine HB.out.mono ?_; rintro e w' ⟨rfl, rfl⟩)
      | (go_at_call 25; refine HC.out.mono ?_; rintro e w2 ⟨rfl, hb2⟩)
      | (go_at_call 19; refine (live04_any _).mono ?_; rintro e w3 ⟨rfl, hb3⟩))
    go_ret
    exact ⟨rfl, hb2.trans (hb3.mono hb2.size)⟩
  · have h0 : ¬ L < 1 := by omega
    go_enter Try.func6, Try.ntmps6
    go_wp2_with (first
      | (go_at_call 26; refine HA.out.mono ?_; rintro e w' ⟨rfl, rfl⟩)
      | (go_at_call 27; refine HB.out.mono ?_; rintro e w' ⟨rfl, rfl⟩)
      | (go_at_call 25; refine HC.out.mono ?_; rintro e w2 ⟨rfl, hb2⟩)
      | (go_at_call 19; refine (live04_any _).mono ?_; rintro e w3 ⟨rfl, hb3⟩))
    go_ret
    exact ⟨rfl, hb2.trans (hb3.mono hb2.size)⟩

set_option maxRecDepth 100000 in
set_option maxHeartbeats 8000000 in
theorem eolLines_in (w : World) (A : Option Addr) (n c L p e : Nat) (l : List UInt8) (hn : l.length = n) (hnc : n ≤ c) (hcm : c ≤ 9223372036854775807) (hbig : n ≤ 100) (hL1 : 1 ≤ L) (hp : IsStart l L p) (he : EndOf l p e) (hs : Sees w A (vB l)) :
    Calls Try.prog 6 #[.slice A n c, .int .i64 L] w fun e w' => e = .returned (.bool true) ∧ Below w.heap.size w w' := by
  have hLN := (start_bd hp).2
  rw [hn] at hLN
  have hNb := lineN_le l n
  have HN := Lib.hid hn
  have HP := Lib.hid hp
  have HE := Lib.hid he
  have HS := Lib.hid hs
  have hpe := he.le
  have hen : e ≤ n := by have := he.size; omega
  have HAT := Lib.hid (show Calls Try.prog 26 #[.slice A n c, .int .i64 L] w fun e w' => e = .returned (.tuple #[.int .i64 p, .int .i64 0]) ∧ w = w' from
    (at_any w A n c L l hn hnc (by omega) hcm hL1 (by omega) hs).mono fun x w' h => by
      refine ⟨?_, h.2⟩
      rcases h.1 with ⟨q, hq, e1⟩ | ⟨h1, _⟩
      · rw [start_unique hp hq]; exact e1
      · rw [hn] at h1; omega)
  have HLI := Lib.hid (fun W (hW : Below w.heap.size w W) i q f (h1 : 1 ≤ i) (h2 : i ≤ 9223372036854775807) hq hf => line_any W A n c i q f l hn hnc (by omega) hcm h1 h2 hq hf (hs.below hW))
  have HLS := Lib.hid (fun W (hW : Below w.heap.size w W) => lines_any W A n c l hn (by omega) (hs.below hW))
  have HRA := Lib.hid (fun W (hW : Below w.heap.size w W) => rat_any W A n c L p l hn (by omega) (by omega) hp (hs.below hW))
  have HWH : Hid (∀ W, Below w.heap.size w W → Calls Try.prog 23 #[.slice A n c, .int .i64 p] W fun e w' => e = .returned (.tuple #[.int .i64 L, .int .i64 0, .int .i64 0]) ∧ Below W.heap.size W w') := fun W hW => by
    have := where_in W A n c p l hn hnc (by omega) hcm (by omega) (hs.below hW)
    rwa [hp.line, hp.col] at this
  obtain ⟨N, hN⟩ : ∃ N, lineN l n = N := ⟨_, rfl⟩
  rw [hN] at hLN hNb HLS
  have HNN := Lib.hid hN
  have hL2 : (L : Int) ≤ 9223372036854775807 := by omega
  clear hn hp he hs hN
  go_enter Try.func6, Try.ntmps6
  go_wp2_with (go_at_call 26; refine HAT.out.mono ?_; rintro x w' ⟨rfl, rfl⟩)
  refine (HLI.out w (Below.refl _ _) L p e hL1 (by omega) HP.out HE.out).mono ?_
  rintro x w1 ⟨A1, c1, rfl, hs1, hb1⟩
  have hbl : ((l.drop p).take (e - p)).length = e - p := by rw [List.length_take, List.length_drop, HN.out]; omega
  obtain ⟨m, hm⟩ : ∃ m, e - p = m := ⟨_, rfl⟩
  rw [hm] at hs1 hbl ⊢
  have HMM := Lib.hid hm
  obtain ⟨bs, hbs⟩ : ∃ bs, (l.drop p).take m = bs := ⟨_, rfl⟩
  rw [hbs] at hs1 hbl
  have HS1 := Lib.hid hs1
  have HBS := Lib.hid hbs
  have HBL := Lib.hid hbl
  have hpm : p + m ≤ n := by omega
  clear hm hbs hs1 hbl hpe
  have hm0 : ¬ (L : Int) < 1 := by omega
  have hNL : ¬ (N : Int) < (L : Int) := by omega
  go_wp2_with (first
    | (go_at_call 25; refine (HLS.out _ hb1).mono ?_; rintro x w2 ⟨rfl, hb2⟩; have hb12 := hb1.trans (hb2.mono hb1.size))
    | (go_at_call 28; refine (HRA.out _ hb12).mono ?_; rintro x w' ⟨rfl, rfl⟩)
    | (go_at_call 23; refine (HWH.out _ hb12).mono ?_; rintro x w3 ⟨rfl, hb3⟩; have hb13 := hb12.trans (hb3.mono hb12.size)))
  go_loopw [13, 14, 15, 16] (fun t i _ _ wr => ∃ k : Nat, ∃ X : List UInt8, 1 ≤ k ∧ k ≤ N + 1 ∧ i = .int .i64 k ∧ t = .string ⟨X.toArray⟩ ∧ Hid (Said l k X) ∧ Below w.heap.size w wr ∧ Below w1.heap.size w1 wr) (fun _ i _ _ _ => N + 1 - (intOf i).toNat)
  case atStart => exact ⟨1, [], by omega, by omega, rfl, rfl, said_one l, hb13, hb2.trans (hb3.mono hb2.size)⟩
  case round =>
    obtain ⟨k, X, hk1, hk2, rfl, rfl, HX, hB, hBO⟩ := hrel
    have hsB := hB.size
    by_cases hlt : k ≤ N
    · obtain ⟨q, hq⟩ := start_exists l k hk1 (by rw [HN.out, HNN.out]; exact hlt)
      obtain ⟨f, hf⟩ := end_exists l hq.le
      have HQ := Lib.hid hq
      have HF := Lib.hid hf
      have hXl : X.length ≤ 100 := by have := said_len HX.out; rw [HN.out] at this; omega
      have hfq : f - q ≤ 100 := by have := hf.size; rw [HN.out] at this; omega
      have hyl : ((l.drop q).take (f - q)).length = f - q := by have := hf.size; rw [List.length_take, List.length_drop]; omega
      have HYL := Lib.hid hyl
      clear hq hf hyl
      by_cases h1 : k = 1
      · subst h1
        have HX2 := Lib.hid (said_first HX.out HQ.out HF.out)
        obtain ⟨Y, hY⟩ : ∃ Y, (l.drop q).take (f - q) = Y := ⟨_, rfl⟩
        rw [hY] at HX2 HYL
        have HYY := Lib.hid hY
        have hYl : Y.length ≤ 100 := by rw [HYL.out]; exact hfq
        clear hY
        go_wp2_with (go_at_call 25; refine (HLS.out _ hB).mono ?_; rintro x w5 ⟨rfl, hb5⟩; have hB5 := hB.trans (hb5.mono hsB); have hO5 := hBO.trans (hb5.mono hBO.size))
        refine (HLI.out _ hB5 1 q f hk1 (by omega) HQ.out HF.out).mono ?_
        rintro x w6 ⟨A6, c6, rfl, hs6, hb6⟩
        rw [HYY.out] at hs6
        have kc := conv_b w6 A6 (f - q) c6 Y HYL.out hs6
        have hB6 := hB5.trans (hb6.mono hB5.size)
        clear hs6
        go_wp2_with fail
        go_roundw
        case rel => exact ⟨2, X ++ Y, by omega, by omega, by go_num, by rw [← str_app], HX2, hB6, hO5.trans (hb6.mono hO5.size)⟩
        case measure => simp [intOf]; omega
      · have HX2 := Lib.hid (said_next (by omega) HX.out HQ.out HF.out)
        obtain ⟨Y, hY⟩ : ∃ Y, (l.drop q).take (f - q) = Y := ⟨_, rfl⟩
        rw [hY] at HX2 HYL
        have HYY := Lib.hid hY
        have hYl : Y.length ≤ 100 := by rw [HYL.out]; exact hfq
        have h1' : 1 < k := by omega
        clear hY h1
        go_wp2_with (go_at_call 25; refine (HLS.out _ hB).mono ?_; rintro x w5 ⟨rfl, hb5⟩; have hB5 := hB.trans (hb5.mono hsB); have hO5 := hBO.trans (hb5.mono hBO.size))
        refine (HLI.out _ hB5 k q f hk1 (by omega) HQ.out HF.out).mono ?_
        rintro x w6 ⟨A6, c6, rfl, hs6, hb6⟩
        rw [HYY.out] at hs6
        have kc := conv_b w6 A6 (f - q) c6 Y HYL.out hs6
        have hB6 := hB5.trans (hb6.mono hB5.size)
        clear hs6
        go_wp2_with fail
        go_roundw
        case rel => exact ⟨k + 1, X ++ [10] ++ Y, by omega, by omega, by go_num, by rw [← str_app, ← str_app], HX2, hB6, hO5.trans (hb6.mono hO5.size)⟩
        case measure => simp [intOf]; omega
    · obtain rfl : k = N + 1 := by omega
      have hXl : X = l := said_all (by rw [HN.out, HNN.out]; exact HX.out)
      rw [hXl]
      clear hXl HX
      go_wp2_with (go_at_call 25; refine (HLS.out _ hB).mono ?_; rintro x w5 ⟨rfl, hb5⟩; have hB5 := hB.trans (hb5.mono hsB); have hO5 := hBO.trans (hb5.mono hBO.size))
      have hS5 := HS.out.below hB5
      have hw1 : Sees w5 A1 (vB bs) := HS1.out.below hO5
      have hdr := (hS5.drop (k := p) (cap := c) (by rw [vB_len, HN.out]; exact hnc)).take m
      rw [← vB_drop, ← vB_take, HBS.out] at hdr
      have K1 := Lib.hid (fun W (hW : Below w5.heap.size w5 W) => conv_b W A1 m c1 bs HBL.out (hw1.below hW))
      have K0 := Lib.hid (fun W (hW : Below w5.heap.size w5 W) => conv_b W A n c l HN.out (hS5.below hW))
      have K2 := Lib.hid (fun W (hW : Below w5.heap.size w5 W) => conv_b W _ m (c - p) bs HBL.out (hdr.below hW))
      have e1 : (0 : Int) ≤ (p : Int) := by omega
      have e2 : (p : Int) ≤ (n : Int) := by omega
      have e3 : (0 : Int) ≤ (p : Int) + (m : Int) := by omega
      have e4 : (p : Int) + (m : Int) ≤ (c : Int) := by omega
      have e5 : ((p : Int) + (m : Int)).toNat - p = m := by omega
      have e6 : (m : Int) ≤ (n : Int) - (p : Int) := by omega
      clear hS5 hw1 hdr
      by_cases hcp : c = p
      · subst hcp
        obtain rfl : c = n := by omega
        obtain rfl : m = 0 := by omega
        rw [if_pos rfl, Nat.sub_self] at K2
        refine wp_region_held_drew (S := fun W => Below w5.heap.size w5 W) (by kernel_rfl) (Below.refl _ _).drew (fun hA => ?_)
        refine takeS (i := 0) (d := 100) (v := (.int .i64 L)) rfl rfl (by kernel_rfl) (by kernel_rfl) (by kernel_rfl) (fun _ _ _ h => h) (Or.inl ⟨by kernel_rfl, fun W hW => ?_⟩) hA ?_
        · go_simp
        simp only [List.setIfInBounds_toArray, List.set_cons_zero, List.set_cons_succ]
        refine takeS (i := 1) (d := 101) (v := (.int .i64 L)) rfl rfl (by kernel_rfl) (by kernel_rfl) (by kernel_rfl) (fun _ _ _ h => h) (Or.inl ⟨by kernel_rfl, fun W hW => ?_⟩) hA ?_
        · go_simp
        simp only [List.setIfInBounds_toArray, List.set_cons_zero, List.set_cons_succ]
        refine takeS (i := 2) (d := 102) (v := (.bool true)) rfl rfl (by kernel_rfl) (by kernel_rfl) (by kernel_rfl) (fun _ _ _ h => h) (Or.inl ⟨by kernel_rfl, fun W hW => ?_⟩) hA ?_
        · go_simp
        simp only [List.setIfInBounds_toArray, List.set_cons_zero, List.set_cons_succ]
        refine takeS (i := 3) (d := 103) (v := (.bool true)) rfl rfl (by kernel_rfl) (by kernel_rfl) (by kernel_rfl) (fun _ _ _ h => h) (Or.inl ⟨by kernel_rfl, fun W hW => ?_⟩) hA ?_
        · go_simp
        simp only [List.setIfInBounds_toArray, List.set_cons_zero, List.set_cons_succ]
        refine takeS (i := 4) (d := 104) (v := (.int .i64 0)) rfl rfl (by kernel_rfl) (by kernel_rfl) (by kernel_rfl) (fun _ _ _ h => h) (Or.inl ⟨by kernel_rfl, fun W hW => ?_⟩) hA ?_
        · go_simp
        simp only [List.setIfInBounds_toArray, List.set_cons_zero, List.set_cons_succ]
        refine takeS (i := 5) (d := 105) (v := (.bool true)) rfl rfl (by kernel_rfl) (by kernel_rfl) (by kernel_rfl) (fun _ _ _ h => h) (Or.inl ⟨by kernel_rfl, fun W hW => ?_⟩) hA ?_
        · go_simp
        simp only [List.setIfInBounds_toArray, List.set_cons_zero, List.set_cons_succ]
        refine takeS (i := 6) (d := 106) (v := (.bool true)) rfl rfl (by kernel_rfl) (by kernel_rfl) (by kernel_rfl) (fun _ _ _ h => h) (Or.inl ⟨by kernel_rfl, fun W hW => ?_⟩) hA ?_
        · go_simp
        simp only [List.setIfInBounds_toArray, List.set_cons_zero, List.set_cons_succ]
        refine takeS (i := 7) (d := 107) (v := (.bool true)) rfl rfl (by kernel_rfl) (by kernel_rfl) (by kernel_rfl) (fun _ _ _ h => h) (Or.inl ⟨by kernel_rfl, fun W hW => ?_⟩) hA ?_
        · go_simp
        simp only [List.setIfInBounds_toArray, List.set_cons_zero, List.set_cons_succ]
        refine takeS (i := 8) (d := 108) (v := (.int .i64 0)) rfl rfl (by kernel_rfl) (by kernel_rfl) (by kernel_rfl) (fun _ _ _ h => h) (Or.inl ⟨by kernel_rfl, fun W hW => ?_⟩) hA ?_
        · go_simp
        simp only [List.setIfInBounds_toArray, List.set_cons_zero, List.set_cons_succ]
        refine takeS (i := 9) (d := 109) (v := (.bool true)) rfl rfl (by kernel_rfl) (by kernel_rfl) (by kernel_rfl) (fun _ _ _ h => h) (Or.inl ⟨by kernel_rfl, fun W hW => ?_⟩) hA ?_
        · go_simp
        simp only [List.setIfInBounds_toArray, List.set_cons_zero, List.set_cons_succ]
        refine takeS (i := 10) (d := 110) (v := (.bool true)) rfl rfl (by kernel_rfl) (by kernel_rfl) (by kernel_rfl) (fun _ _ _ h => h) (Or.inl ⟨by kernel_rfl, fun W hW => ?_⟩) hA ?_
        · go_simp
        simp only [List.setIfInBounds_toArray, List.set_cons_zero, List.set_cons_succ]
        refine takeS (i := 11) (d := 111) (v := (.bool true)) rfl rfl (by kernel_rfl) (by kernel_rfl) (by kernel_rfl) (fun _ _ _ h => h) (Or.inl ⟨by kernel_rfl, fun W hW => ?_⟩) hA ?_
        · go_simp
        simp only [List.setIfInBounds_toArray, List.set_cons_zero, List.set_cons_succ]
        refine takeS (i := 12) (d := 112) (v := (.slice A1 0 c1)) rfl rfl (by kernel_rfl) (by kernel_rfl) (by kernel_rfl) (fun _ _ _ h => h) (Or.inl ⟨by kernel_rfl, fun W hW => ?_⟩) hA ?_
        · go_simp
        simp only [List.setIfInBounds_toArray, List.set_cons_zero, List.set_cons_succ]
        refine takeS (i := 13) (d := 113) (v := (.int .i64 (0 : Nat))) rfl rfl (by kernel_rfl) (by kernel_rfl) (by kernel_rfl) (fun _ _ _ h => h) (Or.inl ⟨by kernel_rfl, fun W hW => ?_⟩) hA ?_
        · go_simp
        simp only [List.setIfInBounds_toArray, List.set_cons_zero, List.set_cons_succ]
        refine takeS (i := 14) (d := 114) (v := (.slice A c c)) rfl rfl (by kernel_rfl) (by kernel_rfl) (by kernel_rfl) (fun _ _ _ h => h) (Or.inl ⟨by kernel_rfl, fun W hW => ?_⟩) hA ?_
        · go_simp
        simp only [List.setIfInBounds_toArray, List.set_cons_zero, List.set_cons_succ]
        refine takeS (i := 15) (d := 115) (v := (.int .i64 c)) rfl rfl (by kernel_rfl) (by kernel_rfl) (by kernel_rfl) (fun _ _ _ h => h) (Or.inl ⟨by kernel_rfl, fun W hW => ?_⟩) hA ?_
        · go_simp
        simp only [List.setIfInBounds_toArray, List.set_cons_zero, List.set_cons_succ]
        refine takeS (i := 16) (d := 116) (v := (.int .i64 c)) rfl rfl (by kernel_rfl) (by kernel_rfl) (by kernel_rfl) (fun _ _ _ h => h) (Or.inl ⟨by kernel_rfl, fun W hW => ?_⟩) hA ?_
        · go_simp
        simp only [List.setIfInBounds_toArray, List.set_cons_zero, List.set_cons_succ]
        refine takeS (i := 17) (d := 117) (v := (.int .i64 0)) rfl rfl (by kernel_rfl) (by kernel_rfl) (by kernel_rfl) (fun _ _ _ h => h) (Or.inl ⟨by kernel_rfl, fun W hW => ?_⟩) hA ?_
        · (go_simp; try exact IntWalk.i64_in _ (by omega))
        simp only [List.setIfInBounds_toArray, List.set_cons_zero, List.set_cons_succ]
        refine takeS (i := 18) (d := 118) (v := (.bool true)) rfl rfl (by kernel_rfl) (by kernel_rfl) (by kernel_rfl) (fun _ _ _ h => h) (Or.inl ⟨by kernel_rfl, fun W hW => ?_⟩) hA ?_
        · go_simp
        simp only [List.setIfInBounds_toArray, List.set_cons_zero, List.set_cons_succ]
        refine takeS (i := 19) (d := 119) (v := (.bool true)) rfl rfl (by kernel_rfl) (by kernel_rfl) (by kernel_rfl) (fun _ _ _ h => h) (Or.inl ⟨by kernel_rfl, fun W hW => ?_⟩) hA ?_
        · go_simp
        simp only [List.setIfInBounds_toArray, List.set_cons_zero, List.set_cons_succ]
        refine takeS (i := 20) (d := 120) (v := (.bool true)) rfl rfl (by kernel_rfl) (by kernel_rfl) (by kernel_rfl) (fun _ _ _ h => h) (Or.inl ⟨by kernel_rfl, fun W hW => ?_⟩) hA ?_
        · go_simp
        simp only [List.setIfInBounds_toArray, List.set_cons_zero, List.set_cons_succ]
        refine takeS (i := 21) (d := 121) (v := (.slice A c c)) rfl rfl (by kernel_rfl) (by kernel_rfl) (by kernel_rfl) (fun _ _ _ h => h) (Or.inl ⟨by kernel_rfl, fun W hW => ?_⟩) hA ?_
        · go_simp
        simp only [List.setIfInBounds_toArray, List.set_cons_zero, List.set_cons_succ]
        refine takeS (i := 22) (d := 122) (v := (.int .i64 c)) rfl rfl (by kernel_rfl) (by kernel_rfl) (by kernel_rfl) (fun _ _ _ h => h) (Or.inl ⟨by kernel_rfl, fun W hW => ?_⟩) hA ?_
        · go_simp
        simp only [List.setIfInBounds_toArray, List.set_cons_zero, List.set_cons_succ]
        refine takeS (i := 23) (d := 123) (v := (.int .i64 c)) rfl rfl (by kernel_rfl) (by kernel_rfl) (by kernel_rfl) (fun _ _ _ h => h) (Or.inl ⟨by kernel_rfl, fun W hW => ?_⟩) hA ?_
        · go_simp
        simp only [List.setIfInBounds_toArray, List.set_cons_zero, List.set_cons_succ]
        refine takeS (i := 24) (d := 124) (v := (.slice A1 0 c1)) rfl rfl (by kernel_rfl) (by kernel_rfl) (by kernel_rfl) (fun _ _ _ h => h) (Or.inl ⟨by kernel_rfl, fun W hW => ?_⟩) hA ?_
        · go_simp
        simp only [List.setIfInBounds_toArray, List.set_cons_zero, List.set_cons_succ]
        refine takeS (i := 25) (d := 125) (v := (.int .i64 (0 : Nat))) rfl rfl (by kernel_rfl) (by kernel_rfl) (by kernel_rfl) (fun _ _ _ h => h) (Or.inl ⟨by kernel_rfl, fun W hW => ?_⟩) hA ?_
        · go_simp
        simp only [List.setIfInBounds_toArray, List.set_cons_zero, List.set_cons_succ]
        refine takeS (i := 26) (d := 126) (v := (.int .i64 c)) rfl rfl (by kernel_rfl) (by kernel_rfl) (by kernel_rfl) (fun _ _ _ h => h) (Or.inl ⟨by kernel_rfl, fun W hW => ?_⟩) hA ?_
        · (go_simp; try exact IntWalk.i64_in _ (by omega))
        simp only [List.setIfInBounds_toArray, List.set_cons_zero, List.set_cons_succ]
        refine takeS (i := 27) (d := 127) (v := (.slice A 0 0)) rfl rfl (by kernel_rfl) (by kernel_rfl) (by kernel_rfl) (fun _ _ _ h => h) (Or.inl ⟨by kernel_rfl, fun W hW => ?_⟩) hA ?_
        · go_simp
        simp only [List.setIfInBounds_toArray, List.set_cons_zero, List.set_cons_succ]
        refine takeS (i := 28) (d := 128) (v := (.string ⟨bs.toArray⟩)) rfl rfl (by kernel_rfl) (by kernel_rfl) (by kernel_rfl) (fun _ _ _ h => h) (Or.inl ⟨by kernel_rfl, fun W hW => ?_⟩) hA ?_
        · have kc := K2.out W hW; go_simp
        simp only [List.setIfInBounds_toArray, List.set_cons_zero, List.set_cons_succ]
        refine takeS (i := 29) (d := 129) (v := (.slice A1 0 c1)) rfl rfl (by kernel_rfl) (by kernel_rfl) (by kernel_rfl) (fun _ _ _ h => h) (Or.inl ⟨by kernel_rfl, fun W hW => ?_⟩) hA ?_
        · go_simp
        simp only [List.setIfInBounds_toArray, List.set_cons_zero, List.set_cons_succ]
        refine takeS (i := 30) (d := 130) (v := (.string ⟨bs.toArray⟩)) rfl rfl (by kernel_rfl) (by kernel_rfl) (by kernel_rfl) (fun _ _ _ h => h) (Or.inl ⟨by kernel_rfl, fun W hW => ?_⟩) hA ?_
        · have kc := K1.out W hW; go_simp
        simp only [List.setIfInBounds_toArray, List.set_cons_zero, List.set_cons_succ]
        refine takeS (i := 31) (d := 131) (v := (.bool true)) rfl rfl (by kernel_rfl) (by kernel_rfl) (by kernel_rfl) (fun _ _ _ h => h) (Or.inl ⟨by kernel_rfl, fun W hW => ?_⟩) hA ?_
        · go_simp
        simp only [List.setIfInBounds_toArray, List.set_cons_zero, List.set_cons_succ]
        refine takeS (i := 32) (d := 132) (v := (.bool true)) rfl rfl (by kernel_rfl) (by kernel_rfl) (by kernel_rfl) (fun _ _ _ h => h) (Or.inl ⟨by kernel_rfl, fun W hW => ?_⟩) hA ?_
        · go_simp
        simp only [List.setIfInBounds_toArray, List.set_cons_zero, List.set_cons_succ]
        refine takeS (i := 33) (d := 133) (v := (.bool true)) rfl rfl (by kernel_rfl) (by kernel_rfl) (by kernel_rfl) (fun _ _ _ h => h) (Or.inl ⟨by kernel_rfl, fun W hW => ?_⟩) hA ?_
        · go_simp
        simp only [List.setIfInBounds_toArray, List.set_cons_zero, List.set_cons_succ]
        refine takeS (i := 34) (d := 134) (v := (.string ⟨l.toArray⟩)) rfl rfl (by kernel_rfl) (by kernel_rfl) (by kernel_rfl) (fun _ _ _ h => h) (Or.inl ⟨by kernel_rfl, fun W hW => ?_⟩) hA ?_
        · go_simp
        simp only [List.setIfInBounds_toArray, List.set_cons_zero, List.set_cons_succ]
        refine takeS (i := 35) (d := 135) (v := (.slice A c c)) rfl rfl (by kernel_rfl) (by kernel_rfl) (by kernel_rfl) (fun _ _ _ h => h) (Or.inl ⟨by kernel_rfl, fun W hW => ?_⟩) hA ?_
        · go_simp
        simp only [List.setIfInBounds_toArray, List.set_cons_zero, List.set_cons_succ]
        refine takeS (i := 36) (d := 136) (v := (.string ⟨l.toArray⟩)) rfl rfl (by kernel_rfl) (by kernel_rfl) (by kernel_rfl) (fun _ _ _ h => h) (Or.inl ⟨by kernel_rfl, fun W hW => ?_⟩) hA ?_
        · have kc := K0.out W hW; go_simp
        simp only [List.setIfInBounds_toArray, List.set_cons_zero, List.set_cons_succ]
        refine takeS (i := 37) (d := 137) (v := (.bool true)) rfl rfl (by kernel_rfl) (by kernel_rfl) (by kernel_rfl) (fun _ _ _ h => h) (Or.inl ⟨by kernel_rfl, fun W hW => ?_⟩) hA ?_
        · go_simp
        simp only [List.setIfInBounds_toArray, List.set_cons_zero, List.set_cons_succ]
        refine takeS (i := 38) (d := 138) (v := (.bool true)) rfl rfl (by kernel_rfl) (by kernel_rfl) (by kernel_rfl) (fun _ _ _ h => h) (Or.inl ⟨by kernel_rfl, fun W hW => ?_⟩) hA ?_
        · go_simp
        simp only [List.setIfInBounds_toArray, List.set_cons_zero, List.set_cons_succ]
        refine takeS (i := 39) (d := 139) (v := (.bool true)) rfl rfl (by kernel_rfl) (by kernel_rfl) (by kernel_rfl) (fun _ _ _ h => h) (Or.inl ⟨by kernel_rfl, fun W hW => ?_⟩) hA ?_
        · go_simp
        simp only [List.setIfInBounds_toArray, List.set_cons_zero, List.set_cons_succ]
        refine callS (i := 40) (d := 140) rfl rfl (by kernel_rfl) (fun K hK => ?_)
        go_simp
        go_at_call 19
        refine (live04_any _).mono ?_
        rintro x w4 ⟨rfl, hb4⟩
        have hB4 := hA.trans (hb4.mono hA.size)
        refine hK.out _ _ hB4 (fun _ => ?_)
        clear hK K
        simp only [List.setIfInBounds_toArray, List.set_cons_zero, List.set_cons_succ]
        refine takeS (i := 41) (d := 141) (v := (.bool true)) rfl rfl (by kernel_rfl) (by kernel_rfl) (by kernel_rfl) (fun _ _ _ h => h) (Or.inl ⟨by kernel_rfl, fun W hW => ?_⟩) hB4 ?_
        · go_simp
        simp only [List.setIfInBounds_toArray, List.set_cons_zero, List.set_cons_succ]
        refine takeS (i := 42) (d := 4) (v := (.bool true)) rfl rfl (by kernel_rfl) (by kernel_rfl) (by kernel_rfl) (fun _ _ _ h => h) (Or.inl ⟨by kernel_rfl, fun W hW => ?_⟩) hB4 ?_
        · go_simp
        simp only [List.setIfInBounds_toArray, List.set_cons_zero, List.set_cons_succ]
        refine wpAnyH_done (by kernel_rfl) ?_ _
        go_wp2_with fail
        go_ret
        exact ⟨rfl, hB5.trans (hB4.mono hB5.size)⟩
      · rw [if_neg hcp] at K2
        refine wp_region_held_drew (S := fun W => Below w5.heap.size w5 W) (by kernel_rfl) (Below.refl _ _).drew (fun hA => ?_)
        refine takeS (i := 0) (d := 100) (v := (.int .i64 L)) rfl rfl (by kernel_rfl) (by kernel_rfl) (by kernel_rfl) (fun _ _ _ h => h) (Or.inl ⟨by kernel_rfl, fun W hW => ?_⟩) hA ?_
        · go_simp
        simp only [List.setIfInBounds_toArray, List.set_cons_zero, List.set_cons_succ]
        refine takeS (i := 1) (d := 101) (v := (.int .i64 L)) rfl rfl (by kernel_rfl) (by kernel_rfl) (by kernel_rfl) (fun _ _ _ h => h) (Or.inl ⟨by kernel_rfl, fun W hW => ?_⟩) hA ?_
        · go_simp
        simp only [List.setIfInBounds_toArray, List.set_cons_zero, List.set_cons_succ]
        refine takeS (i := 2) (d := 102) (v := (.bool true)) rfl rfl (by kernel_rfl) (by kernel_rfl) (by kernel_rfl) (fun _ _ _ h => h) (Or.inl ⟨by kernel_rfl, fun W hW => ?_⟩) hA ?_
        · go_simp
        simp only [List.setIfInBounds_toArray, List.set_cons_zero, List.set_cons_succ]
        refine takeS (i := 3) (d := 103) (v := (.bool true)) rfl rfl (by kernel_rfl) (by kernel_rfl) (by kernel_rfl) (fun _ _ _ h => h) (Or.inl ⟨by kernel_rfl, fun W hW => ?_⟩) hA ?_
        · go_simp
        simp only [List.setIfInBounds_toArray, List.set_cons_zero, List.set_cons_succ]
        refine takeS (i := 4) (d := 104) (v := (.int .i64 0)) rfl rfl (by kernel_rfl) (by kernel_rfl) (by kernel_rfl) (fun _ _ _ h => h) (Or.inl ⟨by kernel_rfl, fun W hW => ?_⟩) hA ?_
        · go_simp
        simp only [List.setIfInBounds_toArray, List.set_cons_zero, List.set_cons_succ]
        refine takeS (i := 5) (d := 105) (v := (.bool true)) rfl rfl (by kernel_rfl) (by kernel_rfl) (by kernel_rfl) (fun _ _ _ h => h) (Or.inl ⟨by kernel_rfl, fun W hW => ?_⟩) hA ?_
        · go_simp
        simp only [List.setIfInBounds_toArray, List.set_cons_zero, List.set_cons_succ]
        refine takeS (i := 6) (d := 106) (v := (.bool true)) rfl rfl (by kernel_rfl) (by kernel_rfl) (by kernel_rfl) (fun _ _ _ h => h) (Or.inl ⟨by kernel_rfl, fun W hW => ?_⟩) hA ?_
        · go_simp
        simp only [List.setIfInBounds_toArray, List.set_cons_zero, List.set_cons_succ]
        refine takeS (i := 7) (d := 107) (v := (.bool true)) rfl rfl (by kernel_rfl) (by kernel_rfl) (by kernel_rfl) (fun _ _ _ h => h) (Or.inl ⟨by kernel_rfl, fun W hW => ?_⟩) hA ?_
        · go_simp
        simp only [List.setIfInBounds_toArray, List.set_cons_zero, List.set_cons_succ]
        refine takeS (i := 8) (d := 108) (v := (.int .i64 0)) rfl rfl (by kernel_rfl) (by kernel_rfl) (by kernel_rfl) (fun _ _ _ h => h) (Or.inl ⟨by kernel_rfl, fun W hW => ?_⟩) hA ?_
        · go_simp
        simp only [List.setIfInBounds_toArray, List.set_cons_zero, List.set_cons_succ]
        refine takeS (i := 9) (d := 109) (v := (.bool true)) rfl rfl (by kernel_rfl) (by kernel_rfl) (by kernel_rfl) (fun _ _ _ h => h) (Or.inl ⟨by kernel_rfl, fun W hW => ?_⟩) hA ?_
        · go_simp
        simp only [List.setIfInBounds_toArray, List.set_cons_zero, List.set_cons_succ]
        refine takeS (i := 10) (d := 110) (v := (.bool true)) rfl rfl (by kernel_rfl) (by kernel_rfl) (by kernel_rfl) (fun _ _ _ h => h) (Or.inl ⟨by kernel_rfl, fun W hW => ?_⟩) hA ?_
        · go_simp
        simp only [List.setIfInBounds_toArray, List.set_cons_zero, List.set_cons_succ]
        refine takeS (i := 11) (d := 111) (v := (.bool true)) rfl rfl (by kernel_rfl) (by kernel_rfl) (by kernel_rfl) (fun _ _ _ h => h) (Or.inl ⟨by kernel_rfl, fun W hW => ?_⟩) hA ?_
        · go_simp
        simp only [List.setIfInBounds_toArray, List.set_cons_zero, List.set_cons_succ]
        refine takeS (i := 12) (d := 112) (v := (.slice A1 m c1)) rfl rfl (by kernel_rfl) (by kernel_rfl) (by kernel_rfl) (fun _ _ _ h => h) (Or.inl ⟨by kernel_rfl, fun W hW => ?_⟩) hA ?_
        · go_simp
        simp only [List.setIfInBounds_toArray, List.set_cons_zero, List.set_cons_succ]
        refine takeS (i := 13) (d := 113) (v := (.int .i64 (m : Nat))) rfl rfl (by kernel_rfl) (by kernel_rfl) (by kernel_rfl) (fun _ _ _ h => h) (Or.inl ⟨by kernel_rfl, fun W hW => ?_⟩) hA ?_
        · go_simp
        simp only [List.setIfInBounds_toArray, List.set_cons_zero, List.set_cons_succ]
        refine takeS (i := 14) (d := 114) (v := (.slice A n c)) rfl rfl (by kernel_rfl) (by kernel_rfl) (by kernel_rfl) (fun _ _ _ h => h) (Or.inl ⟨by kernel_rfl, fun W hW => ?_⟩) hA ?_
        · go_simp
        simp only [List.setIfInBounds_toArray, List.set_cons_zero, List.set_cons_succ]
        refine takeS (i := 15) (d := 115) (v := (.int .i64 n)) rfl rfl (by kernel_rfl) (by kernel_rfl) (by kernel_rfl) (fun _ _ _ h => h) (Or.inl ⟨by kernel_rfl, fun W hW => ?_⟩) hA ?_
        · go_simp
        simp only [List.setIfInBounds_toArray, List.set_cons_zero, List.set_cons_succ]
        refine takeS (i := 16) (d := 116) (v := (.int .i64 p)) rfl rfl (by kernel_rfl) (by kernel_rfl) (by kernel_rfl) (fun _ _ _ h => h) (Or.inl ⟨by kernel_rfl, fun W hW => ?_⟩) hA ?_
        · go_simp
        simp only [List.setIfInBounds_toArray, List.set_cons_zero, List.set_cons_succ]
        refine takeS (i := 17) (d := 117) (v := (.int .i64 ((n : Int) - p))) rfl rfl (by kernel_rfl) (by kernel_rfl) (by kernel_rfl) (fun _ _ _ h => h) (Or.inl ⟨by kernel_rfl, fun W hW => ?_⟩) hA ?_
        · (go_simp; try exact IntWalk.i64_in _ (by omega))
        simp only [List.setIfInBounds_toArray, List.set_cons_zero, List.set_cons_succ]
        refine takeS (i := 18) (d := 118) (v := (.bool true)) rfl rfl (by kernel_rfl) (by kernel_rfl) (by kernel_rfl) (fun _ _ _ h => h) (Or.inl ⟨by kernel_rfl, fun W hW => ?_⟩) hA ?_
        · go_simp
        simp only [List.setIfInBounds_toArray, List.set_cons_zero, List.set_cons_succ]
        refine takeS (i := 19) (d := 119) (v := (.bool true)) rfl rfl (by kernel_rfl) (by kernel_rfl) (by kernel_rfl) (fun _ _ _ h => h) (Or.inl ⟨by kernel_rfl, fun W hW => ?_⟩) hA ?_
        · go_simp
        simp only [List.setIfInBounds_toArray, List.set_cons_zero, List.set_cons_succ]
        refine takeS (i := 20) (d := 120) (v := (.bool true)) rfl rfl (by kernel_rfl) (by kernel_rfl) (by kernel_rfl) (fun _ _ _ h => h) (Or.inl ⟨by kernel_rfl, fun W hW => ?_⟩) hA ?_
        · go_simp
        simp only [List.setIfInBounds_toArray, List.set_cons_zero, List.set_cons_succ]
        refine takeS (i := 21) (d := 121) (v := (.slice A n c)) rfl rfl (by kernel_rfl) (by kernel_rfl) (by kernel_rfl) (fun _ _ _ h => h) (Or.inl ⟨by kernel_rfl, fun W hW => ?_⟩) hA ?_
        · go_simp
        simp only [List.setIfInBounds_toArray, List.set_cons_zero, List.set_cons_succ]
        refine takeS (i := 22) (d := 122) (v := (.int .i64 p)) rfl rfl (by kernel_rfl) (by kernel_rfl) (by kernel_rfl) (fun _ _ _ h => h) (Or.inl ⟨by kernel_rfl, fun W hW => ?_⟩) hA ?_
        · go_simp
        simp only [List.setIfInBounds_toArray, List.set_cons_zero, List.set_cons_succ]
        refine takeS (i := 23) (d := 123) (v := (.int .i64 p)) rfl rfl (by kernel_rfl) (by kernel_rfl) (by kernel_rfl) (fun _ _ _ h => h) (Or.inl ⟨by kernel_rfl, fun W hW => ?_⟩) hA ?_
        · go_simp
        simp only [List.setIfInBounds_toArray, List.set_cons_zero, List.set_cons_succ]
        refine takeS (i := 24) (d := 124) (v := (.slice A1 m c1)) rfl rfl (by kernel_rfl) (by kernel_rfl) (by kernel_rfl) (fun _ _ _ h => h) (Or.inl ⟨by kernel_rfl, fun W hW => ?_⟩) hA ?_
        · go_simp
        simp only [List.setIfInBounds_toArray, List.set_cons_zero, List.set_cons_succ]
        refine takeS (i := 25) (d := 125) (v := (.int .i64 (m : Nat))) rfl rfl (by kernel_rfl) (by kernel_rfl) (by kernel_rfl) (fun _ _ _ h => h) (Or.inl ⟨by kernel_rfl, fun W hW => ?_⟩) hA ?_
        · go_simp
        simp only [List.setIfInBounds_toArray, List.set_cons_zero, List.set_cons_succ]
        refine takeS (i := 26) (d := 126) (v := (.int .i64 ((p : Int) + (m : Nat)))) rfl rfl (by kernel_rfl) (by kernel_rfl) (by kernel_rfl) (fun _ _ _ h => h) (Or.inl ⟨by kernel_rfl, fun W hW => ?_⟩) hA ?_
        · (go_simp; try exact IntWalk.i64_in _ (by omega))
        simp only [List.setIfInBounds_toArray, List.set_cons_zero, List.set_cons_succ]
        refine takeS (i := 27) (d := 127) (v := (.slice (A.map fun x => x.add p) m (c - p))) rfl rfl (by kernel_rfl) (by kernel_rfl) (by kernel_rfl) (fun _ _ _ h => h) (Or.inl ⟨by kernel_rfl, fun W hW => ?_⟩) hA ?_
        · (go_simp; try (intro h; exact absurd h (by omega)))
        simp only [List.setIfInBounds_toArray, List.set_cons_zero, List.set_cons_succ]
        refine takeS (i := 28) (d := 128) (v := (.string ⟨bs.toArray⟩)) rfl rfl (by kernel_rfl) (by kernel_rfl) (by kernel_rfl) (fun _ _ _ h => h) (Or.inl ⟨by kernel_rfl, fun W hW => ?_⟩) hA ?_
        · have kc := K2.out W hW; go_simp
        simp only [List.setIfInBounds_toArray, List.set_cons_zero, List.set_cons_succ]
        refine takeS (i := 29) (d := 129) (v := (.slice A1 m c1)) rfl rfl (by kernel_rfl) (by kernel_rfl) (by kernel_rfl) (fun _ _ _ h => h) (Or.inl ⟨by kernel_rfl, fun W hW => ?_⟩) hA ?_
        · go_simp
        simp only [List.setIfInBounds_toArray, List.set_cons_zero, List.set_cons_succ]
        refine takeS (i := 30) (d := 130) (v := (.string ⟨bs.toArray⟩)) rfl rfl (by kernel_rfl) (by kernel_rfl) (by kernel_rfl) (fun _ _ _ h => h) (Or.inl ⟨by kernel_rfl, fun W hW => ?_⟩) hA ?_
        · have kc := K1.out W hW; go_simp
        simp only [List.setIfInBounds_toArray, List.set_cons_zero, List.set_cons_succ]
        refine takeS (i := 31) (d := 131) (v := (.bool true)) rfl rfl (by kernel_rfl) (by kernel_rfl) (by kernel_rfl) (fun _ _ _ h => h) (Or.inl ⟨by kernel_rfl, fun W hW => ?_⟩) hA ?_
        · go_simp
        simp only [List.setIfInBounds_toArray, List.set_cons_zero, List.set_cons_succ]
        refine takeS (i := 32) (d := 132) (v := (.bool true)) rfl rfl (by kernel_rfl) (by kernel_rfl) (by kernel_rfl) (fun _ _ _ h => h) (Or.inl ⟨by kernel_rfl, fun W hW => ?_⟩) hA ?_
        · go_simp
        simp only [List.setIfInBounds_toArray, List.set_cons_zero, List.set_cons_succ]
        refine takeS (i := 33) (d := 133) (v := (.bool true)) rfl rfl (by kernel_rfl) (by kernel_rfl) (by kernel_rfl) (fun _ _ _ h => h) (Or.inl ⟨by kernel_rfl, fun W hW => ?_⟩) hA ?_
        · go_simp
        simp only [List.setIfInBounds_toArray, List.set_cons_zero, List.set_cons_succ]
        refine takeS (i := 34) (d := 134) (v := (.string ⟨l.toArray⟩)) rfl rfl (by kernel_rfl) (by kernel_rfl) (by kernel_rfl) (fun _ _ _ h => h) (Or.inl ⟨by kernel_rfl, fun W hW => ?_⟩) hA ?_
        · go_simp
        simp only [List.setIfInBounds_toArray, List.set_cons_zero, List.set_cons_succ]
        refine takeS (i := 35) (d := 135) (v := (.slice A n c)) rfl rfl (by kernel_rfl) (by kernel_rfl) (by kernel_rfl) (fun _ _ _ h => h) (Or.inl ⟨by kernel_rfl, fun W hW => ?_⟩) hA ?_
        · go_simp
        simp only [List.setIfInBounds_toArray, List.set_cons_zero, List.set_cons_succ]
        refine takeS (i := 36) (d := 136) (v := (.string ⟨l.toArray⟩)) rfl rfl (by kernel_rfl) (by kernel_rfl) (by kernel_rfl) (fun _ _ _ h => h) (Or.inl ⟨by kernel_rfl, fun W hW => ?_⟩) hA ?_
        · have kc := K0.out W hW; go_simp
        simp only [List.setIfInBounds_toArray, List.set_cons_zero, List.set_cons_succ]
        refine takeS (i := 37) (d := 137) (v := (.bool true)) rfl rfl (by kernel_rfl) (by kernel_rfl) (by kernel_rfl) (fun _ _ _ h => h) (Or.inl ⟨by kernel_rfl, fun W hW => ?_⟩) hA ?_
        · go_simp
        simp only [List.setIfInBounds_toArray, List.set_cons_zero, List.set_cons_succ]
        refine takeS (i := 38) (d := 138) (v := (.bool true)) rfl rfl (by kernel_rfl) (by kernel_rfl) (by kernel_rfl) (fun _ _ _ h => h) (Or.inl ⟨by kernel_rfl, fun W hW => ?_⟩) hA ?_
        · go_simp
        simp only [List.setIfInBounds_toArray, List.set_cons_zero, List.set_cons_succ]
        refine takeS (i := 39) (d := 139) (v := (.bool true)) rfl rfl (by kernel_rfl) (by kernel_rfl) (by kernel_rfl) (fun _ _ _ h => h) (Or.inl ⟨by kernel_rfl, fun W hW => ?_⟩) hA ?_
        · go_simp
        simp only [List.setIfInBounds_toArray, List.set_cons_zero, List.set_cons_succ]
        refine callS (i := 40) (d := 140) rfl rfl (by kernel_rfl) (fun K hK => ?_)
        go_simp
        go_at_call 19
        refine (live04_any _).mono ?_
        rintro x w4 ⟨rfl, hb4⟩
        have hB4 := hA.trans (hb4.mono hA.size)
        refine hK.out _ _ hB4 (fun _ => ?_)
        clear hK K
        simp only [List.setIfInBounds_toArray, List.set_cons_zero, List.set_cons_succ]
        refine takeS (i := 41) (d := 141) (v := (.bool true)) rfl rfl (by kernel_rfl) (by kernel_rfl) (by kernel_rfl) (fun _ _ _ h => h) (Or.inl ⟨by kernel_rfl, fun W hW => ?_⟩) hB4 ?_
        · go_simp
        simp only [List.setIfInBounds_toArray, List.set_cons_zero, List.set_cons_succ]
        refine takeS (i := 42) (d := 4) (v := (.bool true)) rfl rfl (by kernel_rfl) (by kernel_rfl) (by kernel_rfl) (fun _ _ _ h => h) (Or.inl ⟨by kernel_rfl, fun W hW => ?_⟩) hB4 ?_
        · go_simp
        simp only [List.setIfInBounds_toArray, List.set_cons_zero, List.set_cons_succ]
        refine wpAnyH_done (by kernel_rfl) ?_ _
        go_wp2_with fail
        go_ret
        exact ⟨rfl, hB5.trans (hB4.mono hB5.size)⟩

theorem eolLines_any (w : World) (A : Option Addr) (n c : Nat) (L : Int) (l : List UInt8) (hn : l.length = n) (hnc : n ≤ c) (hcm : c ≤ 9223372036854775807) (hL : I64 L) (hs : Sees w A (vB l)) :
    Calls Try.prog 6 #[.slice A n c, .int .i64 L] w fun e w' => e = .returned (.bool true) ∧ Below w.heap.size w w' := by
  obtain ⟨hL1, hL2⟩ := hL
  by_cases hbig : 100 < n
  · go_enter Try.func6, Try.ntmps6
    go_wp2_with (go_at_call 19; refine (live04_any _).mono ?_; rintro e w3 ⟨rfl, hb3⟩)
    go_ret
    exact ⟨rfl, hb3⟩
  · by_cases hout : L < 1 ∨ (lineN l n : Nat) < L
    · exact eolLines_out w A n c L l hn hnc hcm hbig hL1 hL2 hs hout
    · obtain ⟨q, rfl⟩ : ∃ q : Nat, L = q := ⟨L.toNat, by omega⟩
      obtain ⟨p, hp⟩ := start_exists l q (by omega) (by rw [hn]; omega)
      obtain ⟨e, he⟩ := end_exists l hp.le
      exact eolLines_in w A n c q p e l hn hnc hcm (by omega) (by omega) hp he hs
end Go.Proofs.Ytpgpniemkmiljaa
