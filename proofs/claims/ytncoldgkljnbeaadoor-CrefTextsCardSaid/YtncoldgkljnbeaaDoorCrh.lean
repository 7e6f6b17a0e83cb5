/- References: the page's example; the walks of CrefChars and CrefNames. -/
import Derived.Test.YtncoldgkljnbeaaDoorCrg
import Derived.Test.YtncoldgkljnbeaaDoorEsc
namespace Go.Proofs.YtncoldgkljnbeaaDoor
open Go.ChangeShapes Go.WideShapes Go.ChangeAt Go.RowKit
set_option linter.unusedVariables false
set_option maxRecDepth 100000

theorem cv1 : chV [38, 35, 120, 52, 49, 59] 0 = .tuple #[.int .i64 65, .int .i64 6, .int .i64 0] := by kernel_rfl
theorem cv2 : entV [38, 97, 98, 59] 0 38 = .tuple #[.string ⟨#[97, 98]⟩, .int .i64 4, .int .i64 0] := by kernel_rfl
theorem cv3 : escL [97, 60, 98] = [97, 38, 108, 116, 59, 98] := by kernel_rfl

set_option maxHeartbeats 1000000 in
theorem live06_any (w : World) (ht : Tables w) : Calls Tryd.prog 24 #[] w fun e w' => e = .returned (.bool true) ∧ Below w.heap.size w w' := by
  have H1 := Lib.hid (fun (w' : World) (hb : Below w.heap.size w w') => cv1 ▸ cchar_any [38, 35, 120, 52, 49, 59] (some ⟨w'.heap.size, 0, none⟩) 6 6 0 (w'.alloc (.cells #[.int .u8 38, .int .u8 35, .int .u8 120, .int .u8 52, .int .u8 49, .int .u8 59] 5 (6, 7))) rfl (by omega) (by omega) ⟨by omega, by omega⟩ (by omega)
    (sees_lit w' (vB [38, 35, 120, 52, 49, 59]) _ _) (ht.below (hb.alloc hb.size _)))
  have H2 := Lib.hid (fun (w' : World) (hb : Below w.heap.size w w') => cv2 ▸ entity_any [38, 97, 98, 59] (some ⟨w'.heap.size, 0, none⟩) 4 4 0 (w'.alloc (.cells #[.int .u8 38, .int .u8 97, .int .u8 98, .int .u8 59] 5 (4, 5))) rfl (by omega) (by omega) ⟨by omega, by omega⟩ (by omega)
    (sees_lit w' (vB [38, 97, 98, 59]) _ _) (ht.below (hb.alloc hb.size _)).toN)
  have H3 := Lib.hid (fun (w' : World) => cv3 ▸ escape_any [97, 60, 98] w' (by simp))
  have kc := fun (w : World) (C : Array Value) (n c : Nat) => Lib.run_convert_bytes_const (P := Tryd.prog) w 22 5 C n c Tryd.underlying22 Tryd.underlying5
  go_enter Tryd.func24, Tryd.ntmps24
  go_wp2_with fail
  refine (H1.out w (Below.refl _ _)).mono ?_
  rintro e w1 ⟨rfl, hb1⟩
  have hb1' : Below w.heap.size w w1 := ((Below.refl _ w).alloc (Nat.le_refl _) _).trans (hb1.mono (by simp))
  go_wp2_with fail
  refine (H2.out w1 hb1').mono ?_
  rintro e w2 ⟨rfl, hb2⟩
  have hb2' : Below w.heap.size w w2 := (hb1'.alloc hb1'.size _).trans (hb2.mono (by have := hb1'.size; simp; omega))
  go_wp2_with fail
  refine (H3.out w2).mono ?_
  rintro e w3 ⟨rfl, hb3⟩
  go_wp2_with fail
  go_ret
  exact ⟨rfl, hb2'.trans (hb3.mono hb2'.size)⟩

set_option maxHeartbeats 2000000 in
theorem crefChars_any (l : List UInt8) (A : Option Addr) (n c : Nat) (k : Int) (w : World) (hn : l.length = n) (hnc : n ≤ c) (hcm : c ≤ maxLen) (hk : I64 k) (hs : Sees w A (vB l)) (ht : Tables w) :
    Calls Tryd.prog 6 #[.slice A n c, .int .i64 k] w fun e w' => e = .returned (.bool true) ∧ Below w.heap.size w w' := by
  unfold maxLen at hcm
  have HL := Lib.hid (fun (w' : World) (hb : Below w.heap.size w w') => live06_any w' (ht.below hb))
  by_cases hbig : 300 < n
  · clear hs
    go_enter Tryd.func6, Tryd.ntmps6
    go_wp2_with fail
    refine (HL.out w (Below.refl _ _)).mono ?_
    rintro e w1 ⟨rfl, hb⟩
    go_wp2_with fail
    go_ret
    exact ⟨rfl, hb⟩
  · have H1 := cchar_any l A n c k w hn hnc hcm hk (by omega) hs ht
    have H2 := fun (w' : World) (hb : Below w.heap.size w w') => rchar6_any l A n c k w' hn hnc hcm hk (by omega) (hs.below hb)
    obtain ⟨x, y, z, hv⟩ := chV_tup l k
    rw [hv] at H1 H2
    have K1 := Lib.hid H1
    have K2 := Lib.hid H2
    clear H1 H2 hv hs hn
    go_enter Tryd.func6, Tryd.ntmps6
    go_wp2_with fail
    refine K1.out.mono ?_
    rintro e w1 ⟨rfl, hb1⟩
    go_wp2_with fail
    refine (K2.out w1 hb1).mono ?_
    rintro e w2 ⟨rfl, rfl⟩
    go_wp2_with fail
    refine (HL.out w1 hb1).mono ?_
    rintro e w3 ⟨rfl, hb3⟩
    go_wp2_with fail
    go_ret
    exact ⟨rfl, hb1.trans (hb3.mono hb1.size)⟩

set_option maxHeartbeats 4000000 in
theorem crefNames_any (l m : List UInt8) (A : Option Addr) (n c : Nat) (k : Int) (w : World) (hn : l.length = n) (hnc : n ≤ c) (hcm : c ≤ maxLen) (hk : I64 k) (hs : Sees w A (vB l)) (ht : Tables w) (hkn : KnAt w) :
    Calls Tryd.prog 7 #[.slice A n c, .int .i64 k, strV m] w fun e w' => e = .returned (.bool true) ∧ Below w.heap.size w w' := by
  unfold maxLen at hcm
  have HL := Lib.hid (fun (w' : World) (hb : Below w.heap.size w w') => live06_any w' (ht.below hb))
  by_cases hbig : 300 < n
  · clear hs
    go_enter Tryd.func7, Tryd.ntmps7
    go_wp2_with fail
    refine (HL.out w (Below.refl _ _)).mono ?_
    rintro e w1 ⟨rfl, hb⟩
    go_wp2_with fail
    go_ret
    exact ⟨rfl, hb⟩
  · have H1 := entity_any l A n c k w hn hnc hcm hk (by omega) hs ht.toN
    have H2 := fun (w' : World) (hb : Below w.heap.size w w') => param_any l A n c k w' hn hnc hcm hk (by omega) (hs.below hb) (ht.below hb).toN
    have H3 := fun (w' : World) (hb : Below w.heap.size w w') => rent_any l A n c k 38 w' hn hnc hcm hk (by omega) (by omega) (hs.below hb) (ht.below hb).toN
    have H4 := fun (w' : World) (hb : Below w.heap.size w w') => rent_any l A n c k 37 w' hn hnc hcm hk (by omega) (by omega) (hs.below hb) (ht.below hb).toN
    have H5 := Lib.hid (fun (w' : World) (hb : Below w.heap.size w w') => known_any m w' (hkn.below hb))
    have H6 := Lib.hid (fun (w' : World) => rknown_any m w')
    obtain ⟨s1, z1, e1, h1⟩ := entV_tup l k 38
    obtain ⟨s2, z2, e2, h2⟩ := entV_tup l k 37
    rw [h1] at H1 H3
    rw [h2] at H2 H4
    have K1 := Lib.hid H1
    have K2 := Lib.hid H2
    have K3 := Lib.hid H3
    have K4 := Lib.hid H4
    obtain ⟨q, hq⟩ : ∃ q, knownN m = q := ⟨_, rfl⟩
    rw [hq] at H5 H6
    clear H1 H2 H3 H4 h1 h2 hs hn hq
    go_enter Tryd.func7, Tryd.ntmps7
    go_wp2_with fail
    refine K1.out.mono ?_
    rintro e w1 ⟨rfl, hb1⟩
    go_wp2_with fail
    refine (K2.out w1 hb1).mono ?_
    rintro e w2 ⟨rfl, b2⟩
    have hb2 := hb1.trans (b2.mono hb1.size)
    go_wp2_with fail
    refine (K3.out w2 hb2).mono ?_
    rintro e w3 ⟨rfl, b3⟩
    have hb3 := hb2.trans (b3.mono hb2.size)
    go_wp2_with fail
    refine (K4.out w3 hb3).mono ?_
    rintro e w4 ⟨rfl, b4⟩
    have hb4 := hb3.trans (b4.mono hb3.size)
    go_wp2_with fail
    refine (H5.out w4 hb4).mono ?_
    rintro e w5 ⟨rfl, b5⟩
    have hb5 := hb4.trans (b5.mono hb4.size)
    go_wp2_with fail
    refine (H6.out w5).mono ?_
    rintro e w6 ⟨rfl, rfl⟩
    go_wp2_with fail
    refine (HL.out w5 hb5).mono ?_
    rintro e w7 ⟨rfl, b7⟩
    go_wp2_with fail
    go_ret
    exact ⟨rfl, hb5.trans (b7.mono hb5.size)⟩
end Go.Proofs.YtncoldgkljnbeaaDoor
