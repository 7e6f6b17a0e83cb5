/- The page's example of layer 13; what is put is read as itself. How a document type begins, by the document. How a document type begins, by the document: without an identifier. -/
import Derived.Test.YtdmfladcldkmeaaDoorPkas
import Derived.Test.YtdmfladcldkmeaaDoorPkat
namespace Go.Proofs.YtdmfladcldkmeaaDoor
open Go.ChangeShapes Go.WideShapes Go.ChangeAt Go.RowKit
set_option linter.unusedVariables false
set_option maxRecDepth 100000

theorem lx1 : extT [83, 89, 83, 84, 69, 77, 32, 39, 97, 39] 0 = ([], [97], 10, 0) := by kernel_rfl
theorem lx2 : hdT [60, 33, 68, 79, 67, 84, 89, 80, 69, 32, 97, 32, 91] 0 = ⟨true, [97], [], [], false, true, 13, 0⟩ := by kernel_rfl
theorem eqExt (s t : ByteArray) (w : World) : (binOp .eql 59 (.agg #[.string s, .string t]) (.agg #[.string s, .string t])).run Tryd.prog w = .ok (.bool true) w := by simp [go_sem]
set_option maxHeartbeats 4000000 in
theorem live13_any (w : World) (ht : TabN w) (hP : TabP w) : Calls Tryd.prog 33 #[] w fun e w' => e = .returned (.bool true) ∧ Below w.heap.size w w' := by
  have hb0 : Below w.heap.size w (w.alloc (.cells (vB [83, 89, 83, 84, 69, 77, 32, 39, 97, 39]).toArray 5 (10, 11))) := (Below.refl _ w).alloc (Nat.le_refl _) _
  have H1 := ext_any [83, 89, 83, 84, 69, 77, 32, 39, 97, 39] (some ⟨w.heap.size, 0, none⟩) 10 10 0 (w.alloc (.cells (vB [83, 89, 83, 84, 69, 77, 32, 39, 97, 39]).toArray 5 (10, 11))) rfl (by omega) (by omega) (by omega) ⟨by omega, by omega⟩ (sees_lit w _ _ _) (hP.below hb0)
  rw [lx1] at H1
  have kc2 := const_at2
  have kc := fun (w : World) (C : Array Value) (n c : Nat) => Lib.run_convert_bytes_const (P := Tryd.prog) w 36 5 C n c Tryd.underlying36 Tryd.underlying5
  have H2 := fun (w' : World) (o : Obj) (hb : Below w.heap.size w w') => doc_any [60, 33, 68, 79, 67, 84, 89, 80, 69, 32, 97, 32, 91] (some ⟨w'.heap.size + 1, 0, none⟩) 13 13 0 ((w'.alloc o).alloc (.cells (vB [60, 33, 68, 79, 67, 84, 89, 80, 69, 32, 97, 32, 91]).toArray 5 (13, 14))) rfl (by omega) (by omega) (by omega) ⟨by omega, by omega⟩
    (by have h := sees_lit (w'.alloc o) (vB [60, 33, 68, 79, 67, 84, 89, 80, 69, 32, 97, 32, 91]) 5 (13, 14); rwa [World.size_alloc] at h) (ht.below ((hb.alloc hb.size o).alloc (by have := hb.size; simp; omega) _)) (hP.below ((hb.alloc hb.size o).alloc (by have := hb.size; simp; omega) _))
  have K1 := Lib.hid H1
  have K2 := Lib.hid H2
  have HB0 := Lib.hid hb0
  have e1 := eqExt ⟨#[]⟩ ⟨#[97]⟩
  clear H1 H2 hb0 ht hP
  go_enter Tryd.func33, Tryd.ntmps33
  go_wp2_with fail
  refine K1.out.mono ?_
  rintro e w1 ⟨rfl, hb⟩
  have hb1 := Lib.hid (HB0.out.trans (hb.mono (by simp)))
  have hBB := Lib.hid ((hb1.out.alloc hb1.out.size (.cells #[.string ⟨#[]⟩, strV [97]] 59)).alloc (by have := hb1.out.size; simp; omega) (.cells (vB [60, 33, 68, 79, 67, 84, 89, 80, 69, 32, 97, 32, 91]).toArray 5 (13, 14)))
  have T1 := Lib.hid ((Two.new w1 (.string ⟨#[]⟩) (strV [97]) 59 _ rfl).alloc (.cells (vB [60, 33, 68, 79, 67, 84, 89, 80, 69, 32, 97, 32, 91]).toArray 5 (13, 14)))
  have KD := Lib.hid (K2.out w1 (.cells #[.string ⟨#[]⟩, strV [97]] 59) hb1.out)
  clear hb
  unfold exV
  simp only
  go_wp2_with fail
  refine KD.out.mono ?_
  rintro e w2 ⟨he, hb2⟩
  rw [lx2] at he
  subst he
  have hb3 := Lib.hid (hBB.out.trans (hb2.mono hBB.out.size))
  have T2 := T1.out.below hb2
  have T3 := T2.alloc (.cells #[.bool true, strV [97], .string ⟨#[]⟩, .string ⟨#[]⟩, .bool false, .bool true] 61)
  obtain ⟨x0, x1, _, _⟩ := T3.at
  have hlt := T2.lt
  clear hb2 T2 T3
  unfold hdV
  simp only
  go_wp2_with fail
  go_ret
  exact ⟨rfl, hb3.out.alloc hb3.out.size _⟩
set_option maxHeartbeats 4000000 in
theorem extidPuts_big (p s : List UInt8) (w : World) (h : 300 < p.length ∨ 300 < s.length) (ht : TabN w) (hP : TabP w) :
    Calls Tryd.prog 9 #[.agg #[strV p, strV s]] w fun e w' => e = .returned (.bool true) ∧ Below w.heap.size w w' := by
  have B0 := (Below.refl w.heap.size w).alloc (Nat.le_refl _) (.cells #[strV p, strV s] 59)
  have HL := Lib.hid (live13_any _ (ht.below B0) (hP.below B0))
  have HB0 := Lib.hid B0
  have z1 := str_size s
  have z2 := str_size p
  clear ht hP B0
  by_cases h1 : 300 < p.length
  · have d1 : (300 : Int) < (p.length : Int) := by omega
    clear h h1
    go_enter Tryd.func9, Tryd.ntmps9
    go_wp2_with fail
    refine HL.out.mono ?_
    rintro e w5 ⟨rfl, hb5⟩
    go_wp2_with fail
    go_ret
    exact ⟨rfl, HB0.out.trans (hb5.mono (by simp))⟩
  · have d1 : ¬ (300 : Int) < (p.length : Int) := by omega
    have d2 : (300 : Int) < (s.length : Int) := by omega
    clear h h1
    go_enter Tryd.func9, Tryd.ntmps9
    go_wp2_with fail
    refine HL.out.mono ?_
    rintro e w5 ⟨rfl, hb5⟩
    go_wp2_with fail
    go_ret
    exact ⟨rfl, HB0.out.trans (hb5.mono (by simp))⟩
set_option maxHeartbeats 8000000 in
theorem extidPuts_small (p s : List UInt8) (w : World) (h8 : p.length ≤ 300) (h9 : s.length ≤ 300) (ht : TabN w) (hP : TabP w) :
    Calls Tryd.prog 9 #[.agg #[strV p, strV s]] w fun e w' => e = .returned (.bool true) ∧ Below w.heap.size w w' := by
  have B0 := (Below.refl w.heap.size w).alloc (Nat.le_refl _) (.cells #[strV p, strV s] 59)
  obtain ⟨WA, hWA⟩ : ∃ WA, w.alloc (.cells #[strV p, strV s] 59) = WA := ⟨_, rfl⟩
  have T0 := Lib.hid (show Two WA w.heap.size (strV p) (strV s) 59 from hWA ▸ Two.new w (strV p) (strV s) 59 _ rfl)
  rw [hWA] at B0
  have HWA := Lib.hid hWA
  have HB0 := Lib.hid B0
  have HL := Lib.hid (fun (w' : World) (hb : Below w.heap.size w w') => live13_any w' (ht.below hb) (hP.below hb))
  have K1 := xput_any p s WA h8 h9 (hP.below B0)
  have K2 := fun (w' : World) (hb : Below w.heap.size w w') => rput_any p s w' h8 h9 (hP.below hb)
  have z1 := str_size s
  have z2 := str_size p
  have d1 : ¬ (300 : Int) < (p.length : Int) := by omega
  have d2 : ¬ (300 : Int) < (s.length : Int) := by omega
  unfold putV at K1 K2
  cases hok : okX p s with
  | false =>
    rw [hok] at K1 K2
    simp only [Bool.false_eq_true, if_false] at K1 K2
    have K1 := Lib.hid K1
    have K2 := Lib.hid K2
    obtain ⟨x0, x1, _, _⟩ := T0.out.at
    clear ht hP B0 hWA hok
    go_enter Tryd.func9, Tryd.ntmps9
    go_wp2_with fail
    rw [HWA.out]
    clear HWA
    refine K1.out.mono ?_
    rintro e w1 ⟨rfl, hb1⟩
    have hB1 := Lib.hid (HB0.out.trans (hb1.mono HB0.out.size))
    have T1 := Lib.hid (T0.out.below hb1)
    clear hb1 x0 x1
    obtain ⟨x0, x1, _, _⟩ := T1.out.at
    go_wp2_with fail
    refine (K2.out w1 hB1.out).mono ?_
    rintro e w2 ⟨rfl, hb2⟩
    have hB2 := Lib.hid (hB1.out.trans (hb2.mono hB1.out.size))
    clear hb2 x0 x1
    go_wp2_with fail
    refine (HL.out w2 hB2.out).mono ?_
    rintro e w3 ⟨rfl, hb3⟩
    go_wp2_with fail
    go_ret
    exact ⟨rfl, hB2.out.trans (hb3.mono hB2.out.size)⟩
  | true =>
    have hr := ext_put hok
    rw [hok] at K1 K2
    simp only [if_true] at K1 K2
    have hlen : (putX p s).length ≤ 700 := by unfold putX begB; split <;> simp <;> omega
    obtain ⟨X, hX⟩ : ∃ X, putX p s = X := ⟨_, rfl⟩
    rw [hX] at K1 K2 hr hlen
    have K1 := Lib.hid K1
    have K2 := Lib.hid K2
    have KX := Lib.hid (fun (w' : World) (B cap : Nat) (hb : Below w.heap.size w w') (hs : Sees w' (some ⟨B, 0, none⟩) (vB X)) (h1 : X.length ≤ cap) (h2 : cap ≤ 9223372036854775807) => (show Calls Tryd.prog 38 #[.slice (some ⟨B, 0, none⟩) X.length cap, .int .i64 0] w' fun e w'' => e = .returned (.tuple #[.agg #[strV p, strV s], .int .i64 (X.length : Int), .int .i64 0]) ∧ Below w'.heap.size w' w'' from by
      have h := ext_any X (some ⟨B, 0, none⟩) X.length cap 0 w' rfl h1 h2 (by omega) ⟨by omega, by omega⟩ hs (hP.below hb)
      rw [hr] at h
      exact h))
    have HM := Lib.hid (fun (w' : World) => bytes_made X w' (by omega))
    have z3 := str_size X
    have e1 := eqExt ⟨p.toArray⟩ ⟨s.toArray⟩
    obtain ⟨x0, x1, _, _⟩ := T0.out.at
    clear ht hP B0 hWA hok hX hr
    go_enter Tryd.func9, Tryd.ntmps9
    go_wp2_with fail
    rw [HWA.out]
    clear HWA
    refine K1.out.mono ?_
    rintro e w1 ⟨rfl, hb1⟩
    have hB1 := Lib.hid (HB0.out.trans (hb1.mono HB0.out.size))
    have T1 := Lib.hid (T0.out.below hb1)
    clear hb1 x0 x1
    obtain ⟨x0, x1, _, _⟩ := T1.out.at
    go_wp2_with fail
    refine (K2.out w1 hB1.out).mono ?_
    rintro e w2 ⟨rfl, hb2⟩
    have hB2 := Lib.hid (hB1.out.trans (hb2.mono hB1.out.size))
    have T2 := Lib.hid (T1.out.below hb2)
    clear hb2 x0 x1
    obtain ⟨B, cap, W3, hrun, hc1, hc2, hb3, _, _, hs3⟩ := HM.out w2
    have hB3 := Lib.hid (hB2.out.trans (hb3.mono hB2.out.size))
    have T3 := Lib.hid (T2.out.below hb3)
    have KX3 := Lib.hid (KX.out W3 B cap hB3.out hs3 hc1 hc2)
    clear hb3 hs3
    go_wp2_with fail
    refine KX3.out.mono ?_
    rintro e w4 ⟨rfl, hb4⟩
    have hB4 := Lib.hid (hB3.out.trans (hb4.mono hB3.out.size))
    have T4 := (T3.out.below hb4).alloc (.cells #[strV p, strV s] 59)
    have hB5 := Lib.hid (hB4.out.alloc hB4.out.size (.cells #[strV p, strV s] 59))
    have hlt := (T3.out.below hb4).lt
    obtain ⟨x0, x1, _, _⟩ := T4.at
    clear hb4 T4
    go_wp2_with fail
    refine (HL.out _ hB5.out).mono ?_
    rintro e w6 ⟨rfl, hb6⟩
    go_wp2_with fail
    go_ret
    exact ⟨rfl, hB5.out.trans (hb6.mono hB5.out.size)⟩
theorem extidPuts_any (p s : List UInt8) (w : World) (ht : TabN w) (hP : TabP w) :
    Calls Tryd.prog 9 #[.agg #[strV p, strV s]] w fun e w' => e = .returned (.bool true) ∧ Below w.heap.size w w' := by
  by_cases h : 300 < p.length ∨ 300 < s.length
  · exact extidPuts_big p s w h ht hP
  · exact extidPuts_small p s w (by omega) (by omega) ht hP
end Go.Proofs.YtdmfladcldkmeaaDoor
namespace Go.Proofs.YtdmfladcldkmeaaDoor
open Go.ChangeShapes Go.WideShapes Go.ChangeAt Go.RowKit
set_option linter.unusedVariables false
set_option maxRecDepth 100000

set_option maxHeartbeats 4000000 in
theorem rdoc_out (l : List UInt8) (A : Option Addr) (n c : Nat) (k : Int) (w : World) (hk : I64 k) (h : k < 0 ∨ (n : Int) < k) :
    Calls Tryd.prog 35 #[.slice A n c, .int .i64 k] w (DocPost (noH 3) w) := by
  have hkl := hk.1
  have hkh := hk.2
  have HP := Lib.hid (show ∀ v W', v = hdV (noH 3) → Below w.heap.size w W' → DocPost (noH 3) w (.returned v) W' from fun v W' hv hb => ⟨by rw [hv], hb⟩)
  obtain ⟨⟨r0, r1, r2, r3, r4, r5⟩, ⟨q0, q1, q2, q3, q4, q5⟩⟩ := (Blk.new w #[.bool false, .string ⟨#[]⟩, .string ⟨#[]⟩, .string ⟨#[]⟩, .bool false, .bool false] 64 _ rfl).at6
  rcases h with h | h
  all_goals
    go_enter Tryd.func35, Tryd.ntmps35
    go_wp2_with fail
    (try simp only [Exit.inBlock, Exit.then])
    refine bodyPost_ret (by simp [results, Tryd.results35, go_sem]; first | rfl | done) rfl (HP.out _ _ rfl ?_)
    exact (Below.refl _ w).alloc (Nat.le_refl _) _

set_option maxHeartbeats 16000000 in
theorem rdoc_not (l : List UInt8) (A : Option Addr) (n c j : Nat) (w : World) (hn : l.length = n) (hnc : n ≤ c) (hm : c ≤ 9223372036854775807) (hn9 : n ≤ 1000000) (hj : j ≤ n) (hs : Sees w A (vB l)) (hpre : atB l (j : Int) dtW = false) :
    Calls Tryd.prog 35 #[.slice A n c, .int .i64 (j : Int)] w (DocPost (⟨false, [], [], [], false, false, j, 0⟩) w) := by
  have hbA := (Below.refl _ w).alloc (Nat.le_refl _) (.cells #[.bool false, .string ⟨#[]⟩, .string ⟨#[]⟩, .string ⟨#[]⟩, .bool false, .bool false] 64)
  have R0 := Blk.new w #[.bool false, .string ⟨#[]⟩, .string ⟨#[]⟩, .string ⟨#[]⟩, .bool false, .bool false] 64 _ rfl
  have i0 : (0 : Int) ≤ (j : Int) := by omega
  have i1 : (j : Int) ≤ (n : Int) := by omega
  have KA := fun (m : List UInt8) (x : Nat) (b : Bool) (hx : x ≤ n) (hm0 : m ≠ []) (hm9 : m.length ≤ 1000000) (hb : atB l (x : Int) m = b) (w' : World) (hbw : Below w.heap.size w w') => (show Calls Tryd.prog 74 #[.slice A n c, .int .i64 (x : Int), strV m] w' fun e w'' => e = .returned (.bool b) ∧ w' = w'' from by
    have h := rat_any l m A n c (x : Int) w' hn hnc hm hn9 ⟨by omega, by omega⟩ hm0 hm9 (hs.below hbw); rw [hb] at h; exact h)
  have KB := fun (i q : Nat) (k : Int) (hk : k = i) (hi : i ≤ n) (hq : blkN l l.length i = q) (w' : World) (hb : Below w.heap.size w w') => (show Calls Tryd.prog 73 #[.slice A n c, .int .i64 k] w' fun e w'' => e = .returned (.int .i64 (q : Int)) ∧ w' = w'' from by
    subst hk; have h := rblanks_any l A n c (i : Int) w' hn hnc (by omega) ⟨by omega, by omega⟩ (hs.below hb); rw [blkV_in (by omega), hq] at h; exact h)
  have KN := fun (q : Nat) (s : List UInt8) (y e0 : Int) (hi : q ≤ n) (hq : nmT l (q : Int) = (s, y, e0)) (w' : World) (hb : Below w.heap.size w w') => (show Calls Tryd.prog 80 #[.slice A n c, .int .i64 (q : Int), .bool false] w' fun e w'' => e = .returned (.tuple #[strV s, .int .i64 y, .int .i64 e0]) ∧ Below w'.heap.size w' w'' from by
    have h := rread_any l A n c (q : Int) w' false hn hnc (by omega) ⟨by omega, by omega⟩ (hs.below hb)
    rw [show readV l (q : Int) (kindP false startN) (kindP false charN) = readV l (q : Int) startN charN from rfl, readV_tr, hq] at h; exact h)
  have KX := fun (q : Nat) (p s : List UInt8) (y e0 : Int) (hi : q ≤ n) (hq : extT l (q : Int) = (p, s, y, e0)) (w' : World) (hb : Below w.heap.size w w') => (show Calls Tryd.prog 81 #[.slice A n c, .int .i64 (q : Int), .bool true] w' fun e w'' => e = .returned (.tuple #[.agg #[strV p, strV s], .int .i64 y, .int .i64 e0]) ∧ Below w'.heap.size w' w'' from by
    have h := rext_any l A n c (q : Int) w' hn hnc hm hn9 ⟨by omega, by omega⟩ (hs.below hb); rw [hq] at h; exact h)
  have LPre := Lib.hid (KA dtW j _ hj (by simp [dtW]) (by simp [dtW]) hpre)
  obtain ⟨W2, hW2⟩ : ∃ W2, w.alloc (.cells #[.bool false, .string ⟨#[]⟩, .string ⟨#[]⟩, .string ⟨#[]⟩, .bool false, .bool false] 64) = W2 := ⟨_, rfl⟩
  have HW2 := Lib.hid hW2
  rw [hW2] at hbA R0
  have hB2 := Lib.hid hbA
  have R2 := Lib.hid R0
  have HP := Lib.hid (show ∀ v W', v = hdV (⟨false, [], [], [], false, false, j, 0⟩) → Below w.heap.size w W' → DocPost (⟨false, [], [], [], false, false, j, 0⟩) w (.returned v) W' from fun v W' hv hb => ⟨by rw [hv], hb⟩)
  clear hs hn hbA R0 hW2 KA KB KN KX hpre 
  go_enter Tryd.func35, Tryd.ntmps35
  go_wp2_with fail
  rw [HW2.out]
  clear HW2
  refine (LPre.out W2 hB2.out).mono ?_
  rintro e w' ⟨rfl, rfl⟩
  obtain ⟨⟨r0, r1, r2, r3, r4, r5⟩, ⟨q0, q1, q2, q3, q4, q5⟩⟩ := R2.out.at6
  obtain ⟨⟨s0, s1, s2, s3, s4, s5⟩, _⟩ := (R2.out.set6 (.bool false) (.string ⟨#[]⟩) (.string ⟨#[]⟩) (.string ⟨#[]⟩) (.bool false) (.bool false)).at6
  unfold set6 at s0 s1 s2 s3 s4 s5
  go_wp2_with fail
  (try simp only [Exit.inBlock, Exit.then])
  refine bodyPost_ret (by simp [results, Tryd.results35, go_sem, s0, s1, s2, s3, s4, s5]; first | rfl | done) rfl (HP.out _ _ rfl ?_)
  exact below_set6 (hB2.out) (Nat.le_refl _) _ _ _ _ _ _

set_option maxHeartbeats 16000000 in
theorem rdoc_7 (l : List UInt8) (A : Option Addr) (n c j : Nat) (w : World) (hn : l.length = n) (hnc : n ≤ c) (hm : c ≤ 9223372036854775807) (hn9 : n ≤ 1000000) (hj : j ≤ n) (hs : Sees w A (vB l)) (hpre : atB l (j : Int) dtW = true) (h9 : j + 9 ≤ n) (hb9 : blkN l l.length (j + 9) = j + 9) :
    Calls Tryd.prog 35 #[.slice A n c, .int .i64 (j : Int)] w (DocPost (noH 7) w) := by
  have hbA := (Below.refl _ w).alloc (Nat.le_refl _) (.cells #[.bool false, .string ⟨#[]⟩, .string ⟨#[]⟩, .string ⟨#[]⟩, .bool false, .bool false] 64)
  have R0 := Blk.new w #[.bool false, .string ⟨#[]⟩, .string ⟨#[]⟩, .string ⟨#[]⟩, .bool false, .bool false] 64 _ rfl
  have i0 : (0 : Int) ≤ (j : Int) := by omega
  have i1 : (j : Int) ≤ (n : Int) := by omega
  have KA := fun (m : List UInt8) (x : Nat) (b : Bool) (hx : x ≤ n) (hm0 : m ≠ []) (hm9 : m.length ≤ 1000000) (hb : atB l (x : Int) m = b) (w' : World) (hbw : Below w.heap.size w w') => (show Calls Tryd.prog 74 #[.slice A n c, .int .i64 (x : Int), strV m] w' fun e w'' => e = .returned (.bool b) ∧ w' = w'' from by
    have h := rat_any l m A n c (x : Int) w' hn hnc hm hn9 ⟨by omega, by omega⟩ hm0 hm9 (hs.below hbw); rw [hb] at h; exact h)
  have KB := fun (i q : Nat) (k : Int) (hk : k = i) (hi : i ≤ n) (hq : blkN l l.length i = q) (w' : World) (hb : Below w.heap.size w w') => (show Calls Tryd.prog 73 #[.slice A n c, .int .i64 k] w' fun e w'' => e = .returned (.int .i64 (q : Int)) ∧ w' = w'' from by
    subst hk; have h := rblanks_any l A n c (i : Int) w' hn hnc (by omega) ⟨by omega, by omega⟩ (hs.below hb); rw [blkV_in (by omega), hq] at h; exact h)
  have KN := fun (q : Nat) (s : List UInt8) (y e0 : Int) (hi : q ≤ n) (hq : nmT l (q : Int) = (s, y, e0)) (w' : World) (hb : Below w.heap.size w w') => (show Calls Tryd.prog 80 #[.slice A n c, .int .i64 (q : Int), .bool false] w' fun e w'' => e = .returned (.tuple #[strV s, .int .i64 y, .int .i64 e0]) ∧ Below w'.heap.size w' w'' from by
    have h := rread_any l A n c (q : Int) w' false hn hnc (by omega) ⟨by omega, by omega⟩ (hs.below hb)
    rw [show readV l (q : Int) (kindP false startN) (kindP false charN) = readV l (q : Int) startN charN from rfl, readV_tr, hq] at h; exact h)
  have KX := fun (q : Nat) (p s : List UInt8) (y e0 : Int) (hi : q ≤ n) (hq : extT l (q : Int) = (p, s, y, e0)) (w' : World) (hb : Below w.heap.size w w') => (show Calls Tryd.prog 81 #[.slice A n c, .int .i64 (q : Int), .bool true] w' fun e w'' => e = .returned (.tuple #[.agg #[strV p, strV s], .int .i64 y, .int .i64 e0]) ∧ Below w'.heap.size w' w'' from by
    have h := rext_any l A n c (q : Int) w' hn hnc hm hn9 ⟨by omega, by omega⟩ (hs.below hb); rw [hq] at h; exact h)
  have LPre := Lib.hid (KA dtW j _ hj (by simp [dtW]) (by simp [dtW]) hpre)
  obtain ⟨W2, hW2⟩ : ∃ W2, w.alloc (.cells #[.bool false, .string ⟨#[]⟩, .string ⟨#[]⟩, .string ⟨#[]⟩, .bool false, .bool false] 64) = W2 := ⟨_, rfl⟩
  have HW2 := Lib.hid hW2
  rw [hW2] at hbA R0
  have hB2 := Lib.hid hbA
  have R2 := Lib.hid R0
  have HP := Lib.hid (show ∀ v W', v = hdV (noH 7) → Below w.heap.size w W' → DocPost (noH 7) w (.returned v) W' from fun v W' hv hb => ⟨by rw [hv], hb⟩)
  have LB1 := Lib.hid (KB (j + 9) (j + 9) ((j : Int) + 9) (by omega) h9 hb9)
  have tq : (((j + 9 : Nat) : Int) == (j : Int) + 9) = true := by simp
  have tq2 : ((j : Int) + 9 == (j : Int) + 9) = true := by simp
  clear hs hn hbA R0 hW2 KA KB KN KX hpre hb9
  go_enter Tryd.func35, Tryd.ntmps35
  go_wp2_with fail
  rw [HW2.out]
  clear HW2
  refine (LPre.out W2 hB2.out).mono ?_
  rintro e w' ⟨rfl, rfl⟩
  go_wp2_with fail
  refine (LB1.out W2 hB2.out).mono ?_
  rintro e w' ⟨rfl, rfl⟩
  obtain ⟨⟨r0, r1, r2, r3, r4, r5⟩, ⟨q0, q1, q2, q3, q4, q5⟩⟩ := R2.out.at6
  obtain ⟨⟨s0, s1, s2, s3, s4, s5⟩, _⟩ := (R2.out.set6 (.bool false) (.string ⟨#[]⟩) (.string ⟨#[]⟩) (.string ⟨#[]⟩) (.bool false) (.bool false)).at6
  unfold set6 at s0 s1 s2 s3 s4 s5
  go_wp2_with fail
  (try simp only [Exit.inBlock, Exit.then])
  refine bodyPost_ret (by simp [results, Tryd.results35, go_sem, s0, s1, s2, s3, s4, s5]; first | rfl | done) rfl (HP.out _ _ rfl ?_)
  exact below_set6 (hB2.out) (Nat.le_refl _) _ _ _ _ _ _

set_option maxHeartbeats 16000000 in
theorem rdoc_nme (l : List UInt8) (A : Option Addr) (n c j : Nat) (w : World) (hn : l.length = n) (hnc : n ≤ c) (hm : c ≤ 9223372036854775807) (hn9 : n ≤ 1000000) (hj : j ≤ n) (hs : Sees w A (vB l)) (hpre : atB l (j : Int) dtW = true) (h9 : j + 9 ≤ n) (g : Nat) (hbg : blkN l l.length (j + 9) = g) (hgne : g ≠ j + 9) (hgn : g ≤ n) (e0 : Int) (h0 : e0 ≠ 0) (hnm : nmT l (g : Int) = noT e0) :
    Calls Tryd.prog 35 #[.slice A n c, .int .i64 (j : Int)] w (DocPost (noH e0) w) := by
  have hbA := (Below.refl _ w).alloc (Nat.le_refl _) (.cells #[.bool false, .string ⟨#[]⟩, .string ⟨#[]⟩, .string ⟨#[]⟩, .bool false, .bool false] 64)
  have R0 := Blk.new w #[.bool false, .string ⟨#[]⟩, .string ⟨#[]⟩, .string ⟨#[]⟩, .bool false, .bool false] 64 _ rfl
  have i0 : (0 : Int) ≤ (j : Int) := by omega
  have i1 : (j : Int) ≤ (n : Int) := by omega
  have KA := fun (m : List UInt8) (x : Nat) (b : Bool) (hx : x ≤ n) (hm0 : m ≠ []) (hm9 : m.length ≤ 1000000) (hb : atB l (x : Int) m = b) (w' : World) (hbw : Below w.heap.size w w') => (show Calls Tryd.prog 74 #[.slice A n c, .int .i64 (x : Int), strV m] w' fun e w'' => e = .returned (.bool b) ∧ w' = w'' from by
    have h := rat_any l m A n c (x : Int) w' hn hnc hm hn9 ⟨by omega, by omega⟩ hm0 hm9 (hs.below hbw); rw [hb] at h; exact h)
  have KB := fun (i q : Nat) (k : Int) (hk : k = i) (hi : i ≤ n) (hq : blkN l l.length i = q) (w' : World) (hb : Below w.heap.size w w') => (show Calls Tryd.prog 73 #[.slice A n c, .int .i64 k] w' fun e w'' => e = .returned (.int .i64 (q : Int)) ∧ w' = w'' from by
    subst hk; have h := rblanks_any l A n c (i : Int) w' hn hnc (by omega) ⟨by omega, by omega⟩ (hs.below hb); rw [blkV_in (by omega), hq] at h; exact h)
  have KN := fun (q : Nat) (s : List UInt8) (y e0 : Int) (hi : q ≤ n) (hq : nmT l (q : Int) = (s, y, e0)) (w' : World) (hb : Below w.heap.size w w') => (show Calls Tryd.prog 80 #[.slice A n c, .int .i64 (q : Int), .bool false] w' fun e w'' => e = .returned (.tuple #[strV s, .int .i64 y, .int .i64 e0]) ∧ Below w'.heap.size w' w'' from by
    have h := rread_any l A n c (q : Int) w' false hn hnc (by omega) ⟨by omega, by omega⟩ (hs.below hb)
    rw [show readV l (q : Int) (kindP false startN) (kindP false charN) = readV l (q : Int) startN charN from rfl, readV_tr, hq] at h; exact h)
  have KX := fun (q : Nat) (p s : List UInt8) (y e0 : Int) (hi : q ≤ n) (hq : extT l (q : Int) = (p, s, y, e0)) (w' : World) (hb : Below w.heap.size w w') => (show Calls Tryd.prog 81 #[.slice A n c, .int .i64 (q : Int), .bool true] w' fun e w'' => e = .returned (.tuple #[.agg #[strV p, strV s], .int .i64 y, .int .i64 e0]) ∧ Below w'.heap.size w' w'' from by
    have h := rext_any l A n c (q : Int) w' hn hnc hm hn9 ⟨by omega, by omega⟩ (hs.below hb); rw [hq] at h; exact h)
  have LPre := Lib.hid (KA dtW j _ hj (by simp [dtW]) (by simp [dtW]) hpre)
  obtain ⟨W2, hW2⟩ : ∃ W2, w.alloc (.cells #[.bool false, .string ⟨#[]⟩, .string ⟨#[]⟩, .string ⟨#[]⟩, .bool false, .bool false] 64) = W2 := ⟨_, rfl⟩
  have HW2 := Lib.hid hW2
  rw [hW2] at hbA R0
  have hB2 := Lib.hid hbA
  have R2 := Lib.hid R0
  have HP := Lib.hid (show ∀ v W', v = hdV (noH e0) → Below w.heap.size w W' → DocPost (noH e0) w (.returned v) W' from fun v W' hv hb => ⟨by rw [hv], hb⟩)
  have LB1 := Lib.hid (KB (j + 9) g ((j : Int) + 9) (by omega) h9 hbg)
  have tq : ((g : Int) == (j : Int) + 9) = false := by rw [beq_eq_false_iff_ne]; omega
  have LN := Lib.hid (KN g [] 0 e0 hgn hnm)
  have t0 : (e0 != 0) = true := by simpa using h0
  clear hs hn hbA R0 hW2 KA KB KN KX hpre hbg hgne hnm h0
  go_enter Tryd.func35, Tryd.ntmps35
  go_wp2_with fail
  rw [HW2.out]
  clear HW2
  refine (LPre.out W2 hB2.out).mono ?_
  rintro e w' ⟨rfl, rfl⟩
  go_wp2_with fail
  refine (LB1.out W2 hB2.out).mono ?_
  rintro e w' ⟨rfl, rfl⟩
  go_wp2_with fail
  refine (LN.out W2 hB2.out).mono ?_
  rintro e w3 ⟨rfl, hb3⟩
  have hB3 := Lib.hid (hB2.out.trans (hb3.mono hB2.out.size))
  have R3 := Lib.hid (R2.out.below hb3)
  clear hb3
  obtain ⟨⟨r0, r1, r2, r3, r4, r5⟩, ⟨q0, q1, q2, q3, q4, q5⟩⟩ := R3.out.at6
  obtain ⟨⟨s0, s1, s2, s3, s4, s5⟩, _⟩ := (R3.out.set6 (.bool false) (.string ⟨#[]⟩) (.string ⟨#[]⟩) (.string ⟨#[]⟩) (.bool false) (.bool false)).at6
  unfold set6 at s0 s1 s2 s3 s4 s5
  go_wp2_with fail
  (try simp only [Exit.inBlock, Exit.then])
  refine bodyPost_ret (by simp [results, Tryd.results35, go_sem, s0, s1, s2, s3, s4, s5]; first | rfl | done) rfl (HP.out _ _ rfl ?_)
  exact below_set6 (hB3.out) (Nat.le_refl _) _ _ _ _ _ _
end Go.Proofs.YtdmfladcldkmeaaDoor
namespace Go.Proofs.YtdmfladcldkmeaaDoor
open Go.ChangeShapes Go.WideShapes Go.ChangeAt Go.RowKit
set_option linter.unusedVariables false
set_option maxRecDepth 100000

set_option maxHeartbeats 16000000 in
theorem rdoc_no_c1_opn (l : List UInt8) (A : Option Addr) (n c j : Nat) (w : World) (hn : l.length = n) (hnc : n ≤ c) (hm : c ≤ 9223372036854775807) (hn9 : n ≤ 1000000) (hj : j ≤ n) (hs : Sees w A (vB l)) (hpre : atB l (j : Int) dtW = true) (h9 : j + 9 ≤ n) (g : Nat) (hbg : blkN l l.length (j + 9) = g) (hgne : g ≠ j + 9) (hgn : g ≤ n) (key : List UInt8) (z : Nat) (hzn : z ≤ n) (hnm : nmT l (g : Int) = (key, (z : Int), 0)) (q : Nat) (hqn : q ≤ n) (hbk : blkN l l.length z = q) (hf : q = z) (ha1 : atB l (q : Int) [91] = true) :
    Calls Tryd.prog 35 #[.slice A n c, .int .i64 (j : Int)] w (DocPost (⟨true, key, [], [], false, true, (q : Int) + 1, 0⟩) w) := by
  have hbA := (Below.refl _ w).alloc (Nat.le_refl _) (.cells #[.bool false, .string ⟨#[]⟩, .string ⟨#[]⟩, .string ⟨#[]⟩, .bool false, .bool false] 64)
  have R0 := Blk.new w #[.bool false, .string ⟨#[]⟩, .string ⟨#[]⟩, .string ⟨#[]⟩, .bool false, .bool false] 64 _ rfl
  have i0 : (0 : Int) ≤ (j : Int) := by omega
  have i1 : (j : Int) ≤ (n : Int) := by omega
  have KA := fun (m : List UInt8) (x : Nat) (b : Bool) (hx : x ≤ n) (hm0 : m ≠ []) (hm9 : m.length ≤ 1000000) (hb : atB l (x : Int) m = b) (w' : World) (hbw : Below w.heap.size w w') => (show Calls Tryd.prog 74 #[.slice A n c, .int .i64 (x : Int), strV m] w' fun e w'' => e = .returned (.bool b) ∧ w' = w'' from by
    have h := rat_any l m A n c (x : Int) w' hn hnc hm hn9 ⟨by omega, by omega⟩ hm0 hm9 (hs.below hbw); rw [hb] at h; exact h)
  have KB := fun (i q : Nat) (k : Int) (hk : k = i) (hi : i ≤ n) (hq : blkN l l.length i = q) (w' : World) (hb : Below w.heap.size w w') => (show Calls Tryd.prog 73 #[.slice A n c, .int .i64 k] w' fun e w'' => e = .returned (.int .i64 (q : Int)) ∧ w' = w'' from by
    subst hk; have h := rblanks_any l A n c (i : Int) w' hn hnc (by omega) ⟨by omega, by omega⟩ (hs.below hb); rw [blkV_in (by omega), hq] at h; exact h)
  have KN := fun (q : Nat) (s : List UInt8) (y e0 : Int) (hi : q ≤ n) (hq : nmT l (q : Int) = (s, y, e0)) (w' : World) (hb : Below w.heap.size w w') => (show Calls Tryd.prog 80 #[.slice A n c, .int .i64 (q : Int), .bool false] w' fun e w'' => e = .returned (.tuple #[strV s, .int .i64 y, .int .i64 e0]) ∧ Below w'.heap.size w' w'' from by
    have h := rread_any l A n c (q : Int) w' false hn hnc (by omega) ⟨by omega, by omega⟩ (hs.below hb)
    rw [show readV l (q : Int) (kindP false startN) (kindP false charN) = readV l (q : Int) startN charN from rfl, readV_tr, hq] at h; exact h)
  have KX := fun (q : Nat) (p s : List UInt8) (y e0 : Int) (hi : q ≤ n) (hq : extT l (q : Int) = (p, s, y, e0)) (w' : World) (hb : Below w.heap.size w w') => (show Calls Tryd.prog 81 #[.slice A n c, .int .i64 (q : Int), .bool true] w' fun e w'' => e = .returned (.tuple #[.agg #[strV p, strV s], .int .i64 y, .int .i64 e0]) ∧ Below w'.heap.size w' w'' from by
    have h := rext_any l A n c (q : Int) w' hn hnc hm hn9 ⟨by omega, by omega⟩ (hs.below hb); rw [hq] at h; exact h)
  have LPre := Lib.hid (KA dtW j _ hj (by simp [dtW]) (by simp [dtW]) hpre)
  obtain ⟨W2, hW2⟩ : ∃ W2, w.alloc (.cells #[.bool false, .string ⟨#[]⟩, .string ⟨#[]⟩, .string ⟨#[]⟩, .bool false, .bool false] 64) = W2 := ⟨_, rfl⟩
  have HW2 := Lib.hid hW2
  rw [hW2] at hbA R0
  have hB2 := Lib.hid hbA
  have R2 := Lib.hid R0
  have HP := Lib.hid (show ∀ v W', v = hdV (⟨true, key, [], [], false, true, (q : Int) + 1, 0⟩) → Below w.heap.size w W' → DocPost (⟨true, key, [], [], false, true, (q : Int) + 1, 0⟩) w (.returned v) W' from fun v W' hv hb => ⟨by rw [hv], hb⟩)
  have LB1 := Lib.hid (KB (j + 9) g ((j : Int) + 9) (by omega) h9 hbg)
  have tq : ((g : Int) == (j : Int) + 9) = false := by rw [beq_eq_false_iff_ne]; omega
  have LN := Lib.hid (KN g key (z : Int) 0 hgn hnm)
  have LB := Lib.hid (KB z q (z : Int) rfl hzn hbk)
  have tg : ¬ (z : Int) < (q : Int) := by omega
  have LA1 := Lib.hid (KA [91] q _ hqn (by simp) (by simp) ha1)
  clear hs hn hbA R0 hW2 KA KB KN KX hpre hbg hgne hnm hbk ha1 hf
  go_enter Tryd.func35, Tryd.ntmps35
  go_wp2_with fail
  rw [HW2.out]
  clear HW2
  refine (LPre.out W2 hB2.out).mono ?_
  rintro e w' ⟨rfl, rfl⟩
  go_wp2_with fail
  refine (LB1.out W2 hB2.out).mono ?_
  rintro e w' ⟨rfl, rfl⟩
  go_wp2_with fail
  refine (LN.out W2 hB2.out).mono ?_
  rintro e w3 ⟨rfl, hb3⟩
  have hB3 := Lib.hid (hB2.out.trans (hb3.mono hB2.out.size))
  have R3 := Lib.hid (R2.out.below hb3)
  clear hb3
  have hlt := R3.out.lt
  have hB4 := hB3.out.alloc hB3.out.size (.cells #[.bool true, strV key, .string ⟨#[]⟩, .string ⟨#[]⟩, .bool false, .bool false] 64)
  have R4 := R3.out.alloc (.cells #[.bool true, strV key, .string ⟨#[]⟩, .string ⟨#[]⟩, .bool false, .bool false] 64)
  have H4 := Blk.new w3 #[.bool true, strV key, .string ⟨#[]⟩, .string ⟨#[]⟩, .bool false, .bool false] 64 _ rfl
  obtain ⟨W4, hW4⟩ : ∃ W4, w3.alloc (.cells #[.bool true, strV key, .string ⟨#[]⟩, .string ⟨#[]⟩, .bool false, .bool false] 64) = W4 := ⟨_, rfl⟩
  rw [hW4] at hB4 R4 H4
  have HW4 := Lib.hid hW4
  have hB4 := Lib.hid hB4
  have R4 := Lib.hid R4
  have H4 := Lib.hid H4
  have hle := Lib.hid (show w.heap.size ≤ w3.heap.size by omega)
  clear hW4
  go_wp2_with fail
  rw [HW4.out]
  clear HW4
  refine (LB.out W4 hB4.out).mono ?_
  rintro e w' ⟨rfl, rfl⟩
  go_wp2_with fail
  refine (LB.out W4 hB4.out).mono ?_
  rintro e w' ⟨rfl, rfl⟩
  go_wp2_with fail
  refine (LA1.out W4 hB4.out).mono ?_
  rintro e w' ⟨rfl, rfl⟩
  obtain ⟨⟨r0, r1, r2, r3, r4, r5⟩, ⟨q0, q1, q2, q3, q4, q5⟩⟩ := R4.out.at6
  obtain ⟨⟨x0, x1, x2, x3, x4, x5⟩, ⟨v0, v1, v2, v3, v4, v5⟩⟩ := H4.out.at6
  obtain ⟨⟨s0, s1, s2, s3, s4, s5⟩, _⟩ := ((R4.out.far (b' := w3.heap.size) (o := 5) (by omega) (.bool true)).set6 (.bool true) (strV key) (.string ⟨#[]⟩) (.string ⟨#[]⟩) (.bool false) (.bool true)).at6
  unfold set6 at s0 s1 s2 s3 s4 s5
  go_wp2_with fail
  (try simp only [Exit.inBlock, Exit.then])
  refine bodyPost_ret (by simp [results, Tryd.results35, go_sem, s0, s1, s2, s3, s4, s5]; first | rfl | done) rfl (HP.out _ _ rfl ?_)
  exact below_set6 (hB4.out.setCell hle.out _) (Nat.le_refl _) _ _ _ _ _ _

set_option maxHeartbeats 16000000 in
theorem rdoc_no_c1_cls (l : List UInt8) (A : Option Addr) (n c j : Nat) (w : World) (hn : l.length = n) (hnc : n ≤ c) (hm : c ≤ 9223372036854775807) (hn9 : n ≤ 1000000) (hj : j ≤ n) (hs : Sees w A (vB l)) (hpre : atB l (j : Int) dtW = true) (h9 : j + 9 ≤ n) (g : Nat) (hbg : blkN l l.length (j + 9) = g) (hgne : g ≠ j + 9) (hgn : g ≤ n) (key : List UInt8) (z : Nat) (hzn : z ≤ n) (hnm : nmT l (g : Int) = (key, (z : Int), 0)) (q : Nat) (hqn : q ≤ n) (hbk : blkN l l.length z = q) (hf : q = z) (ha1 : atB l (q : Int) [91] = false) (ha2 : atB l (q : Int) [62] = true) :
    Calls Tryd.prog 35 #[.slice A n c, .int .i64 (j : Int)] w (DocPost (⟨true, key, [], [], false, false, (q : Int) + 1, 0⟩) w) := by
  have hbA := (Below.refl _ w).alloc (Nat.le_refl _) (.cells #[.bool false, .string ⟨#[]⟩, .string ⟨#[]⟩, .string ⟨#[]⟩, .bool false, .bool false] 64)
  have R0 := Blk.new w #[.bool false, .string ⟨#[]⟩, .string ⟨#[]⟩, .string ⟨#[]⟩, .bool false, .bool false] 64 _ rfl
  have i0 : (0 : Int) ≤ (j : Int) := by omega
  have i1 : (j : Int) ≤ (n : Int) := by omega
  have KA := fun (m : List UInt8) (x : Nat) (b : Bool) (hx : x ≤ n) (hm0 : m ≠ []) (hm9 : m.length ≤ 1000000) (hb : atB l (x : Int) m = b) (w' : World) (hbw : Below w.heap.size w w') => (show Calls Tryd.prog 74 #[.slice A n c, .int .i64 (x : Int), strV m] w' fun e w'' => e = .returned (.bool b) ∧ w' = w'' from by
    have h := rat_any l m A n c (x : Int) w' hn hnc hm hn9 ⟨by omega, by omega⟩ hm0 hm9 (hs.below hbw); rw [hb] at h; exact h)
  have KB := fun (i q : Nat) (k : Int) (hk : k = i) (hi : i ≤ n) (hq : blkN l l.length i = q) (w' : World) (hb : Below w.heap.size w w') => (show Calls Tryd.prog 73 #[.slice A n c, .int .i64 k] w' fun e w'' => e = .returned (.int .i64 (q : Int)) ∧ w' = w'' from by
    subst hk; have h := rblanks_any l A n c (i : Int) w' hn hnc (by omega) ⟨by omega, by omega⟩ (hs.below hb); rw [blkV_in (by omega), hq] at h; exact h)
  have KN := fun (q : Nat) (s : List UInt8) (y e0 : Int) (hi : q ≤ n) (hq : nmT l (q : Int) = (s, y, e0)) (w' : World) (hb : Below w.heap.size w w') => (show Calls Tryd.prog 80 #[.slice A n c, .int .i64 (q : Int), .bool false] w' fun e w'' => e = .returned (.tuple #[strV s, .int .i64 y, .int .i64 e0]) ∧ Below w'.heap.size w' w'' from by
    have h := rread_any l A n c (q : Int) w' false hn hnc (by omega) ⟨by omega, by omega⟩ (hs.below hb)
    rw [show readV l (q : Int) (kindP false startN) (kindP false charN) = readV l (q : Int) startN charN from rfl, readV_tr, hq] at h; exact h)
  have KX := fun (q : Nat) (p s : List UInt8) (y e0 : Int) (hi : q ≤ n) (hq : extT l (q : Int) = (p, s, y, e0)) (w' : World) (hb : Below w.heap.size w w') => (show Calls Tryd.prog 81 #[.slice A n c, .int .i64 (q : Int), .bool true] w' fun e w'' => e = .returned (.tuple #[.agg #[strV p, strV s], .int .i64 y, .int .i64 e0]) ∧ Below w'.heap.size w' w'' from by
    have h := rext_any l A n c (q : Int) w' hn hnc hm hn9 ⟨by omega, by omega⟩ (hs.below hb); rw [hq] at h; exact h)
  have LPre := Lib.hid (KA dtW j _ hj (by simp [dtW]) (by simp [dtW]) hpre)
  obtain ⟨W2, hW2⟩ : ∃ W2, w.alloc (.cells #[.bool false, .string ⟨#[]⟩, .string ⟨#[]⟩, .string ⟨#[]⟩, .bool false, .bool false] 64) = W2 := ⟨_, rfl⟩
  have HW2 := Lib.hid hW2
  rw [hW2] at hbA R0
  have hB2 := Lib.hid hbA
  have R2 := Lib.hid R0
  have HP := Lib.hid (show ∀ v W', v = hdV (⟨true, key, [], [], false, false, (q : Int) + 1, 0⟩) → Below w.heap.size w W' → DocPost (⟨true, key, [], [], false, false, (q : Int) + 1, 0⟩) w (.returned v) W' from fun v W' hv hb => ⟨by rw [hv], hb⟩)
  have LB1 := Lib.hid (KB (j + 9) g ((j : Int) + 9) (by omega) h9 hbg)
  have tq : ((g : Int) == (j : Int) + 9) = false := by rw [beq_eq_false_iff_ne]; omega
  have LN := Lib.hid (KN g key (z : Int) 0 hgn hnm)
  have LB := Lib.hid (KB z q (z : Int) rfl hzn hbk)
  have tg : ¬ (z : Int) < (q : Int) := by omega
  have LA1 := Lib.hid (KA [91] q _ hqn (by simp) (by simp) ha1)
  have LA2 := Lib.hid (KA [62] q _ hqn (by simp) (by simp) ha2)
  clear hs hn hbA R0 hW2 KA KB KN KX hpre hbg hgne hnm hbk ha1 hf ha2
  go_enter Tryd.func35, Tryd.ntmps35
  go_wp2_with fail
  rw [HW2.out]
  clear HW2
  refine (LPre.out W2 hB2.out).mono ?_
  rintro e w' ⟨rfl, rfl⟩
  go_wp2_with fail
  refine (LB1.out W2 hB2.out).mono ?_
  rintro e w' ⟨rfl, rfl⟩
  go_wp2_with fail
  refine (LN.out W2 hB2.out).mono ?_
  rintro e w3 ⟨rfl, hb3⟩
  have hB3 := Lib.hid (hB2.out.trans (hb3.mono hB2.out.size))
  have R3 := Lib.hid (R2.out.below hb3)
  clear hb3
  have hlt := R3.out.lt
  have hB4 := hB3.out.alloc hB3.out.size (.cells #[.bool true, strV key, .string ⟨#[]⟩, .string ⟨#[]⟩, .bool false, .bool false] 64)
  have R4 := R3.out.alloc (.cells #[.bool true, strV key, .string ⟨#[]⟩, .string ⟨#[]⟩, .bool false, .bool false] 64)
  have H4 := Blk.new w3 #[.bool true, strV key, .string ⟨#[]⟩, .string ⟨#[]⟩, .bool false, .bool false] 64 _ rfl
  obtain ⟨W4, hW4⟩ : ∃ W4, w3.alloc (.cells #[.bool true, strV key, .string ⟨#[]⟩, .string ⟨#[]⟩, .bool false, .bool false] 64) = W4 := ⟨_, rfl⟩
  rw [hW4] at hB4 R4 H4
  have HW4 := Lib.hid hW4
  have hB4 := Lib.hid hB4
  have R4 := Lib.hid R4
  have H4 := Lib.hid H4
  have hle := Lib.hid (show w.heap.size ≤ w3.heap.size by omega)
  clear hW4
  go_wp2_with fail
  rw [HW4.out]
  clear HW4
  refine (LB.out W4 hB4.out).mono ?_
  rintro e w' ⟨rfl, rfl⟩
  go_wp2_with fail
  refine (LB.out W4 hB4.out).mono ?_
  rintro e w' ⟨rfl, rfl⟩
  go_wp2_with fail
  refine (LA1.out W4 hB4.out).mono ?_
  rintro e w' ⟨rfl, rfl⟩
  go_wp2_with fail
  refine (LA2.out W4 hB4.out).mono ?_
  rintro e w' ⟨rfl, rfl⟩
  obtain ⟨⟨r0, r1, r2, r3, r4, r5⟩, ⟨q0, q1, q2, q3, q4, q5⟩⟩ := R4.out.at6
  obtain ⟨⟨x0, x1, x2, x3, x4, x5⟩, ⟨v0, v1, v2, v3, v4, v5⟩⟩ := H4.out.at6
  obtain ⟨⟨s0, s1, s2, s3, s4, s5⟩, _⟩ := (R4.out.set6 (.bool true) (strV key) (.string ⟨#[]⟩) (.string ⟨#[]⟩) (.bool false) (.bool false)).at6
  unfold set6 at s0 s1 s2 s3 s4 s5
  go_wp2_with fail
  (try simp only [Exit.inBlock, Exit.then])
  refine bodyPost_ret (by simp [results, Tryd.results35, go_sem, s0, s1, s2, s3, s4, s5]; first | rfl | done) rfl (HP.out _ _ rfl ?_)
  exact below_set6 (hB4.out) (Nat.le_refl _) _ _ _ _ _ _

set_option maxHeartbeats 16000000 in
theorem rdoc_no_c1_bad (l : List UInt8) (A : Option Addr) (n c j : Nat) (w : World) (hn : l.length = n) (hnc : n ≤ c) (hm : c ≤ 9223372036854775807) (hn9 : n ≤ 1000000) (hj : j ≤ n) (hs : Sees w A (vB l)) (hpre : atB l (j : Int) dtW = true) (h9 : j + 9 ≤ n) (g : Nat) (hbg : blkN l l.length (j + 9) = g) (hgne : g ≠ j + 9) (hgn : g ≤ n) (key : List UInt8) (z : Nat) (hzn : z ≤ n) (hnm : nmT l (g : Int) = (key, (z : Int), 0)) (q : Nat) (hqn : q ≤ n) (hbk : blkN l l.length z = q) (hf : q = z) (ha1 : atB l (q : Int) [91] = false) (ha2 : atB l (q : Int) [62] = false) :
    Calls Tryd.prog 35 #[.slice A n c, .int .i64 (j : Int)] w (DocPost (noH 7) w) := by
  have hbA := (Below.refl _ w).alloc (Nat.le_refl _) (.cells #[.bool false, .string ⟨#[]⟩, .string ⟨#[]⟩, .string ⟨#[]⟩, .bool false, .bool false] 64)
  have R0 := Blk.new w #[.bool false, .string ⟨#[]⟩, .string ⟨#[]⟩, .string ⟨#[]⟩, .bool false, .bool false] 64 _ rfl
  have i0 : (0 : Int) ≤ (j : Int) := by omega
  have i1 : (j : Int) ≤ (n : Int) := by omega
  have KA := fun (m : List UInt8) (x : Nat) (b : Bool) (hx : x ≤ n) (hm0 : m ≠ []) (hm9 : m.length ≤ 1000000) (hb : atB l (x : Int) m = b) (w' : World) (hbw : Below w.heap.size w w') => (show Calls Tryd.prog 74 #[.slice A n c, .int .i64 (x : Int), strV m] w' fun e w'' => e = .returned (.bool b) ∧ w' = w'' from by
    have h := rat_any l m A n c (x : Int) w' hn hnc hm hn9 ⟨by omega, by omega⟩ hm0 hm9 (hs.below hbw); rw [hb] at h; exact h)
  have KB := fun (i q : Nat) (k : Int) (hk : k = i) (hi : i ≤ n) (hq : blkN l l.length i = q) (w' : World) (hb : Below w.heap.size w w') => (show Calls Tryd.prog 73 #[.slice A n c, .int .i64 k] w' fun e w'' => e = .returned (.int .i64 (q : Int)) ∧ w' = w'' from by
    subst hk; have h := rblanks_any l A n c (i : Int) w' hn hnc (by omega) ⟨by omega, by omega⟩ (hs.below hb); rw [blkV_in (by omega), hq] at h; exact h)
  have KN := fun (q : Nat) (s : List UInt8) (y e0 : Int) (hi : q ≤ n) (hq : nmT l (q : Int) = (s, y, e0)) (w' : World) (hb : Below w.heap.size w w') => (show Calls Tryd.prog 80 #[.slice A n c, .int .i64 (q : Int), .bool false] w' fun e w'' => e = .returned (.tuple #[strV s, .int .i64 y, .int .i64 e0]) ∧ Below w'.heap.size w' w'' from by
    have h := rread_any l A n c (q : Int) w' false hn hnc (by omega) ⟨by omega, by omega⟩ (hs.below hb)
    rw [show readV l (q : Int) (kindP false startN) (kindP false charN) = readV l (q : Int) startN charN from rfl, readV_tr, hq] at h; exact h)
  have KX := fun (q : Nat) (p s : List UInt8) (y e0 : Int) (hi : q ≤ n) (hq : extT l (q : Int) = (p, s, y, e0)) (w' : World) (hb : Below w.heap.size w w') => (show Calls Tryd.prog 81 #[.slice A n c, .int .i64 (q : Int), .bool true] w' fun e w'' => e = .returned (.tuple #[.agg #[strV p, strV s], .int .i64 y, .int .i64 e0]) ∧ Below w'.heap.size w' w'' from by
    have h := rext_any l A n c (q : Int) w' hn hnc hm hn9 ⟨by omega, by omega⟩ (hs.below hb); rw [hq] at h; exact h)
  have LPre := Lib.hid (KA dtW j _ hj (by simp [dtW]) (by simp [dtW]) hpre)
  obtain ⟨W2, hW2⟩ : ∃ W2, w.alloc (.cells #[.bool false, .string ⟨#[]⟩, .string ⟨#[]⟩, .string ⟨#[]⟩, .bool false, .bool false] 64) = W2 := ⟨_, rfl⟩
  have HW2 := Lib.hid hW2
  rw [hW2] at hbA R0
  have hB2 := Lib.hid hbA
  have R2 := Lib.hid R0
  have HP := Lib.hid (show ∀ v W', v = hdV (noH 7) → Below w.heap.size w W' → DocPost (noH 7) w (.returned v) W' from fun v W' hv hb => ⟨by rw [hv], hb⟩)
  have LB1 := Lib.hid (KB (j + 9) g ((j : Int) + 9) (by omega) h9 hbg)
  have tq : ((g : Int) == (j : Int) + 9) = false := by rw [beq_eq_false_iff_ne]; omega
  have LN := Lib.hid (KN g key (z : Int) 0 hgn hnm)
  have LB := Lib.hid (KB z q (z : Int) rfl hzn hbk)
  have tg : ¬ (z : Int) < (q : Int) := by omega
  have LA1 := Lib.hid (KA [91] q _ hqn (by simp) (by simp) ha1)
  have LA2 := Lib.hid (KA [62] q _ hqn (by simp) (by simp) ha2)
  clear hs hn hbA R0 hW2 KA KB KN KX hpre hbg hgne hnm hbk ha1 hf ha2
  go_enter Tryd.func35, Tryd.ntmps35
  go_wp2_with fail
  rw [HW2.out]
  clear HW2
  refine (LPre.out W2 hB2.out).mono ?_
  rintro e w' ⟨rfl, rfl⟩
  go_wp2_with fail
  refine (LB1.out W2 hB2.out).mono ?_
  rintro e w' ⟨rfl, rfl⟩
  go_wp2_with fail
  refine (LN.out W2 hB2.out).mono ?_
  rintro e w3 ⟨rfl, hb3⟩
  have hB3 := Lib.hid (hB2.out.trans (hb3.mono hB2.out.size))
  have R3 := Lib.hid (R2.out.below hb3)
  clear hb3
  have hlt := R3.out.lt
  have hB4 := hB3.out.alloc hB3.out.size (.cells #[.bool true, strV key, .string ⟨#[]⟩, .string ⟨#[]⟩, .bool false, .bool false] 64)
  have R4 := R3.out.alloc (.cells #[.bool true, strV key, .string ⟨#[]⟩, .string ⟨#[]⟩, .bool false, .bool false] 64)
  have H4 := Blk.new w3 #[.bool true, strV key, .string ⟨#[]⟩, .string ⟨#[]⟩, .bool false, .bool false] 64 _ rfl
  obtain ⟨W4, hW4⟩ : ∃ W4, w3.alloc (.cells #[.bool true, strV key, .string ⟨#[]⟩, .string ⟨#[]⟩, .bool false, .bool false] 64) = W4 := ⟨_, rfl⟩
  rw [hW4] at hB4 R4 H4
  have HW4 := Lib.hid hW4
  have hB4 := Lib.hid hB4
  have R4 := Lib.hid R4
  have H4 := Lib.hid H4
  have hle := Lib.hid (show w.heap.size ≤ w3.heap.size by omega)
  clear hW4
  go_wp2_with fail
  rw [HW4.out]
  clear HW4
  refine (LB.out W4 hB4.out).mono ?_
  rintro e w' ⟨rfl, rfl⟩
  go_wp2_with fail
  refine (LB.out W4 hB4.out).mono ?_
  rintro e w' ⟨rfl, rfl⟩
  go_wp2_with fail
  refine (LA1.out W4 hB4.out).mono ?_
  rintro e w' ⟨rfl, rfl⟩
  go_wp2_with fail
  refine (LA2.out W4 hB4.out).mono ?_
  rintro e w' ⟨rfl, rfl⟩
  obtain ⟨⟨r0, r1, r2, r3, r4, r5⟩, ⟨q0, q1, q2, q3, q4, q5⟩⟩ := R4.out.at6
  obtain ⟨⟨x0, x1, x2, x3, x4, x5⟩, ⟨v0, v1, v2, v3, v4, v5⟩⟩ := H4.out.at6
  obtain ⟨⟨s0, s1, s2, s3, s4, s5⟩, _⟩ := (R4.out.set6 (.bool false) (.string ⟨#[]⟩) (.string ⟨#[]⟩) (.string ⟨#[]⟩) (.bool false) (.bool false)).at6
  unfold set6 at s0 s1 s2 s3 s4 s5
  go_wp2_with fail
  (try simp only [Exit.inBlock, Exit.then])
  refine bodyPost_ret (by simp [results, Tryd.results35, go_sem, s0, s1, s2, s3, s4, s5]; first | rfl | done) rfl (HP.out _ _ rfl ?_)
  exact below_set6 (hB4.out) (Nat.le_refl _) _ _ _ _ _ _

set_option maxHeartbeats 16000000 in
theorem rdoc_no_c3_opn (l : List UInt8) (A : Option Addr) (n c j : Nat) (w : World) (hn : l.length = n) (hnc : n ≤ c) (hm : c ≤ 9223372036854775807) (hn9 : n ≤ 1000000) (hj : j ≤ n) (hs : Sees w A (vB l)) (hpre : atB l (j : Int) dtW = true) (h9 : j + 9 ≤ n) (g : Nat) (hbg : blkN l l.length (j + 9) = g) (hgne : g ≠ j + 9) (hgn : g ≤ n) (key : List UInt8) (z : Nat) (hzn : z ≤ n) (hnm : nmT l (g : Int) = (key, (z : Int), 0)) (q : Nat) (hqn : q ≤ n) (hbk : blkN l l.length z = q) (hf : z < q) (haS : atB l (q : Int) [83] = false) (haP : atB l (q : Int) [80] = false) (ha1 : atB l (q : Int) [91] = true) :
    Calls Tryd.prog 35 #[.slice A n c, .int .i64 (j : Int)] w (DocPost (⟨true, key, [], [], false, true, (q : Int) + 1, 0⟩) w) := by
  have hbA := (Below.refl _ w).alloc (Nat.le_refl _) (.cells #[.bool false, .string ⟨#[]⟩, .string ⟨#[]⟩, .string ⟨#[]⟩, .bool false, .bool false] 64)
  have R0 := Blk.new w #[.bool false, .string ⟨#[]⟩, .string ⟨#[]⟩, .string ⟨#[]⟩, .bool false, .bool false] 64 _ rfl
  have i0 : (0 : Int) ≤ (j : Int) := by omega
  have i1 : (j : Int) ≤ (n : Int) := by omega
  have KA := fun (m : List UInt8) (x : Nat) (b : Bool) (hx : x ≤ n) (hm0 : m ≠ []) (hm9 : m.length ≤ 1000000) (hb : atB l (x : Int) m = b) (w' : World) (hbw : Below w.heap.size w w') => (show Calls Tryd.prog 74 #[.slice A n c, .int .i64 (x : Int), strV m] w' fun e w'' => e = .returned (.bool b) ∧ w' = w'' from by
    have h := rat_any l m A n c (x : Int) w' hn hnc hm hn9 ⟨by omega, by omega⟩ hm0 hm9 (hs.below hbw); rw [hb] at h; exact h)
  have KB := fun (i q : Nat) (k : Int) (hk : k = i) (hi : i ≤ n) (hq : blkN l l.length i = q) (w' : World) (hb : Below w.heap.size w w') => (show Calls Tryd.prog 73 #[.slice A n c, .int .i64 k] w' fun e w'' => e = .returned (.int .i64 (q : Int)) ∧ w' = w'' from by
    subst hk; have h := rblanks_any l A n c (i : Int) w' hn hnc (by omega) ⟨by omega, by omega⟩ (hs.below hb); rw [blkV_in (by omega), hq] at h; exact h)
  have KN := fun (q : Nat) (s : List UInt8) (y e0 : Int) (hi : q ≤ n) (hq : nmT l (q : Int) = (s, y, e0)) (w' : World) (hb : Below w.heap.size w w') => (show Calls Tryd.prog 80 #[.slice A n c, .int .i64 (q : Int), .bool false] w' fun e w'' => e = .returned (.tuple #[strV s, .int .i64 y, .int .i64 e0]) ∧ Below w'.heap.size w' w'' from by
    have h := rread_any l A n c (q : Int) w' false hn hnc (by omega) ⟨by omega, by omega⟩ (hs.below hb)
    rw [show readV l (q : Int) (kindP false startN) (kindP false charN) = readV l (q : Int) startN charN from rfl, readV_tr, hq] at h; exact h)
  have KX := fun (q : Nat) (p s : List UInt8) (y e0 : Int) (hi : q ≤ n) (hq : extT l (q : Int) = (p, s, y, e0)) (w' : World) (hb : Below w.heap.size w w') => (show Calls Tryd.prog 81 #[.slice A n c, .int .i64 (q : Int), .bool true] w' fun e w'' => e = .returned (.tuple #[.agg #[strV p, strV s], .int .i64 y, .int .i64 e0]) ∧ Below w'.heap.size w' w'' from by
    have h := rext_any l A n c (q : Int) w' hn hnc hm hn9 ⟨by omega, by omega⟩ (hs.below hb); rw [hq] at h; exact h)
  have LPre := Lib.hid (KA dtW j _ hj (by simp [dtW]) (by simp [dtW]) hpre)
  obtain ⟨W2, hW2⟩ : ∃ W2, w.alloc (.cells #[.bool false, .string ⟨#[]⟩, .string ⟨#[]⟩, .string ⟨#[]⟩, .bool false, .bool false] 64) = W2 := ⟨_, rfl⟩
  have HW2 := Lib.hid hW2
  rw [hW2] at hbA R0
  have hB2 := Lib.hid hbA
  have R2 := Lib.hid R0
  have HP := Lib.hid (show ∀ v W', v = hdV (⟨true, key, [], [], false, true, (q : Int) + 1, 0⟩) → Below w.heap.size w W' → DocPost (⟨true, key, [], [], false, true, (q : Int) + 1, 0⟩) w (.returned v) W' from fun v W' hv hb => ⟨by rw [hv], hb⟩)
  have LB1 := Lib.hid (KB (j + 9) g ((j : Int) + 9) (by omega) h9 hbg)
  have tq : ((g : Int) == (j : Int) + 9) = false := by rw [beq_eq_false_iff_ne]; omega
  have LN := Lib.hid (KN g key (z : Int) 0 hgn hnm)
  have LB := Lib.hid (KB z q (z : Int) rfl hzn hbk)
  have tg : (z : Int) < (q : Int) := by omega
  have LS := Lib.hid (KA [83] q _ hqn (by simp) (by simp) haS)
  have LP := Lib.hid (KA [80] q _ hqn (by simp) (by simp) haP)
  have LA1 := Lib.hid (KA [91] q _ hqn (by simp) (by simp) ha1)
  clear hs hn hbA R0 hW2 KA KB KN KX hpre hbg hgne hnm hbk ha1 hf haS haP
  go_enter Tryd.func35, Tryd.ntmps35
  go_wp2_with fail
  rw [HW2.out]
  clear HW2
  refine (LPre.out W2 hB2.out).mono ?_
  rintro e w' ⟨rfl, rfl⟩
  go_wp2_with fail
  refine (LB1.out W2 hB2.out).mono ?_
  rintro e w' ⟨rfl, rfl⟩
  go_wp2_with fail
  refine (LN.out W2 hB2.out).mono ?_
  rintro e w3 ⟨rfl, hb3⟩
  have hB3 := Lib.hid (hB2.out.trans (hb3.mono hB2.out.size))
  have R3 := Lib.hid (R2.out.below hb3)
  clear hb3
  have hlt := R3.out.lt
  have hB4 := hB3.out.alloc hB3.out.size (.cells #[.bool true, strV key, .string ⟨#[]⟩, .string ⟨#[]⟩, .bool false, .bool false] 64)
  have R4 := R3.out.alloc (.cells #[.bool true, strV key, .string ⟨#[]⟩, .string ⟨#[]⟩, .bool false, .bool false] 64)
  have H4 := Blk.new w3 #[.bool true, strV key, .string ⟨#[]⟩, .string ⟨#[]⟩, .bool false, .bool false] 64 _ rfl
  obtain ⟨W4, hW4⟩ : ∃ W4, w3.alloc (.cells #[.bool true, strV key, .string ⟨#[]⟩, .string ⟨#[]⟩, .bool false, .bool false] 64) = W4 := ⟨_, rfl⟩
  rw [hW4] at hB4 R4 H4
  have HW4 := Lib.hid hW4
  have hB4 := Lib.hid hB4
  have R4 := Lib.hid R4
  have H4 := Lib.hid H4
  have hle := Lib.hid (show w.heap.size ≤ w3.heap.size by omega)
  clear hW4
  go_wp2_with fail
  rw [HW4.out]
  clear HW4
  refine (LB.out W4 hB4.out).mono ?_
  rintro e w' ⟨rfl, rfl⟩
  go_wp2_with fail
  refine (LS.out W4 hB4.out).mono ?_
  rintro e w' ⟨rfl, rfl⟩
  go_wp2_with fail
  refine (LP.out W4 hB4.out).mono ?_
  rintro e w' ⟨rfl, rfl⟩
  go_wp2_with fail
  refine (LB.out W4 hB4.out).mono ?_
  rintro e w' ⟨rfl, rfl⟩
  go_wp2_with fail
  refine (LA1.out W4 hB4.out).mono ?_
  rintro e w' ⟨rfl, rfl⟩
  obtain ⟨⟨r0, r1, r2, r3, r4, r5⟩, ⟨q0, q1, q2, q3, q4, q5⟩⟩ := R4.out.at6
  obtain ⟨⟨x0, x1, x2, x3, x4, x5⟩, ⟨v0, v1, v2, v3, v4, v5⟩⟩ := H4.out.at6
  obtain ⟨⟨s0, s1, s2, s3, s4, s5⟩, _⟩ := ((R4.out.far (b' := w3.heap.size) (o := 5) (by omega) (.bool true)).set6 (.bool true) (strV key) (.string ⟨#[]⟩) (.string ⟨#[]⟩) (.bool false) (.bool true)).at6
  unfold set6 at s0 s1 s2 s3 s4 s5
  go_wp2_with fail
  (try simp only [Exit.inBlock, Exit.then])
  refine bodyPost_ret (by simp [results, Tryd.results35, go_sem, s0, s1, s2, s3, s4, s5]; first | rfl | done) rfl (HP.out _ _ rfl ?_)
  exact below_set6 (hB4.out.setCell hle.out _) (Nat.le_refl _) _ _ _ _ _ _

set_option maxHeartbeats 16000000 in
theorem rdoc_no_c3_cls (l : List UInt8) (A : Option Addr) (n c j : Nat) (w : World) (hn : l.length = n) (hnc : n ≤ c) (hm : c ≤ 9223372036854775807) (hn9 : n ≤ 1000000) (hj : j ≤ n) (hs : Sees w A (vB l)) (hpre : atB l (j : Int) dtW = true) (h9 : j + 9 ≤ n) (g : Nat) (hbg : blkN l l.length (j + 9) = g) (hgne : g ≠ j + 9) (hgn : g ≤ n) (key : List UInt8) (z : Nat) (hzn : z ≤ n) (hnm : nmT l (g : Int) = (key, (z : Int), 0)) (q : Nat) (hqn : q ≤ n) (hbk : blkN l l.length z = q) (hf : z < q) (haS : atB l (q : Int) [83] = false) (haP : atB l (q : Int) [80] = false) (ha1 : atB l (q : Int) [91] = false) (ha2 : atB l (q : Int) [62] = true) :
    Calls Tryd.prog 35 #[.slice A n c, .int .i64 (j : Int)] w (DocPost (⟨true, key, [], [], false, false, (q : Int) + 1, 0⟩) w) := by
  have hbA := (Below.refl _ w).alloc (Nat.le_refl _) (.cells #[.bool false, .string ⟨#[]⟩, .string ⟨#[]⟩, .string ⟨#[]⟩, .bool false, .bool false] 64)
  have R0 := Blk.new w #[.bool false, .string ⟨#[]⟩, .string ⟨#[]⟩, .string ⟨#[]⟩, .bool false, .bool false] 64 _ rfl
  have i0 : (0 : Int) ≤ (j : Int) := by omega
  have i1 : (j : Int) ≤ (n : Int) := by omega
  have KA := fun (m : List UInt8) (x : Nat) (b : Bool) (hx : x ≤ n) (hm0 : m ≠ []) (hm9 : m.length ≤ 1000000) (hb : atB l (x : Int) m = b) (w' : World) (hbw : Below w.heap.size w w') => (show Calls Tryd.prog 74 #[.slice A n c, .int .i64 (x : Int), strV m] w' fun e w'' => e = .returned (.bool b) ∧ w' = w'' from by
    have h := rat_any l m A n c (x : Int) w' hn hnc hm hn9 ⟨by omega, by omega⟩ hm0 hm9 (hs.below hbw); rw [hb] at h; exact h)
  have KB := fun (i q : Nat) (k : Int) (hk : k = i) (hi : i ≤ n) (hq : blkN l l.length i = q) (w' : World) (hb : Below w.heap.size w w') => (show Calls Tryd.prog 73 #[.slice A n c, .int .i64 k] w' fun e w'' => e = .returned (.int .i64 (q : Int)) ∧ w' = w'' from by
    subst hk; have h := rblanks_any l A n c (i : Int) w' hn hnc (by omega) ⟨by omega, by omega⟩ (hs.below hb); rw [blkV_in (by omega), hq] at h; exact h)
  have KN := fun (q : Nat) (s : List UInt8) (y e0 : Int) (hi : q ≤ n) (hq : nmT l (q : Int) = (s, y, e0)) (w' : World) (hb : Below w.heap.size w w') => (show Calls Tryd.prog 80 #[.slice A n c, .int .i64 (q : Int), .bool false] w' fun e w'' => e = .returned (.tuple #[strV s, .int .i64 y, .int .i64 e0]) ∧ Below w'.heap.size w' w'' from by
    have h := rread_any l A n c (q : Int) w' false hn hnc (by omega) ⟨by omega, by omega⟩ (hs.below hb)
    rw [show readV l (q : Int) (kindP false startN) (kindP false charN) = readV l (q : Int) startN charN from rfl, readV_tr, hq] at h; exact h)
  have KX := fun (q : Nat) (p s : List UInt8) (y e0 : Int) (hi : q ≤ n) (hq : extT l (q : Int) = (p, s, y, e0)) (w' : World) (hb : Below w.heap.size w w') => (show Calls Tryd.prog 81 #[.slice A n c, .int .i64 (q : Int), .bool true] w' fun e w'' => e = .returned (.tuple #[.agg #[strV p, strV s], .int .i64 y, .int .i64 e0]) ∧ Below w'.heap.size w' w'' from by
    have h := rext_any l A n c (q : Int) w' hn hnc hm hn9 ⟨by omega, by omega⟩ (hs.below hb); rw [hq] at h; exact h)
  have LPre := Lib.hid (KA dtW j _ hj (by simp [dtW]) (by simp [dtW]) hpre)
  obtain ⟨W2, hW2⟩ : ∃ W2, w.alloc (.cells #[.bool false, .string ⟨#[]⟩, .string ⟨#[]⟩, .string ⟨#[]⟩, .bool false, .bool false] 64) = W2 := ⟨_, rfl⟩
  have HW2 := Lib.hid hW2
  rw [hW2] at hbA R0
  have hB2 := Lib.hid hbA
  have R2 := Lib.hid R0
  have HP := Lib.hid (show ∀ v W', v = hdV (⟨true, key, [], [], false, false, (q : Int) + 1, 0⟩) → Below w.heap.size w W' → DocPost (⟨true, key, [], [], false, false, (q : Int) + 1, 0⟩) w (.returned v) W' from fun v W' hv hb => ⟨by rw [hv], hb⟩)
  have LB1 := Lib.hid (KB (j + 9) g ((j : Int) + 9) (by omega) h9 hbg)
  have tq : ((g : Int) == (j : Int) + 9) = false := by rw [beq_eq_false_iff_ne]; omega
  have LN := Lib.hid (KN g key (z : Int) 0 hgn hnm)
  have LB := Lib.hid (KB z q (z : Int) rfl hzn hbk)
  have tg : (z : Int) < (q : Int) := by omega
  have LS := Lib.hid (KA [83] q _ hqn (by simp) (by simp) haS)
  have LP := Lib.hid (KA [80] q _ hqn (by simp) (by simp) haP)
  have LA1 := Lib.hid (KA [91] q _ hqn (by simp) (by simp) ha1)
  have LA2 := Lib.hid (KA [62] q _ hqn (by simp) (by simp) ha2)
  clear hs hn hbA R0 hW2 KA KB KN KX hpre hbg hgne hnm hbk ha1 hf haS haP ha2
  go_enter Tryd.func35, Tryd.ntmps35
  go_wp2_with fail
  rw [HW2.out]
  clear HW2
  refine (LPre.out W2 hB2.out).mono ?_
  rintro e w' ⟨rfl, rfl⟩
  go_wp2_with fail
  refine (LB1.out W2 hB2.out).mono ?_
  rintro e w' ⟨rfl, rfl⟩
  go_wp2_with fail
  refine (LN.out W2 hB2.out).mono ?_
  rintro e w3 ⟨rfl, hb3⟩
  have hB3 := Lib.hid (hB2.out.trans (hb3.mono hB2.out.size))
  have R3 := Lib.hid (R2.out.below hb3)
  clear hb3
  have hlt := R3.out.lt
  have hB4 := hB3.out.alloc hB3.out.size (.cells #[.bool true, strV key, .string ⟨#[]⟩, .string ⟨#[]⟩, .bool false, .bool false] 64)
  have R4 := R3.out.alloc (.cells #[.bool true, strV key, .string ⟨#[]⟩, .string ⟨#[]⟩, .bool false, .bool false] 64)
  have H4 := Blk.new w3 #[.bool true, strV key, .string ⟨#[]⟩, .string ⟨#[]⟩, .bool false, .bool false] 64 _ rfl
  obtain ⟨W4, hW4⟩ : ∃ W4, w3.alloc (.cells #[.bool true, strV key, .string ⟨#[]⟩, .string ⟨#[]⟩, .bool false, .bool false] 64) = W4 := ⟨_, rfl⟩
  rw [hW4] at hB4 R4 H4
  have HW4 := Lib.hid hW4
  have hB4 := Lib.hid hB4
  have R4 := Lib.hid R4
  have H4 := Lib.hid H4
  have hle := Lib.hid (show w.heap.size ≤ w3.heap.size by omega)
  clear hW4
  go_wp2_with fail
  rw [HW4.out]
  clear HW4
  refine (LB.out W4 hB4.out).mono ?_
  rintro e w' ⟨rfl, rfl⟩
  go_wp2_with fail
  refine (LS.out W4 hB4.out).mono ?_
  rintro e w' ⟨rfl, rfl⟩
  go_wp2_with fail
  refine (LP.out W4 hB4.out).mono ?_
  rintro e w' ⟨rfl, rfl⟩
  go_wp2_with fail
  refine (LB.out W4 hB4.out).mono ?_
  rintro e w' ⟨rfl, rfl⟩
  go_wp2_with fail
  refine (LA1.out W4 hB4.out).mono ?_
  rintro e w' ⟨rfl, rfl⟩
  go_wp2_with fail
  refine (LA2.out W4 hB4.out).mono ?_
  rintro e w' ⟨rfl, rfl⟩
  obtain ⟨⟨r0, r1, r2, r3, r4, r5⟩, ⟨q0, q1, q2, q3, q4, q5⟩⟩ := R4.out.at6
  obtain ⟨⟨x0, x1, x2, x3, x4, x5⟩, ⟨v0, v1, v2, v3, v4, v5⟩⟩ := H4.out.at6
  obtain ⟨⟨s0, s1, s2, s3, s4, s5⟩, _⟩ := (R4.out.set6 (.bool true) (strV key) (.string ⟨#[]⟩) (.string ⟨#[]⟩) (.bool false) (.bool false)).at6
  unfold set6 at s0 s1 s2 s3 s4 s5
  go_wp2_with fail
  (try simp only [Exit.inBlock, Exit.then])
  refine bodyPost_ret (by simp [results, Tryd.results35, go_sem, s0, s1, s2, s3, s4, s5]; first | rfl | done) rfl (HP.out _ _ rfl ?_)
  exact below_set6 (hB4.out) (Nat.le_refl _) _ _ _ _ _ _

set_option maxHeartbeats 16000000 in
theorem rdoc_no_c3_bad (l : List UInt8) (A : Option Addr) (n c j : Nat) (w : World) (hn : l.length = n) (hnc : n ≤ c) (hm : c ≤ 9223372036854775807) (hn9 : n ≤ 1000000) (hj : j ≤ n) (hs : Sees w A (vB l)) (hpre : atB l (j : Int) dtW = true) (h9 : j + 9 ≤ n) (g : Nat) (hbg : blkN l l.length (j + 9) = g) (hgne : g ≠ j + 9) (hgn : g ≤ n) (key : List UInt8) (z : Nat) (hzn : z ≤ n) (hnm : nmT l (g : Int) = (key, (z : Int), 0)) (q : Nat) (hqn : q ≤ n) (hbk : blkN l l.length z = q) (hf : z < q) (haS : atB l (q : Int) [83] = false) (haP : atB l (q : Int) [80] = false) (ha1 : atB l (q : Int) [91] = false) (ha2 : atB l (q : Int) [62] = false) :
    Calls Tryd.prog 35 #[.slice A n c, .int .i64 (j : Int)] w (DocPost (noH 7) w) := by
  have hbA := (Below.refl _ w).alloc (Nat.le_refl _) (.cells #[.bool false, .string ⟨#[]⟩, .string ⟨#[]⟩, .string ⟨#[]⟩, .bool false, .bool false] 64)
  have R0 := Blk.new w #[.bool false, .string ⟨#[]⟩, .string ⟨#[]⟩, .string ⟨#[]⟩, .bool false, .bool false] 64 _ rfl
  have i0 : (0 : Int) ≤ (j : Int) := by omega
  have i1 : (j : Int) ≤ (n : Int) := by omega
  have KA := fun (m : List UInt8) (x : Nat) (b : Bool) (hx : x ≤ n) (hm0 : m ≠ []) (hm9 : m.length ≤ 1000000) (hb : atB l (x : Int) m = b) (w' : World) (hbw : Below w.heap.size w w') => (show Calls Tryd.prog 74 #[.slice A n c, .int .i64 (x : Int), strV m] w' fun e w'' => e = .returned (.bool b) ∧ w' = w'' from by
    have h := rat_any l m A n c (x : Int) w' hn hnc hm hn9 ⟨by omega, by omega⟩ hm0 hm9 (hs.below hbw); rw [hb] at h; exact h)
  have KB := fun (i q : Nat) (k : Int) (hk : k = i) (hi : i ≤ n) (hq : blkN l l.length i = q) (w' : World) (hb : Below w.heap.size w w') => (show Calls Tryd.prog 73 #[.slice A n c, .int .i64 k] w' fun e w'' => e = .returned (.int .i64 (q : Int)) ∧ w' = w'' from by
    subst hk; have h := rblanks_any l A n c (i : Int) w' hn hnc (by omega) ⟨by omega, by omega⟩ (hs.below hb); rw [blkV_in (by omega), hq] at h; exact h)
  have KN := fun (q : Nat) (s : List UInt8) (y e0 : Int) (hi : q ≤ n) (hq : nmT l (q : Int) = (s, y, e0)) (w' : World) (hb : Below w.heap.size w w') => (show Calls Tryd.prog 80 #[.slice A n c, .int .i64 (q : Int), .bool false] w' fun e w'' => e = .returned (.tuple #[strV s, .int .i64 y, .int .i64 e0]) ∧ Below w'.heap.size w' w'' from by
    have h := rread_any l A n c (q : Int) w' false hn hnc (by omega) ⟨by omega, by omega⟩ (hs.below hb)
    rw [show readV l (q : Int) (kindP false startN) (kindP false charN) = readV l (q : Int) startN charN from rfl, readV_tr, hq] at h; exact h)
  have KX := fun (q : Nat) (p s : List UInt8) (y e0 : Int) (hi : q ≤ n) (hq : extT l (q : Int) = (p, s, y, e0)) (w' : World) (hb : Below w.heap.size w w') => (show Calls Tryd.prog 81 #[.slice A n c, .int .i64 (q : Int), .bool true] w' fun e w'' => e = .returned (.tuple #[.agg #[strV p, strV s], .int .i64 y, .int .i64 e0]) ∧ Below w'.heap.size w' w'' from by
    have h := rext_any l A n c (q : Int) w' hn hnc hm hn9 ⟨by omega, by omega⟩ (hs.below hb); rw [hq] at h; exact h)
  have LPre := Lib.hid (KA dtW j _ hj (by simp [dtW]) (by simp [dtW]) hpre)
  obtain ⟨W2, hW2⟩ : ∃ W2, w.alloc (.cells #[.bool false, .string ⟨#[]⟩, .string ⟨#[]⟩, .string ⟨#[]⟩, .bool false, .bool false] 64) = W2 := ⟨_, rfl⟩
  have HW2 := Lib.hid hW2
  rw [hW2] at hbA R0
  have hB2 := Lib.hid hbA
  have R2 := Lib.hid R0
  have HP := Lib.hid (show ∀ v W', v = hdV (noH 7) → Below w.heap.size w W' → DocPost (noH 7) w (.returned v) W' from fun v W' hv hb => ⟨by rw [hv], hb⟩)
  have LB1 := Lib.hid (KB (j + 9) g ((j : Int) + 9) (by omega) h9 hbg)
  have tq : ((g : Int) == (j : Int) + 9) = false := by rw [beq_eq_false_iff_ne]; omega
  have LN := Lib.hid (KN g key (z : Int) 0 hgn hnm)
  have LB := Lib.hid (KB z q (z : Int) rfl hzn hbk)
  have tg : (z : Int) < (q : Int) := by omega
  have LS := Lib.hid (KA [83] q _ hqn (by simp) (by simp) haS)
  have LP := Lib.hid (KA [80] q _ hqn (by simp) (by simp) haP)
  have LA1 := Lib.hid (KA [91] q _ hqn (by simp) (by simp) ha1)
  have LA2 := Lib.hid (KA [62] q _ hqn (by simp) (by simp) ha2)
  clear hs hn hbA R0 hW2 KA KB KN KX hpre hbg hgne hnm hbk ha1 hf haS haP ha2
  go_enter Tryd.func35, Tryd.ntmps35
  go_wp2_with fail
  rw [HW2.out]
  clear HW2
  refine (LPre.out W2 hB2.out).mono ?_
  rintro e w' ⟨rfl, rfl⟩
  go_wp2_with fail
  refine (LB1.out W2 hB2.out).mono ?_
  rintro e w' ⟨rfl, rfl⟩
  go_wp2_with fail
  refine (LN.out W2 hB2.out).mono ?_
  rintro e w3 ⟨rfl, hb3⟩
  have hB3 := Lib.hid (hB2.out.trans (hb3.mono hB2.out.size))
  have R3 := Lib.hid (R2.out.below hb3)
  clear hb3
  have hlt := R3.out.lt
  have hB4 := hB3.out.alloc hB3.out.size (.cells #[.bool true, strV key, .string ⟨#[]⟩, .string ⟨#[]⟩, .bool false, .bool false] 64)
  have R4 := R3.out.alloc (.cells #[.bool true, strV key, .string ⟨#[]⟩, .string ⟨#[]⟩, .bool false, .bool false] 64)
  have H4 := Blk.new w3 #[.bool true, strV key, .string ⟨#[]⟩, .string ⟨#[]⟩, .bool false, .bool false] 64 _ rfl
  obtain ⟨W4, hW4⟩ : ∃ W4, w3.alloc (.cells #[.bool true, strV key, .string ⟨#[]⟩, .string ⟨#[]⟩, .bool false, .bool false] 64) = W4 := ⟨_, rfl⟩
  rw [hW4] at hB4 R4 H4
  have HW4 := Lib.hid hW4
  have hB4 := Lib.hid hB4
  have R4 := Lib.hid R4
  have H4 := Lib.hid H4
  have hle := Lib.hid (show w.heap.size ≤ w3.heap.size by omega)
  clear hW4
  go_wp2_with fail
  rw [HW4.out]
  clear HW4
  refine (LB.out W4 hB4.out).mono ?_
  rintro e w' ⟨rfl, rfl⟩
  go_wp2_with fail
  refine (LS.out W4 hB4.out).mono ?_
  rintro e w' ⟨rfl, rfl⟩
  go_wp2_with fail
  refine (LP.out W4 hB4.out).mono ?_
  rintro e w' ⟨rfl, rfl⟩
  go_wp2_with fail
  refine (LB.out W4 hB4.out).mono ?_
  rintro e w' ⟨rfl, rfl⟩
  go_wp2_with fail
  refine (LA1.out W4 hB4.out).mono ?_
  rintro e w' ⟨rfl, rfl⟩
  go_wp2_with fail
  refine (LA2.out W4 hB4.out).mono ?_
  rintro e w' ⟨rfl, rfl⟩
  obtain ⟨⟨r0, r1, r2, r3, r4, r5⟩, ⟨q0, q1, q2, q3, q4, q5⟩⟩ := R4.out.at6
  obtain ⟨⟨x0, x1, x2, x3, x4, x5⟩, ⟨v0, v1, v2, v3, v4, v5⟩⟩ := H4.out.at6
  obtain ⟨⟨s0, s1, s2, s3, s4, s5⟩, _⟩ := (R4.out.set6 (.bool false) (.string ⟨#[]⟩) (.string ⟨#[]⟩) (.string ⟨#[]⟩) (.bool false) (.bool false)).at6
  unfold set6 at s0 s1 s2 s3 s4 s5
  go_wp2_with fail
  (try simp only [Exit.inBlock, Exit.then])
  refine bodyPost_ret (by simp [results, Tryd.results35, go_sem, s0, s1, s2, s3, s4, s5]; first | rfl | done) rfl (HP.out _ _ rfl ?_)
  exact below_set6 (hB4.out) (Nat.le_refl _) _ _ _ _ _ _
end Go.Proofs.YtdmfladcldkmeaaDoor
