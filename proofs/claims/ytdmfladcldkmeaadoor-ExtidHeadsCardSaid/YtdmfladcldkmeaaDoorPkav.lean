/- How a document type begins, by the document: with an identifier of the system. How a document type begins, by the document: with a public identifier. How a document type begins, whole: by the document; ExtidHeads' walk. Bytes of a row that is read. -/
import Derived.Test.YtdmfladcldkmeaaDoorPkab
import Derived.Test.YtdmfladcldkmeaaDoorPkau
namespace Go.Proofs.YtdmfladcldkmeaaDoor
open Go.ChangeShapes Go.WideShapes Go.ChangeAt Go.RowKit
set_option linter.unusedVariables false
set_option maxRecDepth 100000

set_option maxHeartbeats 16000000 in
theorem rdoc_extS_e (l : List UInt8) (A : Option Addr) (n c j : Nat) (w : World) (hn : l.length = n) (hnc : n ≤ c) (hm : c ≤ 9223372036854775807) (hn9 : n ≤ 1000000) (hj : j ≤ n) (hs : Sees w A (vB l)) (hpre : atB l (j : Int) dtW = true) (h9 : j + 9 ≤ n) (g : Nat) (hbg : blkN l l.length (j + 9) = g) (hgne : g ≠ j + 9) (hgn : g ≤ n) (key : List UInt8) (z : Nat) (hzn : z ≤ n) (hnm : nmT l (g : Int) = (key, (z : Int), 0)) (f : Nat) (hfn : f ≤ n) (hbk : blkN l l.length z = f) (hf : z < f) (haS : atB l (f : Int) [83] = true) (e0 : Int) (h0 : e0 ≠ 0) (hx : extT l (f : Int) = noX e0) :
    Calls Tryd.prog 35 #[.slice A n c, .int .i64 (j : Int)] w (DocPost (noH e0) w) := by
  have hbA := (Below.refl _ w).alloc (Nat.le_refl _) (.cells #[.bool false, .string ⟨#[]⟩, .string ⟨#[]⟩, .string ⟨#[]⟩, .bool false, .bool false] 64)
  have R0 := Blk.new w #[.bool false, .string ⟨#[]⟩, .string ⟨#[]⟩, .string ⟨#[]⟩, .bool false, .bool false] 64 _ rfl
  have i0 : (0 : Int) ≤ (j : Int) := by omega
  have i1 : (j : Int) ≤ (n : Int) := by omega
  have KA := fun (m : List UInt8) (x : Nat) (b : Bool) (hx : x ≤ n) (hm0 : m ≠ []) (hm9 : m.length ≤ 1000000) (hb : atB l (x : Int) m = b) (w' : World) (hbw : Below w.heap.size w w') => (show Calls Tryd.prog 74 #[.slice A n c, .int .i64 (x : Int), strV m] w' fun e w'' => e = .returned (.bool b) ∧ w' = w'' from by
    have h := rat_any l m A n c (x : Int) w' hn hnc hm hn9 ⟨by omega, by omega⟩ hm0 hm9 (hs.below hbw); rw [hb] at h; exact h)
  have KB := fun (i q : Nat) (k : Int) (hk : k = i) (hi : i ≤ n) (hq : blkN l l.length i = q) (w' : World) (hb : Below w.heap.size w w') => (show Calls Tryd.prog 73 #[.slice A n c, .int .i64 k] w' fun e w'' => e = .returned (.int .i64 (q : Int)) ∧ w' = w'' from by
    subst hk; have h := rblanks_any l A n c (i : Int) w' hn hnc (by omega) ⟨by omega, by omega⟩ (hs.below hb); rw [blkV_in (by omega), hq] at h; exact h)
  have KN := fun (q : Nat) (s : List UInt8) (y e0 : Int) (hi : q ≤ n) (hq : nmT l (q : Int) = (s, y, e0)) (w' : World) (hb : Below w.heap.size w w') => (show Calls Tryd.prog 80 #[.slice A n c, .int .i64 (q : Int), .bool false] w' fun e w'' => e = .returned (.tuple #[strV s, .int .i64 y, .int .i64 e0]) ∧ Below w'.heap.size w' w'' from by
    have h := rread_any l A n c (q : Int) w' false hn hnc (by omega) ⟨by omega, by omega⟩ (hs.below hb)
    rw [show readV l (q : Int) (kindP false startN) (kindP false charN) = readV l (q : Int) startN charN from rfl, readV_tr, hq] at h; exact h)
  have KX := fun (q : Nat) (p s : List UInt8) (y e0 : Int) (hi : q ≤ n) (hq : extT l (q : Int) = (p, s, y, e0)) (w' : World) (hb : Below w.heap.size w w') => (show Calls Tryd.prog 81 #[.slice A n c, .int .i64 (q : Int), .bool true] w' fun e w'' => e = .returned (.tuple #[.agg #[strV p, strV s], .int .i64 y, .int .i64 e0]) ∧ Below w'.heap.size w' w'' from by
    have h := rext_any l A n c (q : Int) w' hn hnc hm hn9 ⟨by omega, by omega⟩ (hs.below hb); rw [hq] at h; exact h)
  have LPre := Lib.hid (KA dtW j _ hj (by simp [dtW]) (by simp [dtW]) hpre)
  obtain ⟨W2, hW2⟩ : ∃ W2, w.alloc (.cells #[.bool false, .string ⟨#[]⟩, .string ⟨#[]⟩, .string ⟨#[]⟩, .bool false, .bool false] 64) = W2 := ⟨_, rfl⟩
  have HW2 := Lib.hid hW2
  rw [hW2] at hbA R0
  have hB2 := Lib.hid hbA
  have R2 := Lib.hid R0
  have HP := Lib.hid (show ∀ v W', v = hdV (noH e0) → Below w.heap.size w W' → DocPost (noH e0) w (.returned v) W' from fun v W' hv hb => ⟨by rw [hv], hb⟩)
  have LB1 := Lib.hid (KB (j + 9) g ((j : Int) + 9) (by omega) h9 hbg)
  have tq : ((g : Int) == (j : Int) + 9) = false := by rw [beq_eq_false_iff_ne]; omega
  have LN := Lib.hid (KN g key (z : Int) 0 hgn hnm)
  have LB := Lib.hid (KB z f (z : Int) rfl hzn hbk)
  have tg : (z : Int) < (f : Int) := by omega
  have LS := Lib.hid (KA [83] f _ hfn (by simp) (by simp) haS)
  have LX := Lib.hid (KX f [] [] 0 e0 hfn hx)
  have t0 : (e0 != 0) = true := by simpa using h0
  clear hs hn hbA R0 hW2 KA KB KN KX hpre hbg hgne hnm hbk hf haS hx h0
  go_enter Tryd.func35, Tryd.ntmps35
  go_wp2_with fail
  rw [HW2.out]
  clear HW2
  refine (LPre.out W2 hB2.out).mono ?_
  rintro e w' ⟨rfl, rfl⟩
  go_wp2_with fail
  refine (LB1.out W2 hB2.out).mono ?_
  rintro e w' ⟨rfl, rfl⟩
  go_wp2_with fail
  refine (LN.out W2 hB2.out).mono ?_
  rintro e w3 ⟨rfl, hb3⟩
  have hB3 := Lib.hid (hB2.out.trans (hb3.mono hB2.out.size))
  have R3 := Lib.hid (R2.out.below hb3)
  clear hb3
  have hlt := R3.out.lt
  have hB4 := hB3.out.alloc hB3.out.size (.cells #[.bool true, strV key, .string ⟨#[]⟩, .string ⟨#[]⟩, .bool false, .bool false] 64)
  have R4 := R3.out.alloc (.cells #[.bool true, strV key, .string ⟨#[]⟩, .string ⟨#[]⟩, .bool false, .bool false] 64)
  have H4 := Blk.new w3 #[.bool true, strV key, .string ⟨#[]⟩, .string ⟨#[]⟩, .bool false, .bool false] 64 _ rfl
  obtain ⟨W4, hW4⟩ : ∃ W4, w3.alloc (.cells #[.bool true, strV key, .string ⟨#[]⟩, .string ⟨#[]⟩, .bool false, .bool false] 64) = W4 := ⟨_, rfl⟩
  rw [hW4] at hB4 R4 H4
  have HW4 := Lib.hid hW4
  have hB4 := Lib.hid hB4
  have R4 := Lib.hid R4
  have H4 := Lib.hid H4
  have hle := Lib.hid (show w.heap.size ≤ w3.heap.size by omega)
  clear hW4
  go_wp2_with fail
  rw [HW4.out]
  clear HW4
  refine (LB.out W4 hB4.out).mono ?_
  rintro e w' ⟨rfl, rfl⟩
  go_wp2_with fail
  refine (LS.out W4 hB4.out).mono ?_
  rintro e w' ⟨rfl, rfl⟩
  go_wp2_with fail
  refine (LX.out W4 hB4.out).mono ?_
  rintro e w5 ⟨rfl, hb5⟩
  have hB5 := hB4.out.trans (hb5.mono hB4.out.size)
  have R5 := R4.out.below hb5
  have H5 := H4.out.below hb5
  clear hb5
  have hB6 := hB5.alloc hB5.size (.cells #[strV [], strV []] 59)
  have R6 := R5.alloc (.cells #[strV [], strV []] 59)
  have H6 := H5.alloc (.cells #[strV [], strV []] 59)
  have C6 := Two.new w5 (strV []) (strV []) 59 _ rfl
  obtain ⟨W6, hW6⟩ : ∃ W6, w5.alloc (.cells #[strV [], strV []] 59) = W6 := ⟨_, rfl⟩
  rw [hW6] at hB6 R6 H6 C6
  have HW6 := Lib.hid hW6
  have hB6 := Lib.hid hB6
  have R6 := Lib.hid R6
  have H6 := Lib.hid H6
  have C6 := Lib.hid C6
  have hn5 := Lib.hid H5.lt
  clear hB5 R5 H5 hW6
  go_upto_if 77 with (fail)
  rw [HW6.out]
  clear HW6
  obtain ⟨c0, c1, _, _⟩ := C6.out.at
  obtain ⟨⟨r0, r1, r2, r3, r4, r5⟩, ⟨q0, q1, q2, q3, q4, q5⟩⟩ := R6.out.at6
  obtain ⟨⟨s0, s1, s2, s3, s4, s5⟩, _⟩ := (R6.out.set6 (.bool false) (.string ⟨#[]⟩) (.string ⟨#[]⟩) (.string ⟨#[]⟩) (.bool false) (.bool false)).at6
  unfold set6 at s0 s1 s2 s3 s4 s5
  go_wp2_with fail
  (try simp only [Exit.inBlock, Exit.then])
  refine bodyPost_ret (by simp [results, Tryd.results35, go_sem, s0, s1, s2, s3, s4, s5]; first | rfl | done) rfl (HP.out _ _ rfl ?_)
  exact below_set6 (hB6.out) (Nat.le_refl _) _ _ _ _ _ _

set_option maxHeartbeats 16000000 in
theorem rdoc_extS_opn (l : List UInt8) (A : Option Addr) (n c j : Nat) (w : World) (hn : l.length = n) (hnc : n ≤ c) (hm : c ≤ 9223372036854775807) (hn9 : n ≤ 1000000) (hj : j ≤ n) (hs : Sees w A (vB l)) (hpre : atB l (j : Int) dtW = true) (h9 : j + 9 ≤ n) (g : Nat) (hbg : blkN l l.length (j + 9) = g) (hgne : g ≠ j + 9) (hgn : g ≤ n) (key : List UInt8) (z : Nat) (hzn : z ≤ n) (hnm : nmT l (g : Int) = (key, (z : Int), 0)) (f : Nat) (hfn : f ≤ n) (hbk : blkN l l.length z = f) (hf : z < f) (haS : atB l (f : Int) [83] = true) (p s : List UInt8) (y q : Nat) (hyn : y ≤ n) (hqn : q ≤ n) (hx : extT l (f : Int) = (p, s, (y : Int), 0)) (hbq : blkN l l.length y = q) (ha1 : atB l (q : Int) [91] = true) :
    Calls Tryd.prog 35 #[.slice A n c, .int .i64 (j : Int)] w (DocPost (⟨true, key, p, s, true, true, (q : Int) + 1, 0⟩) w) := by
  have hbA := (Below.refl _ w).alloc (Nat.le_refl _) (.cells #[.bool false, .string ⟨#[]⟩, .string ⟨#[]⟩, .string ⟨#[]⟩, .bool false, .bool false] 64)
  have R0 := Blk.new w #[.bool false, .string ⟨#[]⟩, .string ⟨#[]⟩, .string ⟨#[]⟩, .bool false, .bool false] 64 _ rfl
  have i0 : (0 : Int) ≤ (j : Int) := by omega
  have i1 : (j : Int) ≤ (n : Int) := by omega
  have KA := fun (m : List UInt8) (x : Nat) (b : Bool) (hx : x ≤ n) (hm0 : m ≠ []) (hm9 : m.length ≤ 1000000) (hb : atB l (x : Int) m = b) (w' : World) (hbw : Below w.heap.size w w') => (show Calls Tryd.prog 74 #[.slice A n c, .int .i64 (x : Int), strV m] w' fun e w'' => e = .returned (.bool b) ∧ w' = w'' from by
    have h := rat_any l m A n c (x : Int) w' hn hnc hm hn9 ⟨by omega, by omega⟩ hm0 hm9 (hs.below hbw); rw [hb] at h; exact h)
  have KB := fun (i q : Nat) (k : Int) (hk : k = i) (hi : i ≤ n) (hq : blkN l l.length i = q) (w' : World) (hb : Below w.heap.size w w') => (show Calls Tryd.prog 73 #[.slice A n c, .int .i64 k] w' fun e w'' => e = .returned (.int .i64 (q : Int)) ∧ w' = w'' from by
    subst hk; have h := rblanks_any l A n c (i : Int) w' hn hnc (by omega) ⟨by omega, by omega⟩ (hs.below hb); rw [blkV_in (by omega), hq] at h; exact h)
  have KN := fun (q : Nat) (s : List UInt8) (y e0 : Int) (hi : q ≤ n) (hq : nmT l (q : Int) = (s, y, e0)) (w' : World) (hb : Below w.heap.size w w') => (show Calls Tryd.prog 80 #[.slice A n c, .int .i64 (q : Int), .bool false] w' fun e w'' => e = .returned (.tuple #[strV s, .int .i64 y, .int .i64 e0]) ∧ Below w'.heap.size w' w'' from by
    have h := rread_any l A n c (q : Int) w' false hn hnc (by omega) ⟨by omega, by omega⟩ (hs.below hb)
    rw [show readV l (q : Int) (kindP false startN) (kindP false charN) = readV l (q : Int) startN charN from rfl, readV_tr, hq] at h; exact h)
  have KX := fun (q : Nat) (p s : List UInt8) (y e0 : Int) (hi : q ≤ n) (hq : extT l (q : Int) = (p, s, y, e0)) (w' : World) (hb : Below w.heap.size w w') => (show Calls Tryd.prog 81 #[.slice A n c, .int .i64 (q : Int), .bool true] w' fun e w'' => e = .returned (.tuple #[.agg #[strV p, strV s], .int .i64 y, .int .i64 e0]) ∧ Below w'.heap.size w' w'' from by
    have h := rext_any l A n c (q : Int) w' hn hnc hm hn9 ⟨by omega, by omega⟩ (hs.below hb); rw [hq] at h; exact h)
  have LPre := Lib.hid (KA dtW j _ hj (by simp [dtW]) (by simp [dtW]) hpre)
  obtain ⟨W2, hW2⟩ : ∃ W2, w.alloc (.cells #[.bool false, .string ⟨#[]⟩, .string ⟨#[]⟩, .string ⟨#[]⟩, .bool false, .bool false] 64) = W2 := ⟨_, rfl⟩
  have HW2 := Lib.hid hW2
  rw [hW2] at hbA R0
  have hB2 := Lib.hid hbA
  have R2 := Lib.hid R0
  have HP := Lib.hid (show ∀ v W', v = hdV (⟨true, key, p, s, true, true, (q : Int) + 1, 0⟩) → Below w.heap.size w W' → DocPost (⟨true, key, p, s, true, true, (q : Int) + 1, 0⟩) w (.returned v) W' from fun v W' hv hb => ⟨by rw [hv], hb⟩)
  have LB1 := Lib.hid (KB (j + 9) g ((j : Int) + 9) (by omega) h9 hbg)
  have tq : ((g : Int) == (j : Int) + 9) = false := by rw [beq_eq_false_iff_ne]; omega
  have LN := Lib.hid (KN g key (z : Int) 0 hgn hnm)
  have LB := Lib.hid (KB z f (z : Int) rfl hzn hbk)
  have tg : (z : Int) < (f : Int) := by omega
  have LS := Lib.hid (KA [83] f _ hfn (by simp) (by simp) haS)
  have LX := Lib.hid (KX f p s (y : Int) 0 hfn hx)
  have LB2 := Lib.hid (KB y q (y : Int) rfl hyn hbq)
  have LA1 := Lib.hid (KA [91] q _ hqn (by simp) (by simp) ha1)
  clear hs hn hbA R0 hW2 KA KB KN KX hpre hbg hgne hnm hbk hf haS hx hbq ha1
  go_enter Tryd.func35, Tryd.ntmps35
  go_wp2_with fail
  rw [HW2.out]
  clear HW2
  refine (LPre.out W2 hB2.out).mono ?_
  rintro e w' ⟨rfl, rfl⟩
  go_wp2_with fail
  refine (LB1.out W2 hB2.out).mono ?_
  rintro e w' ⟨rfl, rfl⟩
  go_wp2_with fail
  refine (LN.out W2 hB2.out).mono ?_
  rintro e w3 ⟨rfl, hb3⟩
  have hB3 := Lib.hid (hB2.out.trans (hb3.mono hB2.out.size))
  have R3 := Lib.hid (R2.out.below hb3)
  clear hb3
  have hlt := R3.out.lt
  have hB4 := hB3.out.alloc hB3.out.size (.cells #[.bool true, strV key, .string ⟨#[]⟩, .string ⟨#[]⟩, .bool false, .bool false] 64)
  have R4 := R3.out.alloc (.cells #[.bool true, strV key, .string ⟨#[]⟩, .string ⟨#[]⟩, .bool false, .bool false] 64)
  have H4 := Blk.new w3 #[.bool true, strV key, .string ⟨#[]⟩, .string ⟨#[]⟩, .bool false, .bool false] 64 _ rfl
  obtain ⟨W4, hW4⟩ : ∃ W4, w3.alloc (.cells #[.bool true, strV key, .string ⟨#[]⟩, .string ⟨#[]⟩, .bool false, .bool false] 64) = W4 := ⟨_, rfl⟩
  rw [hW4] at hB4 R4 H4
  have HW4 := Lib.hid hW4
  have hB4 := Lib.hid hB4
  have R4 := Lib.hid R4
  have H4 := Lib.hid H4
  have hle := Lib.hid (show w.heap.size ≤ w3.heap.size by omega)
  clear hW4
  go_wp2_with fail
  rw [HW4.out]
  clear HW4
  refine (LB.out W4 hB4.out).mono ?_
  rintro e w' ⟨rfl, rfl⟩
  go_wp2_with fail
  refine (LS.out W4 hB4.out).mono ?_
  rintro e w' ⟨rfl, rfl⟩
  go_wp2_with fail
  refine (LX.out W4 hB4.out).mono ?_
  rintro e w5 ⟨rfl, hb5⟩
  have hB5 := hB4.out.trans (hb5.mono hB4.out.size)
  have R5 := R4.out.below hb5
  have H5 := H4.out.below hb5
  clear hb5
  have hB6 := hB5.alloc hB5.size (.cells #[strV p, strV s] 59)
  have R6 := R5.alloc (.cells #[strV p, strV s] 59)
  have H6 := H5.alloc (.cells #[strV p, strV s] 59)
  have C6 := Two.new w5 (strV p) (strV s) 59 _ rfl
  obtain ⟨W6, hW6⟩ : ∃ W6, w5.alloc (.cells #[strV p, strV s] 59) = W6 := ⟨_, rfl⟩
  rw [hW6] at hB6 R6 H6 C6
  have HW6 := Lib.hid hW6
  have hB6 := Lib.hid hB6
  have R6 := Lib.hid R6
  have H6 := Lib.hid H6
  have C6 := Lib.hid C6
  have hn5 := Lib.hid H5.lt
  clear hB5 R5 H5 hW6
  go_upto_if 77 with (fail)
  rw [HW6.out]
  clear HW6
  obtain ⟨c0, c1, _, _⟩ := C6.out.at
  obtain ⟨⟨r0, r1, r2, r3, r4, r5⟩, ⟨q0, q1, q2, q3, q4, q5⟩⟩ := R6.out.at6
  obtain ⟨⟨x0, x1, x2, x3, x4, x5⟩, ⟨v0, v1, v2, v3, v4, v5⟩⟩ := H6.out.at6
  obtain ⟨W7, hW7⟩ : ∃ W7, ((W6.setCell ⟨w3.heap.size, 2, none⟩ (strV p)).setCell ⟨w3.heap.size, 3, none⟩ (strV s)).setCell ⟨w3.heap.size, 4, none⟩ (.bool true) = W7 := ⟨_, rfl⟩
  have hB7 := Lib.hid (show Below w.heap.size w W7 from hW7 ▸ ((hB6.out.setCell hle.out _).setCell hle.out _).setCell hle.out _)
  have R7 := Lib.hid (show Blk W7 w.heap.size #[.bool false, .string ⟨#[]⟩, .string ⟨#[]⟩, .string ⟨#[]⟩, .bool false, .bool false] 64 from hW7 ▸ ((R6.out.far (b' := w3.heap.size) (o := 2) (by omega) (strV p)).far (b' := w3.heap.size) (o := 3) (by omega) (strV s)).far (b' := w3.heap.size) (o := 4) (by omega) (.bool true))
  have H7 := Lib.hid (show Blk W7 w3.heap.size #[.bool true, strV key, strV p, strV s, .bool true, .bool false] 64 from hW7 ▸ ((H6.out.set 2 (strV p)).set 3 (strV s)).set 4 (.bool true))
  have HW7 := Lib.hid hW7
  clear hW7
  go_wp2_with fail
  rw [HW7.out]
  clear HW7 c0 c1 r0 r1 r2 r3 r4 r5 q0 q1 q2 q3 q4 q5 x0 x1 x2 x3 x4 x5 v0 v1 v2 v3 v4 v5
  refine (LB2.out W7 hB7.out).mono ?_
  rintro e w' ⟨rfl, rfl⟩
  go_wp2_with fail
  refine (LA1.out W7 hB7.out).mono ?_
  rintro e w' ⟨rfl, rfl⟩
  obtain ⟨⟨r0, r1, r2, r3, r4, r5⟩, ⟨q0, q1, q2, q3, q4, q5⟩⟩ := R7.out.at6
  obtain ⟨⟨x0, x1, x2, x3, x4, x5⟩, ⟨v0, v1, v2, v3, v4, v5⟩⟩ := H7.out.at6
  obtain ⟨⟨s0, s1, s2, s3, s4, s5⟩, _⟩ := ((R7.out.far (b' := w3.heap.size) (o := 5) (by omega) (.bool true)).set6 (.bool true) (strV key) (strV p) (strV s) (.bool true) (.bool true)).at6
  unfold set6 at s0 s1 s2 s3 s4 s5
  go_wp2_with fail
  (try simp only [Exit.inBlock, Exit.then])
  refine bodyPost_ret (by simp [results, Tryd.results35, go_sem, s0, s1, s2, s3, s4, s5]; first | rfl | done) rfl (HP.out _ _ rfl ?_)
  exact below_set6 (hB7.out.setCell hle.out _) (Nat.le_refl _) _ _ _ _ _ _

set_option maxHeartbeats 16000000 in
theorem rdoc_extS_cls (l : List UInt8) (A : Option Addr) (n c j : Nat) (w : World) (hn : l.length = n) (hnc : n ≤ c) (hm : c ≤ 9223372036854775807) (hn9 : n ≤ 1000000) (hj : j ≤ n) (hs : Sees w A (vB l)) (hpre : atB l (j : Int) dtW = true) (h9 : j + 9 ≤ n) (g : Nat) (hbg : blkN l l.length (j + 9) = g) (hgne : g ≠ j + 9) (hgn : g ≤ n) (key : List UInt8) (z : Nat) (hzn : z ≤ n) (hnm : nmT l (g : Int) = (key, (z : Int), 0)) (f : Nat) (hfn : f ≤ n) (hbk : blkN l l.length z = f) (hf : z < f) (haS : atB l (f : Int) [83] = true) (p s : List UInt8) (y q : Nat) (hyn : y ≤ n) (hqn : q ≤ n) (hx : extT l (f : Int) = (p, s, (y : Int), 0)) (hbq : blkN l l.length y = q) (ha1 : atB l (q : Int) [91] = false) (ha2 : atB l (q : Int) [62] = true) :
    Calls Tryd.prog 35 #[.slice A n c, .int .i64 (j : Int)] w (DocPost (⟨true, key, p, s, true, false, (q : Int) + 1, 0⟩) w) := by
  have hbA := (Below.refl _ w).alloc (Nat.le_refl _) (.cells #[.bool false, .string ⟨#[]⟩, .string ⟨#[]⟩, .string ⟨#[]⟩, .bool false, .bool false] 64)
  have R0 := Blk.new w #[.bool false, .string ⟨#[]⟩, .string ⟨#[]⟩, .string ⟨#[]⟩, .bool false, .bool false] 64 _ rfl
  have i0 : (0 : Int) ≤ (j : Int) := by omega
  have i1 : (j : Int) ≤ (n : Int) := by omega
  have KA := fun (m : List UInt8) (x : Nat) (b : Bool) (hx : x ≤ n) (hm0 : m ≠ []) (hm9 : m.length ≤ 1000000) (hb : atB l (x : Int) m = b) (w' : World) (hbw : Below w.heap.size w w') => (show Calls Tryd.prog 74 #[.slice A n c, .int .i64 (x : Int), strV m] w' fun e w'' => e = .returned (.bool b) ∧ w' = w'' from by
    have h := rat_any l m A n c (x : Int) w' hn hnc hm hn9 ⟨by omega, by omega⟩ hm0 hm9 (hs.below hbw); rw [hb] at h; exact h)
  have KB := fun (i q : Nat) (k : Int) (hk : k = i) (hi : i ≤ n) (hq : blkN l l.length i = q) (w' : World) (hb : Below w.heap.size w w') => (show Calls Tryd.prog 73 #[.slice A n c, .int .i64 k] w' fun e w'' => e = .returned (.int .i64 (q : Int)) ∧ w' = w'' from by
    subst hk; have h := rblanks_any l A n c (i : Int) w' hn hnc (by omega) ⟨by omega, by omega⟩ (hs.below hb); rw [blkV_in (by omega), hq] at h; exact h)
  have KN := fun (q : Nat) (s : List UInt8) (y e0 : Int) (hi : q ≤ n) (hq : nmT l (q : Int) = (s, y, e0)) (w' : World) (hb : Below w.heap.size w w') => (show Calls Tryd.prog 80 #[.slice A n c, .int .i64 (q : Int), .bool false] w' fun e w'' => e = .returned (.tuple #[strV s, .int .i64 y, .int .i64 e0]) ∧ Below w'.heap.size w' w'' from by
    have h := rread_any l A n c (q : Int) w' false hn hnc (by omega) ⟨by omega, by omega⟩ (hs.below hb)
    rw [show readV l (q : Int) (kindP false startN) (kindP false charN) = readV l (q : Int) startN charN from rfl, readV_tr, hq] at h; exact h)
  have KX := fun (q : Nat) (p s : List UInt8) (y e0 : Int) (hi : q ≤ n) (hq : extT l (q : Int) = (p, s, y, e0)) (w' : World) (hb : Below w.heap.size w w') => (show Calls Tryd.prog 81 #[.slice A n c, .int .i64 (q : Int), .bool true] w' fun e w'' => e = .returned (.tuple #[.agg #[strV p, strV s], .int .i64 y, .int .i64 e0]) ∧ Below w'.heap.size w' w'' from by
    have h := rext_any l A n c (q : Int) w' hn hnc hm hn9 ⟨by omega, by omega⟩ (hs.below hb); rw [hq] at h; exact h)
  have LPre := Lib.hid (KA dtW j _ hj (by simp [dtW]) (by simp [dtW]) hpre)
  obtain ⟨W2, hW2⟩ : ∃ W2, w.alloc (.cells #[.bool false, .string ⟨#[]⟩, .string ⟨#[]⟩, .string ⟨#[]⟩, .bool false, .bool false] 64) = W2 := ⟨_, rfl⟩
  have HW2 := Lib.hid hW2
  rw [hW2] at hbA R0
  have hB2 := Lib.hid hbA
  have R2 := Lib.hid R0
  have HP := Lib.hid (show ∀ v W', v = hdV (⟨true, key, p, s, true, false, (q : Int) + 1, 0⟩) → Below w.heap.size w W' → DocPost (⟨true, key, p, s, true, false, (q : Int) + 1, 0⟩) w (.returned v) W' from fun v W' hv hb => ⟨by rw [hv], hb⟩)
  have LB1 := Lib.hid (KB (j + 9) g ((j : Int) + 9) (by omega) h9 hbg)
  have tq : ((g : Int) == (j : Int) + 9) = false := by rw [beq_eq_false_iff_ne]; omega
  have LN := Lib.hid (KN g key (z : Int) 0 hgn hnm)
  have LB := Lib.hid (KB z f (z : Int) rfl hzn hbk)
  have tg : (z : Int) < (f : Int) := by omega
  have LS := Lib.hid (KA [83] f _ hfn (by simp) (by simp) haS)
  have LX := Lib.hid (KX f p s (y : Int) 0 hfn hx)
  have LB2 := Lib.hid (KB y q (y : Int) rfl hyn hbq)
  have LA1 := Lib.hid (KA [91] q _ hqn (by simp) (by simp) ha1)
  have LA2 := Lib.hid (KA [62] q _ hqn (by simp) (by simp) ha2)
  clear hs hn hbA R0 hW2 KA KB KN KX hpre hbg hgne hnm hbk hf haS hx hbq ha1 ha2
  go_enter Tryd.func35, Tryd.ntmps35
  go_wp2_with fail
  rw [HW2.out]
  clear HW2
  refine (LPre.out W2 hB2.out).mono ?_
  rintro e w' ⟨rfl, rfl⟩
  go_wp2_with fail
  refine (LB1.out W2 hB2.out).mono ?_
  rintro e w' ⟨rfl, rfl⟩
  go_wp2_with fail
  refine (LN.out W2 hB2.out).mono ?_
  rintro e w3 ⟨rfl, hb3⟩
  have hB3 := Lib.hid (hB2.out.trans (hb3.mono hB2.out.size))
  have R3 := Lib.hid (R2.out.below hb3)
  clear hb3
  have hlt := R3.out.lt
  have hB4 := hB3.out.alloc hB3.out.size (.cells #[.bool true, strV key, .string ⟨#[]⟩, .string ⟨#[]⟩, .bool false, .bool false] 64)
  have R4 := R3.out.alloc (.cells #[.bool true, strV key, .string ⟨#[]⟩, .string ⟨#[]⟩, .bool false, .bool false] 64)
  have H4 := Blk.new w3 #[.bool true, strV key, .string ⟨#[]⟩, .string ⟨#[]⟩, .bool false, .bool false] 64 _ rfl
  obtain ⟨W4, hW4⟩ : ∃ W4, w3.alloc (.cells #[.bool true, strV key, .string ⟨#[]⟩, .string ⟨#[]⟩, .bool false, .bool false] 64) = W4 := ⟨_, rfl⟩
  rw [hW4] at hB4 R4 H4
  have HW4 := Lib.hid hW4
  have hB4 := Lib.hid hB4
  have R4 := Lib.hid R4
  have H4 := Lib.hid H4
  have hle := Lib.hid (show w.heap.size ≤ w3.heap.size by omega)
  clear hW4
  go_wp2_with fail
  rw [HW4.out]
  clear HW4
  refine (LB.out W4 hB4.out).mono ?_
  rintro e w' ⟨rfl, rfl⟩
  go_wp2_with fail
  refine (LS.out W4 hB4.out).mono ?_
  rintro e w' ⟨rfl, rfl⟩
  go_wp2_with fail
  refine (LX.out W4 hB4.out).mono ?_
  rintro e w5 ⟨rfl, hb5⟩
  have hB5 := hB4.out.trans (hb5.mono hB4.out.size)
  have R5 := R4.out.below hb5
  have H5 := H4.out.below hb5
  clear hb5
  have hB6 := hB5.alloc hB5.size (.cells #[strV p, strV s] 59)
  have R6 := R5.alloc (.cells #[strV p, strV s] 59)
  have H6 := H5.alloc (.cells #[strV p, strV s] 59)
  have C6 := Two.new w5 (strV p) (strV s) 59 _ rfl
  obtain ⟨W6, hW6⟩ : ∃ W6, w5.alloc (.cells #[strV p, strV s] 59) = W6 := ⟨_, rfl⟩
  rw [hW6] at hB6 R6 H6 C6
  have HW6 := Lib.hid hW6
  have hB6 := Lib.hid hB6
  have R6 := Lib.hid R6
  have H6 := Lib.hid H6
  have C6 := Lib.hid C6
  have hn5 := Lib.hid H5.lt
  clear hB5 R5 H5 hW6
  go_upto_if 77 with (fail)
  rw [HW6.out]
  clear HW6
  obtain ⟨c0, c1, _, _⟩ := C6.out.at
  obtain ⟨⟨r0, r1, r2, r3, r4, r5⟩, ⟨q0, q1, q2, q3, q4, q5⟩⟩ := R6.out.at6
  obtain ⟨⟨x0, x1, x2, x3, x4, x5⟩, ⟨v0, v1, v2, v3, v4, v5⟩⟩ := H6.out.at6
  obtain ⟨W7, hW7⟩ : ∃ W7, ((W6.setCell ⟨w3.heap.size, 2, none⟩ (strV p)).setCell ⟨w3.heap.size, 3, none⟩ (strV s)).setCell ⟨w3.heap.size, 4, none⟩ (.bool true) = W7 := ⟨_, rfl⟩
  have hB7 := Lib.hid (show Below w.heap.size w W7 from hW7 ▸ ((hB6.out.setCell hle.out _).setCell hle.out _).setCell hle.out _)
  have R7 := Lib.hid (show Blk W7 w.heap.size #[.bool false, .string ⟨#[]⟩, .string ⟨#[]⟩, .string ⟨#[]⟩, .bool false, .bool false] 64 from hW7 ▸ ((R6.out.far (b' := w3.heap.size) (o := 2) (by omega) (strV p)).far (b' := w3.heap.size) (o := 3) (by omega) (strV s)).far (b' := w3.heap.size) (o := 4) (by omega) (.bool true))
  have H7 := Lib.hid (show Blk W7 w3.heap.size #[.bool true, strV key, strV p, strV s, .bool true, .bool false] 64 from hW7 ▸ ((H6.out.set 2 (strV p)).set 3 (strV s)).set 4 (.bool true))
  have HW7 := Lib.hid hW7
  clear hW7
  go_wp2_with fail
  rw [HW7.out]
  clear HW7 c0 c1 r0 r1 r2 r3 r4 r5 q0 q1 q2 q3 q4 q5 x0 x1 x2 x3 x4 x5 v0 v1 v2 v3 v4 v5
  refine (LB2.out W7 hB7.out).mono ?_
  rintro e w' ⟨rfl, rfl⟩
  go_wp2_with fail
  refine (LA1.out W7 hB7.out).mono ?_
  rintro e w' ⟨rfl, rfl⟩
  go_wp2_with fail
  refine (LA2.out W7 hB7.out).mono ?_
  rintro e w' ⟨rfl, rfl⟩
  obtain ⟨⟨r0, r1, r2, r3, r4, r5⟩, ⟨q0, q1, q2, q3, q4, q5⟩⟩ := R7.out.at6
  obtain ⟨⟨x0, x1, x2, x3, x4, x5⟩, ⟨v0, v1, v2, v3, v4, v5⟩⟩ := H7.out.at6
  obtain ⟨⟨s0, s1, s2, s3, s4, s5⟩, _⟩ := (R7.out.set6 (.bool true) (strV key) (strV p) (strV s) (.bool true) (.bool false)).at6
  unfold set6 at s0 s1 s2 s3 s4 s5
  go_wp2_with fail
  (try simp only [Exit.inBlock, Exit.then])
  refine bodyPost_ret (by simp [results, Tryd.results35, go_sem, s0, s1, s2, s3, s4, s5]; first | rfl | done) rfl (HP.out _ _ rfl ?_)
  exact below_set6 (hB7.out) (Nat.le_refl _) _ _ _ _ _ _

set_option maxHeartbeats 16000000 in
theorem rdoc_extS_bad (l : List UInt8) (A : Option Addr) (n c j : Nat) (w : World) (hn : l.length = n) (hnc : n ≤ c) (hm : c ≤ 9223372036854775807) (hn9 : n ≤ 1000000) (hj : j ≤ n) (hs : Sees w A (vB l)) (hpre : atB l (j : Int) dtW = true) (h9 : j + 9 ≤ n) (g : Nat) (hbg : blkN l l.length (j + 9) = g) (hgne : g ≠ j + 9) (hgn : g ≤ n) (key : List UInt8) (z : Nat) (hzn : z ≤ n) (hnm : nmT l (g : Int) = (key, (z : Int), 0)) (f : Nat) (hfn : f ≤ n) (hbk : blkN l l.length z = f) (hf : z < f) (haS : atB l (f : Int) [83] = true) (p s : List UInt8) (y q : Nat) (hyn : y ≤ n) (hqn : q ≤ n) (hx : extT l (f : Int) = (p, s, (y : Int), 0)) (hbq : blkN l l.length y = q) (ha1 : atB l (q : Int) [91] = false) (ha2 : atB l (q : Int) [62] = false) :
    Calls Tryd.prog 35 #[.slice A n c, .int .i64 (j : Int)] w (DocPost (noH 7) w) := by
  have hbA := (Below.refl _ w).alloc (Nat.le_refl _) (.cells #[.bool false, .string ⟨#[]⟩, .string ⟨#[]⟩, .string ⟨#[]⟩, .bool false, .bool false] 64)
  have R0 := Blk.new w #[.bool false, .string ⟨#[]⟩, .string ⟨#[]⟩, .string ⟨#[]⟩, .bool false, .bool false] 64 _ rfl
  have i0 : (0 : Int) ≤ (j : Int) := by omega
  have i1 : (j : Int) ≤ (n : Int) := by omega
  have KA := fun (m : List UInt8) (x : Nat) (b : Bool) (hx : x ≤ n) (hm0 : m ≠ []) (hm9 : m.length ≤ 1000000) (hb : atB l (x : Int) m = b) (w' : World) (hbw : Below w.heap.size w w') => (show Calls Tryd.prog 74 #[.slice A n c, .int .i64 (x : Int), strV m] w' fun e w'' => e = .returned (.bool b) ∧ w' = w'' from by
    have h := rat_any l m A n c (x : Int) w' hn hnc hm hn9 ⟨by omega, by omega⟩ hm0 hm9 (hs.below hbw); rw [hb] at h; exact h)
  have KB := fun (i q : Nat) (k : Int) (hk : k = i) (hi : i ≤ n) (hq : blkN l l.length i = q) (w' : World) (hb : Below w.heap.size w w') => (show Calls Tryd.prog 73 #[.slice A n c, .int .i64 k] w' fun e w'' => e = .returned (.int .i64 (q : Int)) ∧ w' = w'' from by
    subst hk; have h := rblanks_any l A n c (i : Int) w' hn hnc (by omega) ⟨by omega, by omega⟩ (hs.below hb); rw [blkV_in (by omega), hq] at h; exact h)
  have KN := fun (q : Nat) (s : List UInt8) (y e0 : Int) (hi : q ≤ n) (hq : nmT l (q : Int) = (s, y, e0)) (w' : World) (hb : Below w.heap.size w w') => (show Calls Tryd.prog 80 #[.slice A n c, .int .i64 (q : Int), .bool false] w' fun e w'' => e = .returned (.tuple #[strV s, .int .i64 y, .int .i64 e0]) ∧ Below w'.heap.size w' w'' from by
    have h := rread_any l A n c (q : Int) w' false hn hnc (by omega) ⟨by omega, by omega⟩ (hs.below hb)
    rw [show readV l (q : Int) (kindP false startN) (kindP false charN) = readV l (q : Int) startN charN from rfl, readV_tr, hq] at h; exact h)
  have KX := fun (q : Nat) (p s : List UInt8) (y e0 : Int) (hi : q ≤ n) (hq : extT l (q : Int) = (p, s, y, e0)) (w' : World) (hb : Below w.heap.size w w') => (show Calls Tryd.prog 81 #[.slice A n c, .int .i64 (q : Int), .bool true] w' fun e w'' => e = .returned (.tuple #[.agg #[strV p, strV s], .int .i64 y, .int .i64 e0]) ∧ Below w'.heap.size w' w'' from by
    have h := rext_any l A n c (q : Int) w' hn hnc hm hn9 ⟨by omega, by omega⟩ (hs.below hb); rw [hq] at h; exact h)
  have LPre := Lib.hid (KA dtW j _ hj (by simp [dtW]) (by simp [dtW]) hpre)
  obtain ⟨W2, hW2⟩ : ∃ W2, w.alloc (.cells #[.bool false, .string ⟨#[]⟩, .string ⟨#[]⟩, .string ⟨#[]⟩, .bool false, .bool false] 64) = W2 := ⟨_, rfl⟩
  have HW2 := Lib.hid hW2
  rw [hW2] at hbA R0
  have hB2 := Lib.hid hbA
  have R2 := Lib.hid R0
  have HP := Lib.hid (show ∀ v W', v = hdV (noH 7) → Below w.heap.size w W' → DocPost (noH 7) w (.returned v) W' from fun v W' hv hb => ⟨by rw [hv], hb⟩)
  have LB1 := Lib.hid (KB (j + 9) g ((j : Int) + 9) (by omega) h9 hbg)
  have tq : ((g : Int) == (j : Int) + 9) = false := by rw [beq_eq_false_iff_ne]; omega
  have LN := Lib.hid (KN g key (z : Int) 0 hgn hnm)
  have LB := Lib.hid (KB z f (z : Int) rfl hzn hbk)
  have tg : (z : Int) < (f : Int) := by omega
  have LS := Lib.hid (KA [83] f _ hfn (by simp) (by simp) haS)
  have LX := Lib.hid (KX f p s (y : Int) 0 hfn hx)
  have LB2 := Lib.hid (KB y q (y : Int) rfl hyn hbq)
  have LA1 := Lib.hid (KA [91] q _ hqn (by simp) (by simp) ha1)
  have LA2 := Lib.hid (KA [62] q _ hqn (by simp) (by simp) ha2)
  clear hs hn hbA R0 hW2 KA KB KN KX hpre hbg hgne hnm hbk hf haS hx hbq ha1 ha2
  go_enter Tryd.func35, Tryd.ntmps35
  go_wp2_with fail
  rw [HW2.out]
  clear HW2
  refine (LPre.out W2 hB2.out).mono ?_
  rintro e w' ⟨rfl, rfl⟩
  go_wp2_with fail
  refine (LB1.out W2 hB2.out).mono ?_
  rintro e w' ⟨rfl, rfl⟩
  go_wp2_with fail
  refine (LN.out W2 hB2.out).mono ?_
  rintro e w3 ⟨rfl, hb3⟩
  have hB3 := Lib.hid (hB2.out.trans (hb3.mono hB2.out.size))
  have R3 := Lib.hid (R2.out.below hb3)
  clear hb3
  have hlt := R3.out.lt
  have hB4 := hB3.out.alloc hB3.out.size (.cells #[.bool true, strV key, .string ⟨#[]⟩, .string ⟨#[]⟩, .bool false, .bool false] 64)
  have R4 := R3.out.alloc (.cells #[.bool true, strV key, .string ⟨#[]⟩, .string ⟨#[]⟩, .bool false, .bool false] 64)
  have H4 := Blk.new w3 #[.bool true, strV key, .string ⟨#[]⟩, .string ⟨#[]⟩, .bool false, .bool false] 64 _ rfl
  obtain ⟨W4, hW4⟩ : ∃ W4, w3.alloc (.cells #[.bool true, strV key, .string ⟨#[]⟩, .string ⟨#[]⟩, .bool false, .bool false] 64) = W4 := ⟨_, rfl⟩
  rw [hW4] at hB4 R4 H4
  have HW4 := Lib.hid hW4
  have hB4 := Lib.hid hB4
  have R4 := Lib.hid R4
  have H4 := Lib.hid H4
  have hle := Lib.hid (show w.heap.size ≤ w3.heap.size by omega)
  clear hW4
  go_wp2_with fail
  rw [HW4.out]
  clear HW4
  refine (LB.out W4 hB4.out).mono ?_
  rintro e w' ⟨rfl, rfl⟩
  go_wp2_with fail
  refine (LS.out W4 hB4.out).mono ?_
  rintro e w' ⟨rfl, rfl⟩
  go_wp2_with fail
  refine (LX.out W4 hB4.out).mono ?_
  rintro e w5 ⟨rfl, hb5⟩
  have hB5 := hB4.out.trans (hb5.mono hB4.out.size)
  have R5 := R4.out.below hb5
  have H5 := H4.out.below hb5
  clear hb5
  have hB6 := hB5.alloc hB5.size (.cells #[strV p, strV s] 59)
  have R6 := R5.alloc (.cells #[strV p, strV s] 59)
  have H6 := H5.alloc (.cells #[strV p, strV s] 59)
  have C6 := Two.new w5 (strV p) (strV s) 59 _ rfl
  obtain ⟨W6, hW6⟩ : ∃ W6, w5.alloc (.cells #[strV p, strV s] 59) = W6 := ⟨_, rfl⟩
  rw [hW6] at hB6 R6 H6 C6
  have HW6 := Lib.hid hW6
  have hB6 := Lib.hid hB6
  have R6 := Lib.hid R6
  have H6 := Lib.hid H6
  have C6 := Lib.hid C6
  have hn5 := Lib.hid H5.lt
  clear hB5 R5 H5 hW6
  go_upto_if 77 with (fail)
  rw [HW6.out]
  clear HW6
  obtain ⟨c0, c1, _, _⟩ := C6.out.at
  obtain ⟨⟨r0, r1, r2, r3, r4, r5⟩, ⟨q0, q1, q2, q3, q4, q5⟩⟩ := R6.out.at6
  obtain ⟨⟨x0, x1, x2, x3, x4, x5⟩, ⟨v0, v1, v2, v3, v4, v5⟩⟩ := H6.out.at6
  obtain ⟨W7, hW7⟩ : ∃ W7, ((W6.setCell ⟨w3.heap.size, 2, none⟩ (strV p)).setCell ⟨w3.heap.size, 3, none⟩ (strV s)).setCell ⟨w3.heap.size, 4, none⟩ (.bool true) = W7 := ⟨_, rfl⟩
  have hB7 := Lib.hid (show Below w.heap.size w W7 from hW7 ▸ ((hB6.out.setCell hle.out _).setCell hle.out _).setCell hle.out _)
  have R7 := Lib.hid (show Blk W7 w.heap.size #[.bool false, .string ⟨#[]⟩, .string ⟨#[]⟩, .string ⟨#[]⟩, .bool false, .bool false] 64 from hW7 ▸ ((R6.out.far (b' := w3.heap.size) (o := 2) (by omega) (strV p)).far (b' := w3.heap.size) (o := 3) (by omega) (strV s)).far (b' := w3.heap.size) (o := 4) (by omega) (.bool true))
  have H7 := Lib.hid (show Blk W7 w3.heap.size #[.bool true, strV key, strV p, strV s, .bool true, .bool false] 64 from hW7 ▸ ((H6.out.set 2 (strV p)).set 3 (strV s)).set 4 (.bool true))
  have HW7 := Lib.hid hW7
  clear hW7
  go_wp2_with fail
  rw [HW7.out]
  clear HW7 c0 c1 r0 r1 r2 r3 r4 r5 q0 q1 q2 q3 q4 q5 x0 x1 x2 x3 x4 x5 v0 v1 v2 v3 v4 v5
  refine (LB2.out W7 hB7.out).mono ?_
  rintro e w' ⟨rfl, rfl⟩
  go_wp2_with fail
  refine (LA1.out W7 hB7.out).mono ?_
  rintro e w' ⟨rfl, rfl⟩
  go_wp2_with fail
  refine (LA2.out W7 hB7.out).mono ?_
  rintro e w' ⟨rfl, rfl⟩
  obtain ⟨⟨r0, r1, r2, r3, r4, r5⟩, ⟨q0, q1, q2, q3, q4, q5⟩⟩ := R7.out.at6
  obtain ⟨⟨x0, x1, x2, x3, x4, x5⟩, ⟨v0, v1, v2, v3, v4, v5⟩⟩ := H7.out.at6
  obtain ⟨⟨s0, s1, s2, s3, s4, s5⟩, _⟩ := (R7.out.set6 (.bool false) (.string ⟨#[]⟩) (.string ⟨#[]⟩) (.string ⟨#[]⟩) (.bool false) (.bool false)).at6
  unfold set6 at s0 s1 s2 s3 s4 s5
  go_wp2_with fail
  (try simp only [Exit.inBlock, Exit.then])
  refine bodyPost_ret (by simp [results, Tryd.results35, go_sem, s0, s1, s2, s3, s4, s5]; first | rfl | done) rfl (HP.out _ _ rfl ?_)
  exact below_set6 (hB7.out) (Nat.le_refl _) _ _ _ _ _ _
end Go.Proofs.YtdmfladcldkmeaaDoor
namespace Go.Proofs.YtdmfladcldkmeaaDoor
open Go.ChangeShapes Go.WideShapes Go.ChangeAt Go.RowKit
set_option linter.unusedVariables false
set_option maxRecDepth 100000

set_option maxHeartbeats 16000000 in
theorem rdoc_extP_e (l : List UInt8) (A : Option Addr) (n c j : Nat) (w : World) (hn : l.length = n) (hnc : n ≤ c) (hm : c ≤ 9223372036854775807) (hn9 : n ≤ 1000000) (hj : j ≤ n) (hs : Sees w A (vB l)) (hpre : atB l (j : Int) dtW = true) (h9 : j + 9 ≤ n) (g : Nat) (hbg : blkN l l.length (j + 9) = g) (hgne : g ≠ j + 9) (hgn : g ≤ n) (key : List UInt8) (z : Nat) (hzn : z ≤ n) (hnm : nmT l (g : Int) = (key, (z : Int), 0)) (f : Nat) (hfn : f ≤ n) (hbk : blkN l l.length z = f) (hf : z < f) (haS : atB l (f : Int) [83] = false) (haP : atB l (f : Int) [80] = true) (e0 : Int) (h0 : e0 ≠ 0) (hx : extT l (f : Int) = noX e0) :
    Calls Tryd.prog 35 #[.slice A n c, .int .i64 (j : Int)] w (DocPost (noH e0) w) := by
  have hbA := (Below.refl _ w).alloc (Nat.le_refl _) (.cells #[.bool false, .string ⟨#[]⟩, .string ⟨#[]⟩, .string ⟨#[]⟩, .bool false, .bool false] 64)
  have R0 := Blk.new w #[.bool false, .string ⟨#[]⟩, .string ⟨#[]⟩, .string ⟨#[]⟩, .bool false, .bool false] 64 _ rfl
  have i0 : (0 : Int) ≤ (j : Int) := by omega
  have i1 : (j : Int) ≤ (n : Int) := by omega
  have KA := fun (m : List UInt8) (x : Nat) (b : Bool) (hx : x ≤ n) (hm0 : m ≠ []) (hm9 : m.length ≤ 1000000) (hb : atB l (x : Int) m = b) (w' : World) (hbw : Below w.heap.size w w') => (show Calls Tryd.prog 74 #[.slice A n c, .int .i64 (x : Int), strV m] w' fun e w'' => e = .returned (.bool b) ∧ w' = w'' from by
    have h := rat_any l m A n c (x : Int) w' hn hnc hm hn9 ⟨by omega, by omega⟩ hm0 hm9 (hs.below hbw); rw [hb] at h; exact h)
  have KB := fun (i q : Nat) (k : Int) (hk : k = i) (hi : i ≤ n) (hq : blkN l l.length i = q) (w' : World) (hb : Below w.heap.size w w') => (show Calls Tryd.prog 73 #[.slice A n c, .int .i64 k] w' fun e w'' => e = .returned (.int .i64 (q : Int)) ∧ w' = w'' from by
    subst hk; have h := rblanks_any l A n c (i : Int) w' hn hnc (by omega) ⟨by omega, by omega⟩ (hs.below hb); rw [blkV_in (by omega), hq] at h; exact h)
  have KN := fun (q : Nat) (s : List UInt8) (y e0 : Int) (hi : q ≤ n) (hq : nmT l (q : Int) = (s, y, e0)) (w' : World) (hb : Below w.heap.size w w') => (show Calls Tryd.prog 80 #[.slice A n c, .int .i64 (q : Int), .bool false] w' fun e w'' => e = .returned (.tuple #[strV s, .int .i64 y, .int .i64 e0]) ∧ Below w'.heap.size w' w'' from by
    have h := rread_any l A n c (q : Int) w' false hn hnc (by omega) ⟨by omega, by omega⟩ (hs.below hb)
    rw [show readV l (q : Int) (kindP false startN) (kindP false charN) = readV l (q : Int) startN charN from rfl, readV_tr, hq] at h; exact h)
  have KX := fun (q : Nat) (p s : List UInt8) (y e0 : Int) (hi : q ≤ n) (hq : extT l (q : Int) = (p, s, y, e0)) (w' : World) (hb : Below w.heap.size w w') => (show Calls Tryd.prog 81 #[.slice A n c, .int .i64 (q : Int), .bool true] w' fun e w'' => e = .returned (.tuple #[.agg #[strV p, strV s], .int .i64 y, .int .i64 e0]) ∧ Below w'.heap.size w' w'' from by
    have h := rext_any l A n c (q : Int) w' hn hnc hm hn9 ⟨by omega, by omega⟩ (hs.below hb); rw [hq] at h; exact h)
  have LPre := Lib.hid (KA dtW j _ hj (by simp [dtW]) (by simp [dtW]) hpre)
  obtain ⟨W2, hW2⟩ : ∃ W2, w.alloc (.cells #[.bool false, .string ⟨#[]⟩, .string ⟨#[]⟩, .string ⟨#[]⟩, .bool false, .bool false] 64) = W2 := ⟨_, rfl⟩
  have HW2 := Lib.hid hW2
  rw [hW2] at hbA R0
  have hB2 := Lib.hid hbA
  have R2 := Lib.hid R0
  have HP := Lib.hid (show ∀ v W', v = hdV (noH e0) → Below w.heap.size w W' → DocPost (noH e0) w (.returned v) W' from fun v W' hv hb => ⟨by rw [hv], hb⟩)
  have LB1 := Lib.hid (KB (j + 9) g ((j : Int) + 9) (by omega) h9 hbg)
  have tq : ((g : Int) == (j : Int) + 9) = false := by rw [beq_eq_false_iff_ne]; omega
  have LN := Lib.hid (KN g key (z : Int) 0 hgn hnm)
  have LB := Lib.hid (KB z f (z : Int) rfl hzn hbk)
  have tg : (z : Int) < (f : Int) := by omega
  have LS := Lib.hid (KA [83] f _ hfn (by simp) (by simp) haS)
  have LP := Lib.hid (KA [80] f _ hfn (by simp) (by simp) haP)
  have LX := Lib.hid (KX f [] [] 0 e0 hfn hx)
  have t0 : (e0 != 0) = true := by simpa using h0
  clear hs hn hbA R0 hW2 KA KB KN KX hpre hbg hgne hnm hbk hf haS haP hx h0
  go_enter Tryd.func35, Tryd.ntmps35
  go_wp2_with fail
  rw [HW2.out]
  clear HW2
  refine (LPre.out W2 hB2.out).mono ?_
  rintro e w' ⟨rfl, rfl⟩
  go_wp2_with fail
  refine (LB1.out W2 hB2.out).mono ?_
  rintro e w' ⟨rfl, rfl⟩
  go_wp2_with fail
  refine (LN.out W2 hB2.out).mono ?_
  rintro e w3 ⟨rfl, hb3⟩
  have hB3 := Lib.hid (hB2.out.trans (hb3.mono hB2.out.size))
  have R3 := Lib.hid (R2.out.below hb3)
  clear hb3
  have hlt := R3.out.lt
  have hB4 := hB3.out.alloc hB3.out.size (.cells #[.bool true, strV key, .string ⟨#[]⟩, .string ⟨#[]⟩, .bool false, .bool false] 64)
  have R4 := R3.out.alloc (.cells #[.bool true, strV key, .string ⟨#[]⟩, .string ⟨#[]⟩, .bool false, .bool false] 64)
  have H4 := Blk.new w3 #[.bool true, strV key, .string ⟨#[]⟩, .string ⟨#[]⟩, .bool false, .bool false] 64 _ rfl
  obtain ⟨W4, hW4⟩ : ∃ W4, w3.alloc (.cells #[.bool true, strV key, .string ⟨#[]⟩, .string ⟨#[]⟩, .bool false, .bool false] 64) = W4 := ⟨_, rfl⟩
  rw [hW4] at hB4 R4 H4
  have HW4 := Lib.hid hW4
  have hB4 := Lib.hid hB4
  have R4 := Lib.hid R4
  have H4 := Lib.hid H4
  have hle := Lib.hid (show w.heap.size ≤ w3.heap.size by omega)
  clear hW4
  go_wp2_with fail
  rw [HW4.out]
  clear HW4
  refine (LB.out W4 hB4.out).mono ?_
  rintro e w' ⟨rfl, rfl⟩
  go_wp2_with fail
  refine (LS.out W4 hB4.out).mono ?_
  rintro e w' ⟨rfl, rfl⟩
  go_wp2_with fail
  refine (LP.out W4 hB4.out).mono ?_
  rintro e w' ⟨rfl, rfl⟩
  go_wp2_with fail
  refine (LX.out W4 hB4.out).mono ?_
  rintro e w5 ⟨rfl, hb5⟩
  have hB5 := hB4.out.trans (hb5.mono hB4.out.size)
  have R5 := R4.out.below hb5
  have H5 := H4.out.below hb5
  clear hb5
  have hB6 := hB5.alloc hB5.size (.cells #[strV [], strV []] 59)
  have R6 := R5.alloc (.cells #[strV [], strV []] 59)
  have H6 := H5.alloc (.cells #[strV [], strV []] 59)
  have C6 := Two.new w5 (strV []) (strV []) 59 _ rfl
  obtain ⟨W6, hW6⟩ : ∃ W6, w5.alloc (.cells #[strV [], strV []] 59) = W6 := ⟨_, rfl⟩
  rw [hW6] at hB6 R6 H6 C6
  have HW6 := Lib.hid hW6
  have hB6 := Lib.hid hB6
  have R6 := Lib.hid R6
  have H6 := Lib.hid H6
  have C6 := Lib.hid C6
  have hn5 := Lib.hid H5.lt
  clear hB5 R5 H5 hW6
  go_upto_if 77 with (fail)
  rw [HW6.out]
  clear HW6
  obtain ⟨c0, c1, _, _⟩ := C6.out.at
  obtain ⟨⟨r0, r1, r2, r3, r4, r5⟩, ⟨q0, q1, q2, q3, q4, q5⟩⟩ := R6.out.at6
  obtain ⟨⟨s0, s1, s2, s3, s4, s5⟩, _⟩ := (R6.out.set6 (.bool false) (.string ⟨#[]⟩) (.string ⟨#[]⟩) (.string ⟨#[]⟩) (.bool false) (.bool false)).at6
  unfold set6 at s0 s1 s2 s3 s4 s5
  go_wp2_with fail
  (try simp only [Exit.inBlock, Exit.then])
  refine bodyPost_ret (by simp [results, Tryd.results35, go_sem, s0, s1, s2, s3, s4, s5]; first | rfl | done) rfl (HP.out _ _ rfl ?_)
  exact below_set6 (hB6.out) (Nat.le_refl _) _ _ _ _ _ _

set_option maxHeartbeats 16000000 in
theorem rdoc_extP_opn (l : List UInt8) (A : Option Addr) (n c j : Nat) (w : World) (hn : l.length = n) (hnc : n ≤ c) (hm : c ≤ 9223372036854775807) (hn9 : n ≤ 1000000) (hj : j ≤ n) (hs : Sees w A (vB l)) (hpre : atB l (j : Int) dtW = true) (h9 : j + 9 ≤ n) (g : Nat) (hbg : blkN l l.length (j + 9) = g) (hgne : g ≠ j + 9) (hgn : g ≤ n) (key : List UInt8) (z : Nat) (hzn : z ≤ n) (hnm : nmT l (g : Int) = (key, (z : Int), 0)) (f : Nat) (hfn : f ≤ n) (hbk : blkN l l.length z = f) (hf : z < f) (haS : atB l (f : Int) [83] = false) (haP : atB l (f : Int) [80] = true) (p s : List UInt8) (y q : Nat) (hyn : y ≤ n) (hqn : q ≤ n) (hx : extT l (f : Int) = (p, s, (y : Int), 0)) (hbq : blkN l l.length y = q) (ha1 : atB l (q : Int) [91] = true) :
    Calls Tryd.prog 35 #[.slice A n c, .int .i64 (j : Int)] w (DocPost (⟨true, key, p, s, true, true, (q : Int) + 1, 0⟩) w) := by
  have hbA := (Below.refl _ w).alloc (Nat.le_refl _) (.cells #[.bool false, .string ⟨#[]⟩, .string ⟨#[]⟩, .string ⟨#[]⟩, .bool false, .bool false] 64)
  have R0 := Blk.new w #[.bool false, .string ⟨#[]⟩, .string ⟨#[]⟩, .string ⟨#[]⟩, .bool false, .bool false] 64 _ rfl
  have i0 : (0 : Int) ≤ (j : Int) := by omega
  have i1 : (j : Int) ≤ (n : Int) := by omega
  have KA := fun (m : List UInt8) (x : Nat) (b : Bool) (hx : x ≤ n) (hm0 : m ≠ []) (hm9 : m.length ≤ 1000000) (hb : atB l (x : Int) m = b) (w' : World) (hbw : Below w.heap.size w w') => (show Calls Tryd.prog 74 #[.slice A n c, .int .i64 (x : Int), strV m] w' fun e w'' => e = .returned (.bool b) ∧ w' = w'' from by
    have h := rat_any l m A n c (x : Int) w' hn hnc hm hn9 ⟨by omega, by omega⟩ hm0 hm9 (hs.below hbw); rw [hb] at h; exact h)
  have KB := fun (i q : Nat) (k : Int) (hk : k = i) (hi : i ≤ n) (hq : blkN l l.length i = q) (w' : World) (hb : Below w.heap.size w w') => (show Calls Tryd.prog 73 #[.slice A n c, .int .i64 k] w' fun e w'' => e = .returned (.int .i64 (q : Int)) ∧ w' = w'' from by
    subst hk; have h := rblanks_any l A n c (i : Int) w' hn hnc (by omega) ⟨by omega, by omega⟩ (hs.below hb); rw [blkV_in (by omega), hq] at h; exact h)
  have KN := fun (q : Nat) (s : List UInt8) (y e0 : Int) (hi : q ≤ n) (hq : nmT l (q : Int) = (s, y, e0)) (w' : World) (hb : Below w.heap.size w w') => (show Calls Tryd.prog 80 #[.slice A n c, .int .i64 (q : Int), .bool false] w' fun e w'' => e = .returned (.tuple #[strV s, .int .i64 y, .int .i64 e0]) ∧ Below w'.heap.size w' w'' from by
    have h := rread_any l A n c (q : Int) w' false hn hnc (by omega) ⟨by omega, by omega⟩ (hs.below hb)
    rw [show readV l (q : Int) (kindP false startN) (kindP false charN) = readV l (q : Int) startN charN from rfl, readV_tr, hq] at h; exact h)
  have KX := fun (q : Nat) (p s : List UInt8) (y e0 : Int) (hi : q ≤ n) (hq : extT l (q : Int) = (p, s, y, e0)) (w' : World) (hb : Below w.heap.size w w') => (show Calls Tryd.prog 81 #[.slice A n c, .int .i64 (q : Int), .bool true] w' fun e w'' => e = .returned (.tuple #[.agg #[strV p, strV s], .int .i64 y, .int .i64 e0]) ∧ Below w'.heap.size w' w'' from by
    have h := rext_any l A n c (q : Int) w' hn hnc hm hn9 ⟨by omega, by omega⟩ (hs.below hb); rw [hq] at h; exact h)
  have LPre := Lib.hid (KA dtW j _ hj (by simp [dtW]) (by simp [dtW]) hpre)
  obtain ⟨W2, hW2⟩ : ∃ W2, w.alloc (.cells #[.bool false, .string ⟨#[]⟩, .string ⟨#[]⟩, .string ⟨#[]⟩, .bool false, .bool false] 64) = W2 := ⟨_, rfl⟩
  have HW2 := Lib.hid hW2
  rw [hW2] at hbA R0
  have hB2 := Lib.hid hbA
  have R2 := Lib.hid R0
  have HP := Lib.hid (show ∀ v W', v = hdV (⟨true, key, p, s, true, true, (q : Int) + 1, 0⟩) → Below w.heap.size w W' → DocPost (⟨true, key, p, s, true, true, (q : Int) + 1, 0⟩) w (.returned v) W' from fun v W' hv hb => ⟨by rw [hv], hb⟩)
  have LB1 := Lib.hid (KB (j + 9) g ((j : Int) + 9) (by omega) h9 hbg)
  have tq : ((g : Int) == (j : Int) + 9) = false := by rw [beq_eq_false_iff_ne]; omega
  have LN := Lib.hid (KN g key (z : Int) 0 hgn hnm)
  have LB := Lib.hid (KB z f (z : Int) rfl hzn hbk)
  have tg : (z : Int) < (f : Int) := by omega
  have LS := Lib.hid (KA [83] f _ hfn (by simp) (by simp) haS)
  have LP := Lib.hid (KA [80] f _ hfn (by simp) (by simp) haP)
  have LX := Lib.hid (KX f p s (y : Int) 0 hfn hx)
  have LB2 := Lib.hid (KB y q (y : Int) rfl hyn hbq)
  have LA1 := Lib.hid (KA [91] q _ hqn (by simp) (by simp) ha1)
  clear hs hn hbA R0 hW2 KA KB KN KX hpre hbg hgne hnm hbk hf haS haP hx hbq ha1
  go_enter Tryd.func35, Tryd.ntmps35
  go_wp2_with fail
  rw [HW2.out]
  clear HW2
  refine (LPre.out W2 hB2.out).mono ?_
  rintro e w' ⟨rfl, rfl⟩
  go_wp2_with fail
  refine (LB1.out W2 hB2.out).mono ?_
  rintro e w' ⟨rfl, rfl⟩
  go_wp2_with fail
  refine (LN.out W2 hB2.out).mono ?_
  rintro e w3 ⟨rfl, hb3⟩
  have hB3 := Lib.hid (hB2.out.trans (hb3.mono hB2.out.size))
  have R3 := Lib.hid (R2.out.below hb3)
  clear hb3
  have hlt := R3.out.lt
  have hB4 := hB3.out.alloc hB3.out.size (.cells #[.bool true, strV key, .string ⟨#[]⟩, .string ⟨#[]⟩, .bool false, .bool false] 64)
  have R4 := R3.out.alloc (.cells #[.bool true, strV key, .string ⟨#[]⟩, .string ⟨#[]⟩, .bool false, .bool false] 64)
  have H4 := Blk.new w3 #[.bool true, strV key, .string ⟨#[]⟩, .string ⟨#[]⟩, .bool false, .bool false] 64 _ rfl
  obtain ⟨W4, hW4⟩ : ∃ W4, w3.alloc (.cells #[.bool true, strV key, .string ⟨#[]⟩, .string ⟨#[]⟩, .bool false, .bool false] 64) = W4 := ⟨_, rfl⟩
  rw [hW4] at hB4 R4 H4
  have HW4 := Lib.hid hW4
  have hB4 := Lib.hid hB4
  have R4 := Lib.hid R4
  have H4 := Lib.hid H4
  have hle := Lib.hid (show w.heap.size ≤ w3.heap.size by omega)
  clear hW4
  go_wp2_with fail
  rw [HW4.out]
  clear HW4
  refine (LB.out W4 hB4.out).mono ?_
  rintro e w' ⟨rfl, rfl⟩
  go_wp2_with fail
  refine (LS.out W4 hB4.out).mono ?_
  rintro e w' ⟨rfl, rfl⟩
  go_wp2_with fail
  refine (LP.out W4 hB4.out).mono ?_
  rintro e w' ⟨rfl, rfl⟩
  go_wp2_with fail
  refine (LX.out W4 hB4.out).mono ?_
  rintro e w5 ⟨rfl, hb5⟩
  have hB5 := hB4.out.trans (hb5.mono hB4.out.size)
  have R5 := R4.out.below hb5
  have H5 := H4.out.below hb5
  clear hb5
  have hB6 := hB5.alloc hB5.size (.cells #[strV p, strV s] 59)
  have R6 := R5.alloc (.cells #[strV p, strV s] 59)
  have H6 := H5.alloc (.cells #[strV p, strV s] 59)
  have C6 := Two.new w5 (strV p) (strV s) 59 _ rfl
  obtain ⟨W6, hW6⟩ : ∃ W6, w5.alloc (.cells #[strV p, strV s] 59) = W6 := ⟨_, rfl⟩
  rw [hW6] at hB6 R6 H6 C6
  have HW6 := Lib.hid hW6
  have hB6 := Lib.hid hB6
  have R6 := Lib.hid R6
  have H6 := Lib.hid H6
  have C6 := Lib.hid C6
  have hn5 := Lib.hid H5.lt
  clear hB5 R5 H5 hW6
  go_upto_if 77 with (fail)
  rw [HW6.out]
  clear HW6
  obtain ⟨c0, c1, _, _⟩ := C6.out.at
  obtain ⟨⟨r0, r1, r2, r3, r4, r5⟩, ⟨q0, q1, q2, q3, q4, q5⟩⟩ := R6.out.at6
  obtain ⟨⟨x0, x1, x2, x3, x4, x5⟩, ⟨v0, v1, v2, v3, v4, v5⟩⟩ := H6.out.at6
  obtain ⟨W7, hW7⟩ : ∃ W7, ((W6.setCell ⟨w3.heap.size, 2, none⟩ (strV p)).setCell ⟨w3.heap.size, 3, none⟩ (strV s)).setCell ⟨w3.heap.size, 4, none⟩ (.bool true) = W7 := ⟨_, rfl⟩
  have hB7 := Lib.hid (show Below w.heap.size w W7 from hW7 ▸ ((hB6.out.setCell hle.out _).setCell hle.out _).setCell hle.out _)
  have R7 := Lib.hid (show Blk W7 w.heap.size #[.bool false, .string ⟨#[]⟩, .string ⟨#[]⟩, .string ⟨#[]⟩, .bool false, .bool false] 64 from hW7 ▸ ((R6.out.far (b' := w3.heap.size) (o := 2) (by omega) (strV p)).far (b' := w3.heap.size) (o := 3) (by omega) (strV s)).far (b' := w3.heap.size) (o := 4) (by omega) (.bool true))
  have H7 := Lib.hid (show Blk W7 w3.heap.size #[.bool true, strV key, strV p, strV s, .bool true, .bool false] 64 from hW7 ▸ ((H6.out.set 2 (strV p)).set 3 (strV s)).set 4 (.bool true))
  have HW7 := Lib.hid hW7
  clear hW7
  go_wp2_with fail
  rw [HW7.out]
  clear HW7 c0 c1 r0 r1 r2 r3 r4 r5 q0 q1 q2 q3 q4 q5 x0 x1 x2 x3 x4 x5 v0 v1 v2 v3 v4 v5
  refine (LB2.out W7 hB7.out).mono ?_
  rintro e w' ⟨rfl, rfl⟩
  go_wp2_with fail
  refine (LA1.out W7 hB7.out).mono ?_
  rintro e w' ⟨rfl, rfl⟩
  obtain ⟨⟨r0, r1, r2, r3, r4, r5⟩, ⟨q0, q1, q2, q3, q4, q5⟩⟩ := R7.out.at6
  obtain ⟨⟨x0, x1, x2, x3, x4, x5⟩, ⟨v0, v1, v2, v3, v4, v5⟩⟩ := H7.out.at6
  obtain ⟨⟨s0, s1, s2, s3, s4, s5⟩, _⟩ := ((R7.out.far (b' := w3.heap.size) (o := 5) (by omega) (.bool true)).set6 (.bool true) (strV key) (strV p) (strV s) (.bool true) (.bool true)).at6
  unfold set6 at s0 s1 s2 s3 s4 s5
  go_wp2_with fail
  (try simp only [Exit.inBlock, Exit.then])
  refine bodyPost_ret (by simp [results, Tryd.results35, go_sem, s0, s1, s2, s3, s4, s5]; first | rfl | done) rfl (HP.out _ _ rfl ?_)
  exact below_set6 (hB7.out.setCell hle.out _) (Nat.le_refl _) _ _ _ _ _ _

set_option maxHeartbeats 16000000 in
theorem rdoc_extP_cls (l : List UInt8) (A : Option Addr) (n c j : Nat) (w : World) (hn : l.length = n) (hnc : n ≤ c) (hm : c ≤ 9223372036854775807) (hn9 : n ≤ 1000000) (hj : j ≤ n) (hs : Sees w A (vB l)) (hpre : atB l (j : Int) dtW = true) (h9 : j + 9 ≤ n) (g : Nat) (hbg : blkN l l.length (j + 9) = g) (hgne : g ≠ j + 9) (hgn : g ≤ n) (key : List UInt8) (z : Nat) (hzn : z ≤ n) (hnm : nmT l (g : Int) = (key, (z : Int), 0)) (f : Nat) (hfn : f ≤ n) (hbk : blkN l l.length z = f) (hf : z < f) (haS : atB l (f : Int) [83] = false) (haP : atB l (f : Int) [80] = true) (p s : List UInt8) (y q : Nat) (hyn : y ≤ n) (hqn : q ≤ n) (hx : extT l (f : Int) = (p, s, (y : Int), 0)) (hbq : blkN l l.length y = q) (ha1 : atB l (q : Int) [91] = false) (ha2 : atB l (q : Int) [62] = true) :
    Calls Tryd.prog 35 #[.slice A n c, .int .i64 (j : Int)] w (DocPost (⟨true, key, p, s, true, false, (q : Int) + 1, 0⟩) w) := by
  have hbA := (Below.refl _ w).alloc (Nat.le_refl _) (.cells #[.bool false, .string ⟨#[]⟩, .string ⟨#[]⟩, .string ⟨#[]⟩, .bool false, .bool false] 64)
  have R0 := Blk.new w #[.bool false, .string ⟨#[]⟩, .string ⟨#[]⟩, .string ⟨#[]⟩, .bool false, .bool false] 64 _ rfl
  have i0 : (0 : Int) ≤ (j : Int) := by omega
  have i1 : (j : Int) ≤ (n : Int) := by omega
  have KA := fun (m : List UInt8) (x : Nat) (b : Bool) (hx : x ≤ n) (hm0 : m ≠ []) (hm9 : m.length ≤ 1000000) (hb : atB l (x : Int) m = b) (w' : World) (hbw : Below w.heap.size w w') => (show Calls Tryd.prog 74 #[.slice A n c, .int .i64 (x : Int), strV m] w' fun e w'' => e = .returned (.bool b) ∧ w' = w'' from by
    have h := rat_any l m A n c (x : Int) w' hn hnc hm hn9 ⟨by omega, by omega⟩ hm0 hm9 (hs.below hbw); rw [hb] at h; exact h)
  have KB := fun (i q : Nat) (k : Int) (hk : k = i) (hi : i ≤ n) (hq : blkN l l.length i = q) (w' : World) (hb : Below w.heap.size w w') => (show Calls Tryd.prog 73 #[.slice A n c, .int .i64 k] w' fun e w'' => e = .returned (.int .i64 (q : Int)) ∧ w' = w'' from by
    subst hk; have h := rblanks_any l A n c (i : Int) w' hn hnc (by omega) ⟨by omega, by omega⟩ (hs.below hb); rw [blkV_in (by omega), hq] at h; exact h)
  have KN := fun (q : Nat) (s : List UInt8) (y e0 : Int) (hi : q ≤ n) (hq : nmT l (q : Int) = (s, y, e0)) (w' : World) (hb : Below w.heap.size w w') => (show Calls Tryd.prog 80 #[.slice A n c, .int .i64 (q : Int), .bool false] w' fun e w'' => e = .returned (.tuple #[strV s, .int .i64 y, .int .i64 e0]) ∧ Below w'.heap.size w' w'' from by
    have h := rread_any l A n c (q : Int) w' false hn hnc (by omega) ⟨by omega, by omega⟩ (hs.below hb)
    rw [show readV l (q : Int) (kindP false startN) (kindP false charN) = readV l (q : Int) startN charN from rfl, readV_tr, hq] at h; exact h)
  have KX := fun (q : Nat) (p s : List UInt8) (y e0 : Int) (hi : q ≤ n) (hq : extT l (q : Int) = (p, s, y, e0)) (w' : World) (hb : Below w.heap.size w w') => (show Calls Tryd.prog 81 #[.slice A n c, .int .i64 (q : Int), .bool true] w' fun e w'' => e = .returned (.tuple #[.agg #[strV p, strV s], .int .i64 y, .int .i64 e0]) ∧ Below w'.heap.size w' w'' from by
    have h := rext_any l A n c (q : Int) w' hn hnc hm hn9 ⟨by omega, by omega⟩ (hs.below hb); rw [hq] at h; exact h)
  have LPre := Lib.hid (KA dtW j _ hj (by simp [dtW]) (by simp [dtW]) hpre)
  obtain ⟨W2, hW2⟩ : ∃ W2, w.alloc (.cells #[.bool false, .string ⟨#[]⟩, .string ⟨#[]⟩, .string ⟨#[]⟩, .bool false, .bool false] 64) = W2 := ⟨_, rfl⟩
  have HW2 := Lib.hid hW2
  rw [hW2] at hbA R0
  have hB2 := Lib.hid hbA
  have R2 := Lib.hid R0
  have HP := Lib.hid (show ∀ v W', v = hdV (⟨true, key, p, s, true, false, (q : Int) + 1, 0⟩) → Below w.heap.size w W' → DocPost (⟨true, key, p, s, true, false, (q : Int) + 1, 0⟩) w (.returned v) W' from fun v W' hv hb => ⟨by rw [hv], hb⟩)
  have LB1 := Lib.hid (KB (j + 9) g ((j : Int) + 9) (by omega) h9 hbg)
  have tq : ((g : Int) == (j : Int) + 9) = false := by rw [beq_eq_false_iff_ne]; omega
  have LN := Lib.hid (KN g key (z : Int) 0 hgn hnm)
  have LB := Lib.hid (KB z f (z : Int) rfl hzn hbk)
  have tg : (z : Int) < (f : Int) := by omega
  have LS := Lib.hid (KA [83] f _ hfn (by simp) (by simp) haS)
  have LP := Lib.hid (KA [80] f _ hfn (by simp) (by simp) haP)
  have LX := Lib.hid (KX f p s (y : Int) 0 hfn hx)
  have LB2 := Lib.hid (KB y q (y : Int) rfl hyn hbq)
  have LA1 := Lib.hid (KA [91] q _ hqn (by simp) (by simp) ha1)
  have LA2 := Lib.hid (KA [62] q _ hqn (by simp) (by simp) ha2)
  clear hs hn hbA R0 hW2 KA KB KN KX hpre hbg hgne hnm hbk hf haS haP hx hbq ha1 ha2
  go_enter Tryd.func35, Tryd.ntmps35
  go_wp2_with fail
  rw [HW2.out]
  clear HW2
  refine (LPre.out W2 hB2.out).mono ?_
  rintro e w' ⟨rfl, rfl⟩
  go_wp2_with fail
  refine (LB1.out W2 hB2.out).mono ?_
  rintro e w' ⟨rfl, rfl⟩
  go_wp2_with fail
  refine (LN.out W2 hB2.out).mono ?_
  rintro e w3 ⟨rfl, hb3⟩
  have hB3 := Lib.hid (hB2.out.trans (hb3.mono hB2.out.size))
  have R3 := Lib.hid (R2.out.below hb3)
  clear hb3
  have hlt := R3.out.lt
  have hB4 := hB3.out.alloc hB3.out.size (.cells #[.bool true, strV key, .string ⟨#[]⟩, .string ⟨#[]⟩, .bool false, .bool false] 64)
  have R4 := R3.out.alloc (.cells #[.bool true, strV key, .string ⟨#[]⟩, .string ⟨#[]⟩, .bool false, .bool false] 64)
  have H4 := Blk.new w3 #[.bool true, strV key, .string ⟨#[]⟩, .string ⟨#[]⟩, .bool false, .bool false] 64 _ rfl
  obtain ⟨W4, hW4⟩ : ∃ W4, w3.alloc (.cells #[.bool true, strV key, .string ⟨#[]⟩, .string ⟨#[]⟩, .bool false, .bool false] 64) = W4 := ⟨_, rfl⟩
  rw [hW4] at hB4 R4 H4
  have HW4 := Lib.hid hW4
  have hB4 := Lib.hid hB4
  have R4 := Lib.hid R4
  have H4 := Lib.hid H4
  have hle := Lib.hid (show w.heap.size ≤ w3.heap.size by omega)
  clear hW4
  go_wp2_with fail
  rw [HW4.out]
  clear HW4
  refine (LB.out W4 hB4.out).mono ?_
  rintro e w' ⟨rfl, rfl⟩
  go_wp2_with fail
  refine (LS.out W4 hB4.out).mono ?_
  rintro e w' ⟨rfl, rfl⟩
  go_wp2_with fail
  refine (LP.out W4 hB4.out).mono ?_
  rintro e w' ⟨rfl, rfl⟩
  go_wp2_with fail
  refine (LX.out W4 hB4.out).mono ?_
  rintro e w5 ⟨rfl, hb5⟩
  have hB5 := hB4.out.trans (hb5.mono hB4.out.size)
  have R5 := R4.out.below hb5
  have H5 := H4.out.below hb5
  clear hb5
  have hB6 := hB5.alloc hB5.size (.cells #[strV p, strV s] 59)
  have R6 := R5.alloc (.cells #[strV p, strV s] 59)
  have H6 := H5.alloc (.cells #[strV p, strV s] 59)
  have C6 := Two.new w5 (strV p) (strV s) 59 _ rfl
  obtain ⟨W6, hW6⟩ : ∃ W6, w5.alloc (.cells #[strV p, strV s] 59) = W6 := ⟨_, rfl⟩
  rw [hW6] at hB6 R6 H6 C6
  have HW6 := Lib.hid hW6
  have hB6 := Lib.hid hB6
  have R6 := Lib.hid R6
  have H6 := Lib.hid H6
  have C6 := Lib.hid C6
  have hn5 := Lib.hid H5.lt
  clear hB5 R5 H5 hW6
  go_upto_if 77 with (fail)
  rw [HW6.out]
  clear HW6
  obtain ⟨c0, c1, _, _⟩ := C6.out.at
  obtain ⟨⟨r0, r1, r2, r3, r4, r5⟩, ⟨q0, q1, q2, q3, q4, q5⟩⟩ := R6.out.at6
  obtain ⟨⟨x0, x1, x2, x3, x4, x5⟩, ⟨v0, v1, v2, v3, v4, v5⟩⟩ := H6.out.at6
  obtain ⟨W7, hW7⟩ : ∃ W7, ((W6.setCell ⟨w3.heap.size, 2, none⟩ (strV p)).setCell ⟨w3.heap.size, 3, none⟩ (strV s)).setCell ⟨w3.heap.size, 4, none⟩ (.bool true) = W7 := ⟨_, rfl⟩
  have hB7 := Lib.hid (show Below w.heap.size w W7 from hW7 ▸ ((hB6.out.setCell hle.out _).setCell hle.out _).setCell hle.out _)
  have R7 := Lib.hid (show Blk W7 w.heap.size #[.bool false, .string ⟨#[]⟩, .string ⟨#[]⟩, .string ⟨#[]⟩, .bool false, .bool false] 64 from hW7 ▸ ((R6.out.far (b' := w3.heap.size) (o := 2) (by omega) (strV p)).far (b' := w3.heap.size) (o := 3) (by omega) (strV s)).far (b' := w3.heap.size) (o := 4) (by omega) (.bool true))
  have H7 := Lib.hid (show Blk W7 w3.heap.size #[.bool true, strV key, strV p, strV s, .bool true, .bool false] 64 from hW7 ▸ ((H6.out.set 2 (strV p)).set 3 (strV s)).set 4 (.bool true))
  have HW7 := Lib.hid hW7
  clear hW7
  go_wp2_with fail
  rw [HW7.out]
  clear HW7 c0 c1 r0 r1 r2 r3 r4 r5 q0 q1 q2 q3 q4 q5 x0 x1 x2 x3 x4 x5 v0 v1 v2 v3 v4 v5
  refine (LB2.out W7 hB7.out).mono ?_
  rintro e w' ⟨rfl, rfl⟩
  go_wp2_with fail
  refine (LA1.out W7 hB7.out).mono ?_
  rintro e w' ⟨rfl, rfl⟩
  go_wp2_with fail
  refine (LA2.out W7 hB7.out).mono ?_
  rintro e w' ⟨rfl, rfl⟩
  obtain ⟨⟨r0, r1, r2, r3, r4, r5⟩, ⟨q0, q1, q2, q3, q4, q5⟩⟩ := R7.out.at6
  obtain ⟨⟨x0, x1, x2, x3, x4, x5⟩, ⟨v0, v1, v2, v3, v4, v5⟩⟩ := H7.out.at6
  obtain ⟨⟨s0, s1, s2, s3, s4, s5⟩, _⟩ := (R7.out.set6 (.bool true) (strV key) (strV p) (strV s) (.bool true) (.bool false)).at6
  unfold set6 at s0 s1 s2 s3 s4 s5
  go_wp2_with fail
  (try simp only [Exit.inBlock, Exit.then])
  refine bodyPost_ret (by simp [results, Tryd.results35, go_sem, s0, s1, s2, s3, s4, s5]; first | rfl | done) rfl (HP.out _ _ rfl ?_)
  exact below_set6 (hB7.out) (Nat.le_refl _) _ _ _ _ _ _

set_option maxHeartbeats 16000000 in
theorem rdoc_extP_bad (l : List UInt8) (A : Option Addr) (n c j : Nat) (w : World) (hn : l.length = n) (hnc : n ≤ c) (hm : c ≤ 9223372036854775807) (hn9 : n ≤ 1000000) (hj : j ≤ n) (hs : Sees w A (vB l)) (hpre : atB l (j : Int) dtW = true) (h9 : j + 9 ≤ n) (g : Nat) (hbg : blkN l l.length (j + 9) = g) (hgne : g ≠ j + 9) (hgn : g ≤ n) (key : List UInt8) (z : Nat) (hzn : z ≤ n) (hnm : nmT l (g : Int) = (key, (z : Int), 0)) (f : Nat) (hfn : f ≤ n) (hbk : blkN l l.length z = f) (hf : z < f) (haS : atB l (f : Int) [83] = false) (haP : atB l (f : Int) [80] = true) (p s : List UInt8) (y q : Nat) (hyn : y ≤ n) (hqn : q ≤ n) (hx : extT l (f : Int) = (p, s, (y : Int), 0)) (hbq : blkN l l.length y = q) (ha1 : atB l (q : Int) [91] = false) (ha2 : atB l (q : Int) [62] = false) :
    Calls Tryd.prog 35 #[.slice A n c, .int .i64 (j : Int)] w (DocPost (noH 7) w) := by
  have hbA := (Below.refl _ w).alloc (Nat.le_refl _) (.cells #[.bool false, .string ⟨#[]⟩, .string ⟨#[]⟩, .string ⟨#[]⟩, .bool false, .bool false] 64)
  have R0 := Blk.new w #[.bool false, .string ⟨#[]⟩, .string ⟨#[]⟩, .string ⟨#[]⟩, .bool false, .bool false] 64 _ rfl
  have i0 : (0 : Int) ≤ (j : Int) := by omega
  have i1 : (j : Int) ≤ (n : Int) := by omega
  have KA := fun (m : List UInt8) (x : Nat) (b : Bool) (hx : x ≤ n) (hm0 : m ≠ []) (hm9 : m.length ≤ 1000000) (hb : atB l (x : Int) m = b) (w' : World) (hbw : Below w.heap.size w w') => (show Calls Tryd.prog 74 #[.slice A n c, .int .i64 (x : Int), strV m] w' fun e w'' => e = .returned (.bool b) ∧ w' = w'' from by
    have h := rat_any l m A n c (x : Int) w' hn hnc hm hn9 ⟨by omega, by omega⟩ hm0 hm9 (hs.below hbw); rw [hb] at h; exact h)
  have KB := fun (i q : Nat) (k : Int) (hk : k = i) (hi : i ≤ n) (hq : blkN l l.length i = q) (w' : World) (hb : Below w.heap.size w w') => (show Calls Tryd.prog 73 #[.slice A n c, .int .i64 k] w' fun e w'' => e = .returned (.int .i64 (q : Int)) ∧ w' = w'' from by
    subst hk; have h := rblanks_any l A n c (i : Int) w' hn hnc (by omega) ⟨by omega, by omega⟩ (hs.below hb); rw [blkV_in (by omega), hq] at h; exact h)
  have KN := fun (q : Nat) (s : List UInt8) (y e0 : Int) (hi : q ≤ n) (hq : nmT l (q : Int) = (s, y, e0)) (w' : World) (hb : Below w.heap.size w w') => (show Calls Tryd.prog 80 #[.slice A n c, .int .i64 (q : Int), .bool false] w' fun e w'' => e = .returned (.tuple #[strV s, .int .i64 y, .int .i64 e0]) ∧ Below w'.heap.size w' w'' from by
    have h := rread_any l A n c (q : Int) w' false hn hnc (by omega) ⟨by omega, by omega⟩ (hs.below hb)
    rw [show readV l (q : Int) (kindP false startN) (kindP false charN) = readV l (q : Int) startN charN from rfl, readV_tr, hq] at h; exact h)
  have KX := fun (q : Nat) (p s : List UInt8) (y e0 : Int) (hi : q ≤ n) (hq : extT l (q : Int) = (p, s, y, e0)) (w' : World) (hb : Below w.heap.size w w') => (show Calls Tryd.prog 81 #[.slice A n c, .int .i64 (q : Int), .bool true] w' fun e w'' => e = .returned (.tuple #[.agg #[strV p, strV s], .int .i64 y, .int .i64 e0]) ∧ Below w'.heap.size w' w'' from by
    have h := rext_any l A n c (q : Int) w' hn hnc hm hn9 ⟨by omega, by omega⟩ (hs.below hb); rw [hq] at h; exact h)
  have LPre := Lib.hid (KA dtW j _ hj (by simp [dtW]) (by simp [dtW]) hpre)
  obtain ⟨W2, hW2⟩ : ∃ W2, w.alloc (.cells #[.bool false, .string ⟨#[]⟩, .string ⟨#[]⟩, .string ⟨#[]⟩, .bool false, .bool false] 64) = W2 := ⟨_, rfl⟩
  have HW2 := Lib.hid hW2
  rw [hW2] at hbA R0
  have hB2 := Lib.hid hbA
  have R2 := Lib.hid R0
  have HP := Lib.hid (show ∀ v W', v = hdV (noH 7) → Below w.heap.size w W' → DocPost (noH 7) w (.returned v) W' from fun v W' hv hb => ⟨by rw [hv], hb⟩)
  have LB1 := Lib.hid (KB (j + 9) g ((j : Int) + 9) (by omega) h9 hbg)
  have tq : ((g : Int) == (j : Int) + 9) = false := by rw [beq_eq_false_iff_ne]; omega
  have LN := Lib.hid (KN g key (z : Int) 0 hgn hnm)
  have LB := Lib.hid (KB z f (z : Int) rfl hzn hbk)
  have tg : (z : Int) < (f : Int) := by omega
  have LS := Lib.hid (KA [83] f _ hfn (by simp) (by simp) haS)
  have LP := Lib.hid (KA [80] f _ hfn (by simp) (by simp) haP)
  have LX := Lib.hid (KX f p s (y : Int) 0 hfn hx)
  have LB2 := Lib.hid (KB y q (y : Int) rfl hyn hbq)
  have LA1 := Lib.hid (KA [91] q _ hqn (by simp) (by simp) ha1)
  have LA2 := Lib.hid (KA [62] q _ hqn (by simp) (by simp) ha2)
  clear hs hn hbA R0 hW2 KA KB KN KX hpre hbg hgne hnm hbk hf haS haP hx hbq ha1 ha2
  go_enter Tryd.func35, Tryd.ntmps35
  go_wp2_with fail
  rw [HW2.out]
  clear HW2
  refine (LPre.out W2 hB2.out).mono ?_
  rintro e w' ⟨rfl, rfl⟩
  go_wp2_with fail
  refine (LB1.out W2 hB2.out).mono ?_
  rintro e w' ⟨rfl, rfl⟩
  go_wp2_with fail
  refine (LN.out W2 hB2.out).mono ?_
  rintro e w3 ⟨rfl, hb3⟩
  have hB3 := Lib.hid (hB2.out.trans (hb3.mono hB2.out.size))
  have R3 := Lib.hid (R2.out.below hb3)
  clear hb3
  have hlt := R3.out.lt
  have hB4 := hB3.out.alloc hB3.out.size (.cells #[.bool true, strV key, .string ⟨#[]⟩, .string ⟨#[]⟩, .bool false, .bool false] 64)
  have R4 := R3.out.alloc (.cells #[.bool true, strV key, .string ⟨#[]⟩, .string ⟨#[]⟩, .bool false, .bool false] 64)
  have H4 := Blk.new w3 #[.bool true, strV key, .string ⟨#[]⟩, .string ⟨#[]⟩, .bool false, .bool false] 64 _ rfl
  obtain ⟨W4, hW4⟩ : ∃ W4, w3.alloc (.cells #[.bool true, strV key, .string ⟨#[]⟩, .string ⟨#[]⟩, .bool false, .bool false] 64) = W4 := ⟨_, rfl⟩
  rw [hW4] at hB4 R4 H4
  have HW4 := Lib.hid hW4
  have hB4 := Lib.hid hB4
  have R4 := Lib.hid R4
  have H4 := Lib.hid H4
  have hle := Lib.hid (show w.heap.size ≤ w3.heap.size by omega)
  clear hW4
  go_wp2_with fail
  rw [HW4.out]
  clear HW4
  refine (LB.out W4 hB4.out).mono ?_
  rintro e w' ⟨rfl, rfl⟩
  go_wp2_with fail
  refine (LS.out W4 hB4.out).mono ?_
  rintro e w' ⟨rfl, rfl⟩
  go_wp2_with fail
  refine (LP.out W4 hB4.out).mono ?_
  rintro e w' ⟨rfl, rfl⟩
  go_wp2_with fail
  refine (LX.out W4 hB4.out).mono ?_
  rintro e w5 ⟨rfl, hb5⟩
  have hB5 := hB4.out.trans (hb5.mono hB4.out.size)
  have R5 := R4.out.below hb5
  have H5 := H4.out.below hb5
  clear hb5
  have hB6 := hB5.alloc hB5.size (.cells #[strV p, strV s] 59)
  have R6 := R5.alloc (.cells #[strV p, strV s] 59)
  have H6 := H5.alloc (.cells #[strV p, strV s] 59)
  have C6 := Two.new w5 (strV p) (strV s) 59 _ rfl
  obtain ⟨W6, hW6⟩ : ∃ W6, w5.alloc (.cells #[strV p, strV s] 59) = W6 := ⟨_, rfl⟩
  rw [hW6] at hB6 R6 H6 C6
  have HW6 := Lib.hid hW6
  have hB6 := Lib.hid hB6
  have R6 := Lib.hid R6
  have H6 := Lib.hid H6
  have C6 := Lib.hid C6
  have hn5 := Lib.hid H5.lt
  clear hB5 R5 H5 hW6
  go_upto_if 77 with (fail)
  rw [HW6.out]
  clear HW6
  obtain ⟨c0, c1, _, _⟩ := C6.out.at
  obtain ⟨⟨r0, r1, r2, r3, r4, r5⟩, ⟨q0, q1, q2, q3, q4, q5⟩⟩ := R6.out.at6
  obtain ⟨⟨x0, x1, x2, x3, x4, x5⟩, ⟨v0, v1, v2, v3, v4, v5⟩⟩ := H6.out.at6
  obtain ⟨W7, hW7⟩ : ∃ W7, ((W6.setCell ⟨w3.heap.size, 2, none⟩ (strV p)).setCell ⟨w3.heap.size, 3, none⟩ (strV s)).setCell ⟨w3.heap.size, 4, none⟩ (.bool true) = W7 := ⟨_, rfl⟩
  have hB7 := Lib.hid (show Below w.heap.size w W7 from hW7 ▸ ((hB6.out.setCell hle.out _).setCell hle.out _).setCell hle.out _)
  have R7 := Lib.hid (show Blk W7 w.heap.size #[.bool false, .string ⟨#[]⟩, .string ⟨#[]⟩, .string ⟨#[]⟩, .bool false, .bool false] 64 from hW7 ▸ ((R6.out.far (b' := w3.heap.size) (o := 2) (by omega) (strV p)).far (b' := w3.heap.size) (o := 3) (by omega) (strV s)).far (b' := w3.heap.size) (o := 4) (by omega) (.bool true))
  have H7 := Lib.hid (show Blk W7 w3.heap.size #[.bool true, strV key, strV p, strV s, .bool true, .bool false] 64 from hW7 ▸ ((H6.out.set 2 (strV p)).set 3 (strV s)).set 4 (.bool true))
  have HW7 := Lib.hid hW7
  clear hW7
  go_wp2_with fail
  rw [HW7.out]
  clear HW7 c0 c1 r0 r1 r2 r3 r4 r5 q0 q1 q2 q3 q4 q5 x0 x1 x2 x3 x4 x5 v0 v1 v2 v3 v4 v5
  refine (LB2.out W7 hB7.out).mono ?_
  rintro e w' ⟨rfl, rfl⟩
  go_wp2_with fail
  refine (LA1.out W7 hB7.out).mono ?_
  rintro e w' ⟨rfl, rfl⟩
  go_wp2_with fail
  refine (LA2.out W7 hB7.out).mono ?_
  rintro e w' ⟨rfl, rfl⟩
  obtain ⟨⟨r0, r1, r2, r3, r4, r5⟩, ⟨q0, q1, q2, q3, q4, q5⟩⟩ := R7.out.at6
  obtain ⟨⟨x0, x1, x2, x3, x4, x5⟩, ⟨v0, v1, v2, v3, v4, v5⟩⟩ := H7.out.at6
  obtain ⟨⟨s0, s1, s2, s3, s4, s5⟩, _⟩ := (R7.out.set6 (.bool false) (.string ⟨#[]⟩) (.string ⟨#[]⟩) (.string ⟨#[]⟩) (.bool false) (.bool false)).at6
  unfold set6 at s0 s1 s2 s3 s4 s5
  go_wp2_with fail
  (try simp only [Exit.inBlock, Exit.then])
  refine bodyPost_ret (by simp [results, Tryd.results35, go_sem, s0, s1, s2, s3, s4, s5]; first | rfl | done) rfl (HP.out _ _ rfl ?_)
  exact below_set6 (hB7.out) (Nat.le_refl _) _ _ _ _ _ _
end Go.Proofs.YtdmfladcldkmeaaDoor
namespace Go.Proofs.YtdmfladcldkmeaaDoor
open Go.ChangeShapes Go.WideShapes Go.ChangeAt Go.RowKit
set_option linter.unusedVariables false
set_option maxRecDepth 100000

theorem at_b {l : List UInt8} {q : Nat} (hq : q ≤ l.length) (b : Nat) (hb : b < 256) (m : List UInt8) (hm : m = [UInt8.ofNat b]) : atB l (q : Int) m = decide (q < l.length ∧ byteAt l q = b) := by subst hm; exact at_one hb hq
/-- The ways that the end of a head may go. -/
theorem tail_ways {l : List UInt8} {q : Nat} (hq : q ≤ l.length) (nm p s : List UInt8) (o : Bool) :
    (atB l (q : Int) [91] = true ∧ hdE l nm p s o q = ⟨true, nm, p, s, o, true, (q : Int) + 1, 0⟩) ∨
    (atB l (q : Int) [91] = false ∧ atB l (q : Int) [62] = true ∧ hdE l nm p s o q = ⟨true, nm, p, s, o, false, (q : Int) + 1, 0⟩) ∨
    (atB l (q : Int) [91] = false ∧ atB l (q : Int) [62] = false ∧ hdE l nm p s o q = noH 7) := by
  rw [at_b hq 91 (by omega) [91] rfl, at_b hq 62 (by omega) [62] rfl]
  by_cases h0 : q = l.length
  · exact .inr (.inr ⟨by simp; omega, by simp; omega, hdE_len h0⟩)
  · by_cases h1 : byteAt l q = 91
    · exact .inl ⟨by simp; omega, hdE_opn (by omega) h1⟩
    · by_cases h2 : byteAt l q = 62
      · exact .inr (.inl ⟨by simp; omega, by simp; omega, hdE_cls (by omega) h2⟩)
      · exact .inr (.inr ⟨by simp; omega, by simp; omega, hdE_oth h1 h2⟩)
theorem rdoc_any (l : List UInt8) (A : Option Addr) (n c : Nat) (k : Int) (w : World) (hn : l.length = n) (hnc : n ≤ c) (hm : c ≤ 9223372036854775807) (hn9 : n ≤ 1000000) (hk : I64 k) (hs : Sees w A (vB l)) :
    Calls Tryd.prog 35 #[.slice A n c, .int .i64 k] w (DocPost (hdT l k) w) := by
  by_cases hout : k < 0 ∨ (n : Int) < k
  · rw [show hdT l k = noH 3 by unfold hdT; rw [if_pos (by rw [hn]; exact hout)]]
    exact rdoc_out l A n c k w hk hout
  · obtain ⟨j, rfl⟩ : ∃ j : Nat, k = j := ⟨k.toNat, by omega⟩
    have hj : j ≤ n := by omega
    unfold hdT
    rw [if_neg (by rw [hn]; exact hout), Int.toNat_natCast]
    cases hpre : atB l (j : Int) dtW with
    | false =>
      rw [if_pos rfl]
      exact rdoc_not l A n c j w hn hnc hm hn9 hj hs hpre
    | true =>
      have h9 : j + 9 ≤ n := by have := atB_fit hpre (by simp [dtW]); simp [dtW] at this; omega
      rw [if_neg (by simp)]
      have hbg := blkN_le l l.length (j + 9) (by omega)
      by_cases hg7 : blkN l l.length (j + 9) = j + 9
      · rw [bbT_7 nmT hg7, if_pos (by show (7 : Int) ≠ 0; omega)]
        exact rdoc_7 l A n c j w hn hnc hm hn9 hj hs hpre h9 hg7
      · obtain ⟨g, hg⟩ : ∃ g, blkN l l.length (j + 9) = g := ⟨_, rfl⟩
        rw [hg] at hg7 hbg
        rw [bbT_on nmT hg hg7]
        by_cases h0 : (nmT l (g : Int)).2.2 = 0
        · rw [if_neg (by rw [h0]; simp)]
          obtain ⟨z, hnm0, hzg, hzl, _⟩ := nmT_go (by omega) h0
          obtain ⟨key, y, e0, hnm⟩ : ∃ s y e0, nmT l (g : Int) = (s, y, e0) := ⟨_, _, _, rfl⟩
          have hz : y = (z : Int) := by rw [hnm] at hnm0; injection hnm0 with _ h; injection h
          rw [hnm] at h0 ⊢
          simp only at h0 ⊢
          subst h0; subst hz
          rw [Int.toNat_natCast]
          have hb := blkN_le l l.length z hzl
          obtain ⟨f, hf⟩ : ∃ f, blkN l l.length z = f := ⟨_, rfl⟩
          rw [hf] at hb ⊢
          have aS := at_b (l := l) (q := f) (by omega) 83 (by omega) [83] rfl
          have aP := at_b (l := l) (q := f) (by omega) 80 (by omega) [80] rfl
          by_cases hc : z < f ∧ f < l.length ∧ (byteAt l f = 83 ∨ byteAt l f = 80)
          · rw [if_pos hc]
            obtain ⟨h1, h2, h3⟩ := hc
            by_cases hx0 : (extT l (f : Int)).2.2.2 = 0
            · rw [if_neg (by rw [hx0]; simp)]
              obtain ⟨y, hy, hyl⟩ := ext_go hx0
              obtain ⟨p, s, y', e0, hx⟩ : ∃ p s y e0, extT l (f : Int) = (p, s, y, e0) := ⟨_, _, _, _, rfl⟩
              rw [hx] at hx0 hy ⊢
              simp only at hx0 hy ⊢
              subst hx0; subst hy
              rw [Int.toNat_natCast]
              have hb2 := blkN_le l l.length y hyl
              obtain ⟨q, hq⟩ : ∃ q, blkN l l.length y = q := ⟨_, rfl⟩
              rw [hq] at hb2 ⊢
              rcases h3 with h3 | h3
              · have haS : atB l (f : Int) [83] = true := by rw [aS]; simp; omega
                rcases tail_ways hb2.2 key p s true with ⟨t1, te⟩ | ⟨t1, t2, te⟩ | ⟨t1, t2, te⟩
                · rw [te]; exact rdoc_extS_opn l A n c j w hn hnc hm hn9 hj hs hpre h9 g hg hg7 (by omega) key z (by omega) hnm f (by omega) hf h1 haS p s y q (by omega) (by omega) hx hq t1
                · rw [te]; exact rdoc_extS_cls l A n c j w hn hnc hm hn9 hj hs hpre h9 g hg hg7 (by omega) key z (by omega) hnm f (by omega) hf h1 haS p s y q (by omega) (by omega) hx hq t1 t2
                · rw [te]; exact rdoc_extS_bad l A n c j w hn hnc hm hn9 hj hs hpre h9 g hg hg7 (by omega) key z (by omega) hnm f (by omega) hf h1 haS p s y q (by omega) (by omega) hx hq t1 t2
              · have haS : atB l (f : Int) [83] = false := by rw [aS]; simp; omega
                have haP : atB l (f : Int) [80] = true := by rw [aP]; simp; omega
                rcases tail_ways hb2.2 key p s true with ⟨t1, te⟩ | ⟨t1, t2, te⟩ | ⟨t1, t2, te⟩
                · rw [te]; exact rdoc_extP_opn l A n c j w hn hnc hm hn9 hj hs hpre h9 g hg hg7 (by omega) key z (by omega) hnm f (by omega) hf h1 haS haP p s y q (by omega) (by omega) hx hq t1
                · rw [te]; exact rdoc_extP_cls l A n c j w hn hnc hm hn9 hj hs hpre h9 g hg hg7 (by omega) key z (by omega) hnm f (by omega) hf h1 haS haP p s y q (by omega) (by omega) hx hq t1 t2
                · rw [te]; exact rdoc_extP_bad l A n c j w hn hnc hm hn9 hj hs hpre h9 g hg hg7 (by omega) key z (by omega) hnm f (by omega) hf h1 haS haP p s y q (by omega) (by omega) hx hq t1 t2
            · rw [if_pos hx0]
              rcases h3 with h3 | h3
              · exact rdoc_extS_e l A n c j w hn hnc hm hn9 hj hs hpre h9 g hg hg7 (by omega) key z (by omega) hnm f (by omega) hf h1 (by rw [aS]; simp; omega) _ hx0 (ext_err _ _ hx0)
              · exact rdoc_extP_e l A n c j w hn hnc hm hn9 hj hs hpre h9 g hg hg7 (by omega) key z (by omega) hnm f (by omega) hf h1 (by rw [aS]; simp; omega) (by rw [aP]; simp; omega) _ hx0 (ext_err _ _ hx0)
          · rw [if_neg hc]
            by_cases c1 : f = z
            · rcases tail_ways (l := l) (q := f) (by omega) key [] [] false with ⟨t1, te⟩ | ⟨t1, t2, te⟩ | ⟨t1, t2, te⟩
              · rw [te]; exact rdoc_no_c1_opn l A n c j w hn hnc hm hn9 hj hs hpre h9 g hg hg7 (by omega) key z (by omega) hnm f (by omega) hf c1 t1
              · rw [te]; exact rdoc_no_c1_cls l A n c j w hn hnc hm hn9 hj hs hpre h9 g hg hg7 (by omega) key z (by omega) hnm f (by omega) hf c1 t1 t2
              · rw [te]; exact rdoc_no_c1_bad l A n c j w hn hnc hm hn9 hj hs hpre h9 g hg hg7 (by omega) key z (by omega) hnm f (by omega) hf c1 t1 t2
            · have haS : atB l (f : Int) [83] = false := by rw [aS]; simp; omega
              have haP : atB l (f : Int) [80] = false := by rw [aP]; simp; omega
              rcases tail_ways (l := l) (q := f) (by omega) key [] [] false with ⟨t1, te⟩ | ⟨t1, t2, te⟩ | ⟨t1, t2, te⟩
              · rw [te]; exact rdoc_no_c3_opn l A n c j w hn hnc hm hn9 hj hs hpre h9 g hg hg7 (by omega) key z (by omega) hnm f (by omega) hf (by omega) haS haP t1
              · rw [te]; exact rdoc_no_c3_cls l A n c j w hn hnc hm hn9 hj hs hpre h9 g hg hg7 (by omega) key z (by omega) hnm f (by omega) hf (by omega) haS haP t1 t2
              · rw [te]; exact rdoc_no_c3_bad l A n c j w hn hnc hm hn9 hj hs hpre h9 g hg hg7 (by omega) key z (by omega) hnm f (by omega) hf (by omega) haS haP t1 t2
        · rw [if_pos h0]
          exact rdoc_nme l A n c j w hn hnc hm hn9 hj hs hpre h9 g hg hg7 (by omega) _ h0 (nmT_err l _ h0)
set_option maxHeartbeats 8000000 in
theorem extidHeads_any (l : List UInt8) (A : Option Addr) (n c : Nat) (k : Int) (w : World) (hn : l.length = n) (hnc : n ≤ c) (hcm : c ≤ maxLen) (hk : I64 k) (hs : Sees w A (vB l)) (ht : TabN w) (hP : TabP w) :
    Calls Tryd.prog 8 #[.slice A n c, .int .i64 k] w fun e w' => e = .returned (.bool true) ∧ Below w.heap.size w w' := by
  unfold maxLen at hcm
  have HL := Lib.hid (fun (w' : World) (hb : Below w.heap.size w w') => live13_any w' (ht.below hb) (hP.below hb))
  by_cases hbig : 400 < n
  · clear hs
    go_enter Tryd.func8, Tryd.ntmps8
    go_wp2_with fail
    refine (HL.out w (Below.refl _ _)).mono ?_
    rintro e w1 ⟨rfl, hb⟩
    go_wp2_with fail
    go_ret
    exact ⟨rfl, hb⟩
  have H1 := doc_any l A n c k w hn hnc hcm (by omega) hk hs ht hP
  have H2 := fun (w' : World) (hb : Below w.heap.size w w') => rdoc_any l A n c k w' hn hnc hcm (by omega) hk (hs.below hb)
  obtain ⟨⟨has, nm, p, s, o, op, y, e0⟩, hx⟩ : ∃ x, hdT l k = x := ⟨_, rfl⟩
  rw [hx] at H1 H2
  have K1 := Lib.hid H1
  have K2 := Lib.hid H2
  have e1 := eqExt ⟨p.toArray⟩ ⟨s.toArray⟩
  clear H1 H2 hs ht hP hn hx
  go_enter Tryd.func8, Tryd.ntmps8
  go_wp2_with fail
  refine K1.out.mono ?_
  rintro e w1 ⟨rfl, hb1⟩
  have hB1 := Lib.hid (hb1.alloc hb1.size (.cells #[.bool has, strV nm, strV p, strV s, .bool o, .bool op] 61))
  have T1 := Lib.hid (Blk.new w1 #[.bool has, strV nm, strV p, strV s, .bool o, .bool op] 61 _ rfl)
  clear hb1
  unfold hdV
  simp only
  go_wp2_with fail
  refine (K2.out _ hB1.out).mono ?_
  rintro e w2 ⟨rfl, hb2⟩
  have hB2 := hB1.out.trans (hb2.mono hB1.out.size)
  have T2 := T1.out.below hb2
  have hlt := T2.lt
  have hB3 := Lib.hid (hB2.alloc hB2.size (.cells #[.bool has, strV nm, strV p, strV s, .bool o, .bool op] 64))
  obtain ⟨⟨x0, x1, x2, x3, x4, x5⟩, _⟩ := (T2.alloc (.cells #[.bool has, strV nm, strV p, strV s, .bool o, .bool op] 64)).at6
  obtain ⟨⟨y0, y1, y2, y3, y4, y5⟩, _⟩ := (Blk.new w2 #[.bool has, strV nm, strV p, strV s, .bool o, .bool op] 64 _ rfl).at6
  clear hb2 hB2 T2
  unfold hdV
  simp only
  go_wp2_with fail
  refine (HL.out _ hB3.out).mono ?_
  rintro e w3 ⟨rfl, hb3⟩
  go_wp2_with fail
  go_ret
  exact ⟨rfl, hB3.out.trans (hb3.mono hB3.out.size)⟩
end Go.Proofs.YtdmfladcldkmeaaDoor
namespace Go.Proofs.YtdmfladcldkmeaaDoor
open Go.ChangeShapes Go.WideShapes Go.ChangeAt Go.RowKit
set_option linter.unusedVariables false

theorem sees_row8 {w : World} {x : Addr} {len cap : Nat} {zs : List Int} (hz : zs.length = cap) (hl : len ≤ cap) (hc : ∀ i, i < zs.length → w.cell? (x.add i) = some (.int .u8 (zs.getD i 0)))
    (hw : ∀ n ∈ zs, (Lit.int .u8 n).wf = true) : ∃ l : List UInt8, l.length = len ∧ Sees w (some x) (vB l) := by
  obtain ⟨h1, h2⟩ := sees_row hz hl hc
  refine ⟨(zs.take len).map fun z => UInt8.ofNat z.toNat, by rw [List.length_map, h1], ?_⟩
  have e : vB ((zs.take len).map fun z => UInt8.ofNat z.toNat) = (zs.take len).map (Value.int .u8) := by
    unfold vB
    rw [List.map_map]
    apply List.map_congr_left
    intro z hz
    have := bounds_u8 (hw z (List.mem_of_mem_take hz))
    show Value.int .u8 _ = _
    rw [ofNat_toNat (by omega), Int.toNat_of_nonneg this.1]
  rw [e]
  exact h2

end Go.Proofs.YtdmfladcldkmeaaDoor
