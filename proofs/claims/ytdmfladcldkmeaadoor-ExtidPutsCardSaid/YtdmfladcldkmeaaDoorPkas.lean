/- How a document type begins, by the program: with an identifier of the system. How a document type begins, by the program: with a public identifier. How a document type begins, whole: by the program. -/
import Derived.Test.YtdmfladcldkmeaaDoorPkar
namespace Go.Proofs.YtdmfladcldkmeaaDoor
open Go.ChangeShapes Go.WideShapes Go.ChangeAt Go.RowKit
set_option linter.unusedVariables false
set_option maxRecDepth 100000

theorem ext_anyT (l : List UInt8) (A : Option Addr) (n c : Nat) (k : Int) (w : World) {p s : List UInt8} {y e0 : Int} (hx : extT l k = (p, s, y, e0)) (hn : l.length = n) (hnc : n ≤ c) (hm : c ≤ 9223372036854775807) (hn9 : n ≤ 1000000) (hk : I64 k) (hs : Sees w A (vB l)) (ht : TabP w) :
    Calls Tryd.prog 38 #[.slice A n c, .int .i64 k] w fun e w' => e = .returned (.tuple #[.agg #[strV p, strV s], .int .i64 y, .int .i64 e0]) ∧ Below w.heap.size w w' := by
  have h := ext_any l A n c k w hn hnc hm hn9 hk hs ht
  rw [hx] at h
  exact h

set_option maxHeartbeats 16000000 in
theorem doc_extS_e (l : List UInt8) (A : Option Addr) (n c j : Nat) (w : World) (hn : l.length = n) (hnc : n ≤ c) (hm : c ≤ 9223372036854775807) (hn9 : n ≤ 1000000) (hj : j ≤ n) (hs : Sees w A (vB l)) (ht : TabN w) (hP : TabP w) (hpre : atB l (j : Int) dtW = true) (h9 : j + 9 ≤ n) (key : List UInt8) (z f : Nat) (hz : 0 < z) (hzn : z ≤ n) (hnm : bbT nmT l (j + 9) = (key, (z : Int), 0)) (hbk : blkN l l.length z = f) (hf : z < f) (hfn : f < n) (hfb : byteAt l f = 83) (e0 : Int) (h0 : e0 ≠ 0) (hx : extT l (f : Int) = noX e0) :
    Calls Tryd.prog 34 #[.slice A n c, .int .i64 (j : Int)] w (DocPost (noH e0) w) := by
  have hbA := ((Below.refl _ w).alloc (Nat.le_refl _) (.cells #[.bool false, .string ⟨#[]⟩, .string ⟨#[]⟩, .string ⟨#[]⟩, .bool false, .bool false] 61)).alloc (by simp) (.cells (vB dtW).toArray 5 (9, 10))
  have R0 := (Blk.new w #[.bool false, .string ⟨#[]⟩, .string ⟨#[]⟩, .string ⟨#[]⟩, .bool false, .bool false] 61 _ rfl).alloc (.cells (vB dtW).toArray 5 (9, 10))
  have i0 : (0 : Int) ≤ (j : Int) := by omega
  have i1 : (j : Int) ≤ (n : Int) := by omega
  have HSL := fun (W : World) => slice_from W A n c j hj
  obtain ⟨A2, hA2⟩ : ∃ A2, tailA A c j = A2 := ⟨_, rfl⟩
  rw [hA2] at HSL
  have kc2 := const_at2
  have KPre := pre_const (l.drop j) dtW A2 (n - j) (c - j) 9 (w.alloc (.cells #[.bool false, .string ⟨#[]⟩, .string ⟨#[]⟩, .string ⟨#[]⟩, .bool false, .bool false] 61)) (w.heap.size + 1) (9, 10) (by rw [List.length_drop, hn]) (by omega) (by omega) rfl (by omega) (by omega) (by simp) (hA2 ▸ sees_tail (hs.below ((Below.refl _ w).alloc (Nat.le_refl _) _)) (by omega) j)
  rw [show ((l.drop j).take 9 == dtW) = atB l (j : Int) dtW from (atB_take l dtW j).symm, hpre] at KPre
  rw [show (vB dtW).toArray = #[.int .u8 60, .int .u8 33, .int .u8 68, .int .u8 79, .int .u8 67, .int .u8 84, .int .u8 89, .int .u8 80, .int .u8 69] from rfl] at hbA R0 KPre
  obtain ⟨W2, hW2⟩ : ∃ W2, (w.alloc (.cells #[.bool false, .string ⟨#[]⟩, .string ⟨#[]⟩, .string ⟨#[]⟩, .bool false, .bool false] 61)).alloc (.cells #[.int .u8 60, .int .u8 33, .int .u8 68, .int .u8 79, .int .u8 67, .int .u8 84, .int .u8 89, .int .u8 80, .int .u8 69] 5 (9, 10)) = W2 := ⟨_, rfl⟩
  have HW2 := Lib.hid hW2
  rw [hW2] at hbA R0 KPre
  have hB2 := Lib.hid hbA
  have R2 := Lib.hid R0
  have LPre := Lib.hid KPre
  have HP := Lib.hid (show ∀ v W', v = hdV (noH e0) → Below w.heap.size w W' → DocPost (noH e0) w (.returned v) W' from fun v W' hv hb => ⟨by rw [hv], hb⟩)
  obtain ⟨ad, rfl, _⟩ := hs.byte (k := 0) (by omega)
  have HC := Lib.hid (fun (w' : World) (hb : Below w.heap.size w w') (i : Nat) (hi : i < n) => byte_at (hs.below hb) (k := i) (by omega))
  have LN := Lib.hid (fun (w' : World) (hb : Below w.heap.size w w') => name_bbT l (some ad) n c (j + 9) ((j : Int) + 9) w' (by omega) hnm hn hnc hm hn9 h9 (hs.below hb) (ht.below hb))
  have KB := fun (w' : World) (hb : Below w.heap.size w w') (i q : Nat) (hi : i ≤ n) (hq : blkN l l.length i = q) => (show Calls Tryd.prog 65 #[.slice (some ad) n c, .int .i64 (i : Int)] w' fun e w'' => e = .returned (.int .i64 (q : Int)) ∧ w' = w'' from by
    have h := blanks_any l (some ad) n c (i : Int) w' hn hnc (by omega) ⟨by omega, by omega⟩ (hs.below hb); rw [blkV_in (by omega), hq] at h; exact h)
  have LB := Lib.hid (fun (w' : World) (hb : Below w.heap.size w w') => KB w' hb z f hzn hbk)
  have tg : (z : Int) < (f : Int) := by omega
  have tf : (f : Int) < (n : Int) := by omega
  have tf0 : (0 : Int) ≤ (f : Int) := by omega
  have ts : ((byteAt l f : Int) == 83) = true := by rw [beq_iff_eq]; omega
  have t0 : (e0 != 0) = true := by simpa using h0
  have LX := Lib.hid (fun (w' : World) (hb : Below w.heap.size w w') => ext_anyT l (some ad) n c (f : Int) w' hx hn hnc hm hn9 ⟨by omega, by omega⟩ (hs.below hb) (hP.below hb))
  clear hs ht hP hn hbA R0 hA2 hW2 KPre hpre KB hnm hbk hfb hx h0
  go_enter Tryd.func34, Tryd.ntmps34
  go_wp2_with fail
  rw [HW2.out]
  clear HW2
  refine LPre.out.mono ?_
  rintro e w' ⟨rfl, rfl⟩
  go_wp2_with fail
  refine (LN.out W2 hB2.out).mono ?_
  rintro e w3 ⟨rfl, hb3⟩
  have hB3 := Lib.hid (hB2.out.trans (hb3.mono hB2.out.size))
  have R3 := Lib.hid (R2.out.below hb3)
  clear hb3
  have hlt := R3.out.lt
  have hB4 := hB3.out.alloc hB3.out.size (.cells #[.bool true, strV key, .string ⟨#[]⟩, .string ⟨#[]⟩, .bool false, .bool false] 61)
  have R4 := R3.out.alloc (.cells #[.bool true, strV key, .string ⟨#[]⟩, .string ⟨#[]⟩, .bool false, .bool false] 61)
  have H4 := Blk.new w3 #[.bool true, strV key, .string ⟨#[]⟩, .string ⟨#[]⟩, .bool false, .bool false] 61 _ rfl
  obtain ⟨W4, hW4⟩ : ∃ W4, w3.alloc (.cells #[.bool true, strV key, .string ⟨#[]⟩, .string ⟨#[]⟩, .bool false, .bool false] 61) = W4 := ⟨_, rfl⟩
  rw [hW4] at hB4 R4 H4
  have HW4 := Lib.hid hW4
  have hB4 := Lib.hid hB4
  have R4 := Lib.hid R4
  have H4 := Lib.hid H4
  have hle := Lib.hid (show w.heap.size ≤ w3.heap.size by omega)
  clear hW4
  go_wp2_with fail
  rw [HW4.out]
  clear HW4
  refine (LB.out W4 hB4.out).mono ?_
  rintro e w' ⟨rfl, rfl⟩
  have xf := HC.out W4 hB4.out f (by omega)
  go_wp2_with fail
  refine (LX.out W4 hB4.out).mono ?_
  rintro e w5 ⟨rfl, hb5⟩
  have hB5 := Lib.hid (hB4.out.trans (hb5.mono hB4.out.size))
  have R5 := Lib.hid (R4.out.below hb5)
  have H5 := Lib.hid (H4.out.below hb5)
  clear hb5 xf
  obtain ⟨⟨r0, r1, r2, r3, r4, r5⟩, ⟨q0, q1, q2, q3, q4, q5⟩⟩ := R5.out.at6
  obtain ⟨⟨x0, x1, x2, x3, x4, x5⟩, ⟨v0, v1, v2, v3, v4, v5⟩⟩ := H5.out.at6
  obtain ⟨⟨s0, s1, s2, s3, s4, s5⟩, _⟩ := (((R5.out.far (b' := w3.heap.size) (o := 2) (by omega) (strV [])).far (b' := w3.heap.size) (o := 3) (by omega) (strV [])).set6 (.bool false) (.string ⟨#[]⟩) (.string ⟨#[]⟩) (.string ⟨#[]⟩) (.bool false) (.bool false)).at6
  unfold set6 at s0 s1 s2 s3 s4 s5
  go_wp2_with fail
  (try simp only [Exit.inBlock, Exit.then])
  refine bodyPost_ret (by simp [results, Tryd.results34, go_sem, s0, s1, s2, s3, s4, s5]; first | rfl | done) rfl (HP.out _ _ rfl ?_)
  exact below_set6 ((hB5.out.setCell hle.out _).setCell hle.out _) (Nat.le_refl _) _ _ _ _ _ _

set_option maxHeartbeats 16000000 in
theorem doc_extS_len (l : List UInt8) (A : Option Addr) (n c j : Nat) (w : World) (hn : l.length = n) (hnc : n ≤ c) (hm : c ≤ 9223372036854775807) (hn9 : n ≤ 1000000) (hj : j ≤ n) (hs : Sees w A (vB l)) (ht : TabN w) (hP : TabP w) (hpre : atB l (j : Int) dtW = true) (h9 : j + 9 ≤ n) (key : List UInt8) (z f : Nat) (hz : 0 < z) (hzn : z ≤ n) (hnm : bbT nmT l (j + 9) = (key, (z : Int), 0)) (hbk : blkN l l.length z = f) (hf : z < f) (hfn : f < n) (hfb : byteAt l f = 83) (p s : List UInt8) (y q : Nat) (hyn : y ≤ n) (hx : extT l (f : Int) = (p, s, (y : Int), 0)) (hbq : blkN l l.length y = q) (hqn : q = n) :
    Calls Tryd.prog 34 #[.slice A n c, .int .i64 (j : Int)] w (DocPost (noH 7) w) := by
  have hbA := ((Below.refl _ w).alloc (Nat.le_refl _) (.cells #[.bool false, .string ⟨#[]⟩, .string ⟨#[]⟩, .string ⟨#[]⟩, .bool false, .bool false] 61)).alloc (by simp) (.cells (vB dtW).toArray 5 (9, 10))
  have R0 := (Blk.new w #[.bool false, .string ⟨#[]⟩, .string ⟨#[]⟩, .string ⟨#[]⟩, .bool false, .bool false] 61 _ rfl).alloc (.cells (vB dtW).toArray 5 (9, 10))
  have i0 : (0 : Int) ≤ (j : Int) := by omega
  have i1 : (j : Int) ≤ (n : Int) := by omega
  have HSL := fun (W : World) => slice_from W A n c j hj
  obtain ⟨A2, hA2⟩ : ∃ A2, tailA A c j = A2 := ⟨_, rfl⟩
  rw [hA2] at HSL
  have kc2 := const_at2
  have KPre := pre_const (l.drop j) dtW A2 (n - j) (c - j) 9 (w.alloc (.cells #[.bool false, .string ⟨#[]⟩, .string ⟨#[]⟩, .string ⟨#[]⟩, .bool false, .bool false] 61)) (w.heap.size + 1) (9, 10) (by rw [List.length_drop, hn]) (by omega) (by omega) rfl (by omega) (by omega) (by simp) (hA2 ▸ sees_tail (hs.below ((Below.refl _ w).alloc (Nat.le_refl _) _)) (by omega) j)
  rw [show ((l.drop j).take 9 == dtW) = atB l (j : Int) dtW from (atB_take l dtW j).symm, hpre] at KPre
  rw [show (vB dtW).toArray = #[.int .u8 60, .int .u8 33, .int .u8 68, .int .u8 79, .int .u8 67, .int .u8 84, .int .u8 89, .int .u8 80, .int .u8 69] from rfl] at hbA R0 KPre
  obtain ⟨W2, hW2⟩ : ∃ W2, (w.alloc (.cells #[.bool false, .string ⟨#[]⟩, .string ⟨#[]⟩, .string ⟨#[]⟩, .bool false, .bool false] 61)).alloc (.cells #[.int .u8 60, .int .u8 33, .int .u8 68, .int .u8 79, .int .u8 67, .int .u8 84, .int .u8 89, .int .u8 80, .int .u8 69] 5 (9, 10)) = W2 := ⟨_, rfl⟩
  have HW2 := Lib.hid hW2
  rw [hW2] at hbA R0 KPre
  have hB2 := Lib.hid hbA
  have R2 := Lib.hid R0
  have LPre := Lib.hid KPre
  have HP := Lib.hid (show ∀ v W', v = hdV (noH 7) → Below w.heap.size w W' → DocPost (noH 7) w (.returned v) W' from fun v W' hv hb => ⟨by rw [hv], hb⟩)
  obtain ⟨ad, rfl, _⟩ := hs.byte (k := 0) (by omega)
  have HC := Lib.hid (fun (w' : World) (hb : Below w.heap.size w w') (i : Nat) (hi : i < n) => byte_at (hs.below hb) (k := i) (by omega))
  have LN := Lib.hid (fun (w' : World) (hb : Below w.heap.size w w') => name_bbT l (some ad) n c (j + 9) ((j : Int) + 9) w' (by omega) hnm hn hnc hm hn9 h9 (hs.below hb) (ht.below hb))
  have KB := fun (w' : World) (hb : Below w.heap.size w w') (i q : Nat) (hi : i ≤ n) (hq : blkN l l.length i = q) => (show Calls Tryd.prog 65 #[.slice (some ad) n c, .int .i64 (i : Int)] w' fun e w'' => e = .returned (.int .i64 (q : Int)) ∧ w' = w'' from by
    have h := blanks_any l (some ad) n c (i : Int) w' hn hnc (by omega) ⟨by omega, by omega⟩ (hs.below hb); rw [blkV_in (by omega), hq] at h; exact h)
  have LB := Lib.hid (fun (w' : World) (hb : Below w.heap.size w w') => KB w' hb z f hzn hbk)
  have tg : (z : Int) < (f : Int) := by omega
  have tf : (f : Int) < (n : Int) := by omega
  have tf0 : (0 : Int) ≤ (f : Int) := by omega
  have ts : ((byteAt l f : Int) == 83) = true := by rw [beq_iff_eq]; omega
  have LX := Lib.hid (fun (w' : World) (hb : Below w.heap.size w w') => ext_anyT l (some ad) n c (f : Int) w' hx hn hnc hm hn9 ⟨by omega, by omega⟩ (hs.below hb) (hP.below hb))
  have LB2 := Lib.hid (fun (w' : World) (hb : Below w.heap.size w w') => KB w' hb y q hyn hbq)
  have tn : ((q : Int) == (n : Int)) = true := by rw [beq_iff_eq]; omega
  clear hs ht hP hn hbA R0 hA2 hW2 KPre hpre KB hnm hbk hfb hx hbq
  go_enter Tryd.func34, Tryd.ntmps34
  go_wp2_with fail
  rw [HW2.out]
  clear HW2
  refine LPre.out.mono ?_
  rintro e w' ⟨rfl, rfl⟩
  go_wp2_with fail
  refine (LN.out W2 hB2.out).mono ?_
  rintro e w3 ⟨rfl, hb3⟩
  have hB3 := Lib.hid (hB2.out.trans (hb3.mono hB2.out.size))
  have R3 := Lib.hid (R2.out.below hb3)
  clear hb3
  have hlt := R3.out.lt
  have hB4 := hB3.out.alloc hB3.out.size (.cells #[.bool true, strV key, .string ⟨#[]⟩, .string ⟨#[]⟩, .bool false, .bool false] 61)
  have R4 := R3.out.alloc (.cells #[.bool true, strV key, .string ⟨#[]⟩, .string ⟨#[]⟩, .bool false, .bool false] 61)
  have H4 := Blk.new w3 #[.bool true, strV key, .string ⟨#[]⟩, .string ⟨#[]⟩, .bool false, .bool false] 61 _ rfl
  obtain ⟨W4, hW4⟩ : ∃ W4, w3.alloc (.cells #[.bool true, strV key, .string ⟨#[]⟩, .string ⟨#[]⟩, .bool false, .bool false] 61) = W4 := ⟨_, rfl⟩
  rw [hW4] at hB4 R4 H4
  have HW4 := Lib.hid hW4
  have hB4 := Lib.hid hB4
  have R4 := Lib.hid R4
  have H4 := Lib.hid H4
  have hle := Lib.hid (show w.heap.size ≤ w3.heap.size by omega)
  clear hW4
  go_wp2_with fail
  rw [HW4.out]
  clear HW4
  refine (LB.out W4 hB4.out).mono ?_
  rintro e w' ⟨rfl, rfl⟩
  have xf := HC.out W4 hB4.out f (by omega)
  go_wp2_with fail
  refine (LX.out W4 hB4.out).mono ?_
  rintro e w5 ⟨rfl, hb5⟩
  have hB5 := Lib.hid (hB4.out.trans (hb5.mono hB4.out.size))
  have R5 := Lib.hid (R4.out.below hb5)
  have H5 := Lib.hid (H4.out.below hb5)
  clear hb5 xf
  obtain ⟨⟨r0, r1, r2, r3, r4, r5⟩, ⟨q0, q1, q2, q3, q4, q5⟩⟩ := R5.out.at6
  obtain ⟨⟨x0, x1, x2, x3, x4, x5⟩, ⟨v0, v1, v2, v3, v4, v5⟩⟩ := H5.out.at6
  obtain ⟨W7, hW7⟩ : ∃ W7, ((w5.setCell ⟨w3.heap.size, 2, none⟩ (strV p)).setCell ⟨w3.heap.size, 3, none⟩ (strV s)).setCell ⟨w3.heap.size, 4, none⟩ (.bool true) = W7 := ⟨_, rfl⟩
  have hB7 := Lib.hid (show Below w.heap.size w W7 from hW7 ▸ ((hB5.out.setCell hle.out _).setCell hle.out _).setCell hle.out _)
  have R7 := Lib.hid (show Blk W7 w.heap.size #[.bool false, .string ⟨#[]⟩, .string ⟨#[]⟩, .string ⟨#[]⟩, .bool false, .bool false] 61 from hW7 ▸ ((R5.out.far (b' := w3.heap.size) (o := 2) (by omega) (strV p)).far (b' := w3.heap.size) (o := 3) (by omega) (strV s)).far (b' := w3.heap.size) (o := 4) (by omega) (.bool true))
  have H7 := Lib.hid (show Blk W7 w3.heap.size #[.bool true, strV key, strV p, strV s, .bool true, .bool false] 61 from hW7 ▸ ((H5.out.set 2 (strV p)).set 3 (strV s)).set 4 (.bool true))
  have HW7 := Lib.hid hW7
  clear hW7
  go_wp2_with fail
  rw [HW7.out]
  clear HW7 r0 r1 r2 r3 r4 r5 q0 q1 q2 q3 q4 q5 x0 x1 x2 x3 x4 x5 v0 v1 v2 v3 v4 v5
  refine (LB2.out W7 hB7.out).mono ?_
  rintro e w' ⟨rfl, rfl⟩
  obtain ⟨⟨r0, r1, r2, r3, r4, r5⟩, ⟨q0, q1, q2, q3, q4, q5⟩⟩ := R7.out.at6
  obtain ⟨⟨x0, x1, x2, x3, x4, x5⟩, ⟨v0, v1, v2, v3, v4, v5⟩⟩ := H7.out.at6
  obtain ⟨⟨s0, s1, s2, s3, s4, s5⟩, _⟩ := (R7.out.set6 (.bool false) (.string ⟨#[]⟩) (.string ⟨#[]⟩) (.string ⟨#[]⟩) (.bool false) (.bool false)).at6
  unfold set6 at s0 s1 s2 s3 s4 s5
  go_wp2_with fail
  (try simp only [Exit.inBlock, Exit.then])
  refine bodyPost_ret (by simp [results, Tryd.results34, go_sem, s0, s1, s2, s3, s4, s5]; first | rfl | done) rfl (HP.out _ _ rfl ?_)
  exact below_set6 (hB7.out) (Nat.le_refl _) _ _ _ _ _ _

set_option maxHeartbeats 16000000 in
theorem doc_extS_oth (l : List UInt8) (A : Option Addr) (n c j : Nat) (w : World) (hn : l.length = n) (hnc : n ≤ c) (hm : c ≤ 9223372036854775807) (hn9 : n ≤ 1000000) (hj : j ≤ n) (hs : Sees w A (vB l)) (ht : TabN w) (hP : TabP w) (hpre : atB l (j : Int) dtW = true) (h9 : j + 9 ≤ n) (key : List UInt8) (z f : Nat) (hz : 0 < z) (hzn : z ≤ n) (hnm : bbT nmT l (j + 9) = (key, (z : Int), 0)) (hbk : blkN l l.length z = f) (hf : z < f) (hfn : f < n) (hfb : byteAt l f = 83) (p s : List UInt8) (y q : Nat) (hyn : y ≤ n) (hx : extT l (f : Int) = (p, s, (y : Int), 0)) (hbq : blkN l l.length y = q) (hqn : q < n) (hb1 : byteAt l q ≠ 91) (hb2 : byteAt l q ≠ 62) :
    Calls Tryd.prog 34 #[.slice A n c, .int .i64 (j : Int)] w (DocPost (noH 7) w) := by
  have hbA := ((Below.refl _ w).alloc (Nat.le_refl _) (.cells #[.bool false, .string ⟨#[]⟩, .string ⟨#[]⟩, .string ⟨#[]⟩, .bool false, .bool false] 61)).alloc (by simp) (.cells (vB dtW).toArray 5 (9, 10))
  have R0 := (Blk.new w #[.bool false, .string ⟨#[]⟩, .string ⟨#[]⟩, .string ⟨#[]⟩, .bool false, .bool false] 61 _ rfl).alloc (.cells (vB dtW).toArray 5 (9, 10))
  have i0 : (0 : Int) ≤ (j : Int) := by omega
  have i1 : (j : Int) ≤ (n : Int) := by omega
  have HSL := fun (W : World) => slice_from W A n c j hj
  obtain ⟨A2, hA2⟩ : ∃ A2, tailA A c j = A2 := ⟨_, rfl⟩
  rw [hA2] at HSL
  have kc2 := const_at2
  have KPre := pre_const (l.drop j) dtW A2 (n - j) (c - j) 9 (w.alloc (.cells #[.bool false, .string ⟨#[]⟩, .string ⟨#[]⟩, .string ⟨#[]⟩, .bool false, .bool false] 61)) (w.heap.size + 1) (9, 10) (by rw [List.length_drop, hn]) (by omega) (by omega) rfl (by omega) (by omega) (by simp) (hA2 ▸ sees_tail (hs.below ((Below.refl _ w).alloc (Nat.le_refl _) _)) (by omega) j)
  rw [show ((l.drop j).take 9 == dtW) = atB l (j : Int) dtW from (atB_take l dtW j).symm, hpre] at KPre
  rw [show (vB dtW).toArray = #[.int .u8 60, .int .u8 33, .int .u8 68, .int .u8 79, .int .u8 67, .int .u8 84, .int .u8 89, .int .u8 80, .int .u8 69] from rfl] at hbA R0 KPre
  obtain ⟨W2, hW2⟩ : ∃ W2, (w.alloc (.cells #[.bool false, .string ⟨#[]⟩, .string ⟨#[]⟩, .string ⟨#[]⟩, .bool false, .bool false] 61)).alloc (.cells #[.int .u8 60, .int .u8 33, .int .u8 68, .int .u8 79, .int .u8 67, .int .u8 84, .int .u8 89, .int .u8 80, .int .u8 69] 5 (9, 10)) = W2 := ⟨_, rfl⟩
  have HW2 := Lib.hid hW2
  rw [hW2] at hbA R0 KPre
  have hB2 := Lib.hid hbA
  have R2 := Lib.hid R0
  have LPre := Lib.hid KPre
  have HP := Lib.hid (show ∀ v W', v = hdV (noH 7) → Below w.heap.size w W' → DocPost (noH 7) w (.returned v) W' from fun v W' hv hb => ⟨by rw [hv], hb⟩)
  obtain ⟨ad, rfl, _⟩ := hs.byte (k := 0) (by omega)
  have HC := Lib.hid (fun (w' : World) (hb : Below w.heap.size w w') (i : Nat) (hi : i < n) => byte_at (hs.below hb) (k := i) (by omega))
  have LN := Lib.hid (fun (w' : World) (hb : Below w.heap.size w w') => name_bbT l (some ad) n c (j + 9) ((j : Int) + 9) w' (by omega) hnm hn hnc hm hn9 h9 (hs.below hb) (ht.below hb))
  have KB := fun (w' : World) (hb : Below w.heap.size w w') (i q : Nat) (hi : i ≤ n) (hq : blkN l l.length i = q) => (show Calls Tryd.prog 65 #[.slice (some ad) n c, .int .i64 (i : Int)] w' fun e w'' => e = .returned (.int .i64 (q : Int)) ∧ w' = w'' from by
    have h := blanks_any l (some ad) n c (i : Int) w' hn hnc (by omega) ⟨by omega, by omega⟩ (hs.below hb); rw [blkV_in (by omega), hq] at h; exact h)
  have LB := Lib.hid (fun (w' : World) (hb : Below w.heap.size w w') => KB w' hb z f hzn hbk)
  have tg : (z : Int) < (f : Int) := by omega
  have tf : (f : Int) < (n : Int) := by omega
  have tf0 : (0 : Int) ≤ (f : Int) := by omega
  have ts : ((byteAt l f : Int) == 83) = true := by rw [beq_iff_eq]; omega
  have LX := Lib.hid (fun (w' : World) (hb : Below w.heap.size w w') => ext_anyT l (some ad) n c (f : Int) w' hx hn hnc hm hn9 ⟨by omega, by omega⟩ (hs.below hb) (hP.below hb))
  have LB2 := Lib.hid (fun (w' : World) (hb : Below w.heap.size w w') => KB w' hb y q hyn hbq)
  have tn : ((q : Int) == (n : Int)) = false := by rw [beq_eq_false_iff_ne]; omega
  have tl : (q : Int) < (n : Int) := by omega
  have tl0 : (0 : Int) ≤ (q : Int) := by omega
  have tb1 : ((byteAt l q : Int) != 91) = true := by simp; omega
  have tb2 : ((byteAt l q : Int) != 62) = true := by simp; omega
  clear hs ht hP hn hbA R0 hA2 hW2 KPre hpre KB hnm hbk hfb hx hbq
  go_enter Tryd.func34, Tryd.ntmps34
  go_wp2_with fail
  rw [HW2.out]
  clear HW2
  refine LPre.out.mono ?_
  rintro e w' ⟨rfl, rfl⟩
  go_wp2_with fail
  refine (LN.out W2 hB2.out).mono ?_
  rintro e w3 ⟨rfl, hb3⟩
  have hB3 := Lib.hid (hB2.out.trans (hb3.mono hB2.out.size))
  have R3 := Lib.hid (R2.out.below hb3)
  clear hb3
  have hlt := R3.out.lt
  have hB4 := hB3.out.alloc hB3.out.size (.cells #[.bool true, strV key, .string ⟨#[]⟩, .string ⟨#[]⟩, .bool false, .bool false] 61)
  have R4 := R3.out.alloc (.cells #[.bool true, strV key, .string ⟨#[]⟩, .string ⟨#[]⟩, .bool false, .bool false] 61)
  have H4 := Blk.new w3 #[.bool true, strV key, .string ⟨#[]⟩, .string ⟨#[]⟩, .bool false, .bool false] 61 _ rfl
  obtain ⟨W4, hW4⟩ : ∃ W4, w3.alloc (.cells #[.bool true, strV key, .string ⟨#[]⟩, .string ⟨#[]⟩, .bool false, .bool false] 61) = W4 := ⟨_, rfl⟩
  rw [hW4] at hB4 R4 H4
  have HW4 := Lib.hid hW4
  have hB4 := Lib.hid hB4
  have R4 := Lib.hid R4
  have H4 := Lib.hid H4
  have hle := Lib.hid (show w.heap.size ≤ w3.heap.size by omega)
  clear hW4
  go_wp2_with fail
  rw [HW4.out]
  clear HW4
  refine (LB.out W4 hB4.out).mono ?_
  rintro e w' ⟨rfl, rfl⟩
  have xf := HC.out W4 hB4.out f (by omega)
  go_wp2_with fail
  refine (LX.out W4 hB4.out).mono ?_
  rintro e w5 ⟨rfl, hb5⟩
  have hB5 := Lib.hid (hB4.out.trans (hb5.mono hB4.out.size))
  have R5 := Lib.hid (R4.out.below hb5)
  have H5 := Lib.hid (H4.out.below hb5)
  clear hb5 xf
  obtain ⟨⟨r0, r1, r2, r3, r4, r5⟩, ⟨q0, q1, q2, q3, q4, q5⟩⟩ := R5.out.at6
  obtain ⟨⟨x0, x1, x2, x3, x4, x5⟩, ⟨v0, v1, v2, v3, v4, v5⟩⟩ := H5.out.at6
  obtain ⟨W7, hW7⟩ : ∃ W7, ((w5.setCell ⟨w3.heap.size, 2, none⟩ (strV p)).setCell ⟨w3.heap.size, 3, none⟩ (strV s)).setCell ⟨w3.heap.size, 4, none⟩ (.bool true) = W7 := ⟨_, rfl⟩
  have hB7 := Lib.hid (show Below w.heap.size w W7 from hW7 ▸ ((hB5.out.setCell hle.out _).setCell hle.out _).setCell hle.out _)
  have R7 := Lib.hid (show Blk W7 w.heap.size #[.bool false, .string ⟨#[]⟩, .string ⟨#[]⟩, .string ⟨#[]⟩, .bool false, .bool false] 61 from hW7 ▸ ((R5.out.far (b' := w3.heap.size) (o := 2) (by omega) (strV p)).far (b' := w3.heap.size) (o := 3) (by omega) (strV s)).far (b' := w3.heap.size) (o := 4) (by omega) (.bool true))
  have H7 := Lib.hid (show Blk W7 w3.heap.size #[.bool true, strV key, strV p, strV s, .bool true, .bool false] 61 from hW7 ▸ ((H5.out.set 2 (strV p)).set 3 (strV s)).set 4 (.bool true))
  have HW7 := Lib.hid hW7
  clear hW7
  go_wp2_with fail
  rw [HW7.out]
  clear HW7 r0 r1 r2 r3 r4 r5 q0 q1 q2 q3 q4 q5 x0 x1 x2 x3 x4 x5 v0 v1 v2 v3 v4 v5
  refine (LB2.out W7 hB7.out).mono ?_
  rintro e w' ⟨rfl, rfl⟩
  obtain ⟨⟨r0, r1, r2, r3, r4, r5⟩, ⟨q0, q1, q2, q3, q4, q5⟩⟩ := R7.out.at6
  obtain ⟨⟨x0, x1, x2, x3, x4, x5⟩, ⟨v0, v1, v2, v3, v4, v5⟩⟩ := H7.out.at6
  have xq := HC.out W7 hB7.out q (by omega)
  obtain ⟨⟨s0, s1, s2, s3, s4, s5⟩, _⟩ := (R7.out.set6 (.bool false) (.string ⟨#[]⟩) (.string ⟨#[]⟩) (.string ⟨#[]⟩) (.bool false) (.bool false)).at6
  unfold set6 at s0 s1 s2 s3 s4 s5
  go_wp2_with fail
  (try simp only [Exit.inBlock, Exit.then])
  refine bodyPost_ret (by simp [results, Tryd.results34, go_sem, s0, s1, s2, s3, s4, s5]; first | rfl | done) rfl (HP.out _ _ rfl ?_)
  exact below_set6 (hB7.out) (Nat.le_refl _) _ _ _ _ _ _

set_option maxHeartbeats 16000000 in
theorem doc_extS_opn (l : List UInt8) (A : Option Addr) (n c j : Nat) (w : World) (hn : l.length = n) (hnc : n ≤ c) (hm : c ≤ 9223372036854775807) (hn9 : n ≤ 1000000) (hj : j ≤ n) (hs : Sees w A (vB l)) (ht : TabN w) (hP : TabP w) (hpre : atB l (j : Int) dtW = true) (h9 : j + 9 ≤ n) (key : List UInt8) (z f : Nat) (hz : 0 < z) (hzn : z ≤ n) (hnm : bbT nmT l (j + 9) = (key, (z : Int), 0)) (hbk : blkN l l.length z = f) (hf : z < f) (hfn : f < n) (hfb : byteAt l f = 83) (p s : List UInt8) (y q : Nat) (hyn : y ≤ n) (hx : extT l (f : Int) = (p, s, (y : Int), 0)) (hbq : blkN l l.length y = q) (hqn : q < n) (hb1 : byteAt l q = 91) :
    Calls Tryd.prog 34 #[.slice A n c, .int .i64 (j : Int)] w (DocPost (⟨true, key, p, s, true, true, (q : Int) + 1, 0⟩) w) := by
  have hbA := ((Below.refl _ w).alloc (Nat.le_refl _) (.cells #[.bool false, .string ⟨#[]⟩, .string ⟨#[]⟩, .string ⟨#[]⟩, .bool false, .bool false] 61)).alloc (by simp) (.cells (vB dtW).toArray 5 (9, 10))
  have R0 := (Blk.new w #[.bool false, .string ⟨#[]⟩, .string ⟨#[]⟩, .string ⟨#[]⟩, .bool false, .bool false] 61 _ rfl).alloc (.cells (vB dtW).toArray 5 (9, 10))
  have i0 : (0 : Int) ≤ (j : Int) := by omega
  have i1 : (j : Int) ≤ (n : Int) := by omega
  have HSL := fun (W : World) => slice_from W A n c j hj
  obtain ⟨A2, hA2⟩ : ∃ A2, tailA A c j = A2 := ⟨_, rfl⟩
  rw [hA2] at HSL
  have kc2 := const_at2
  have KPre := pre_const (l.drop j) dtW A2 (n - j) (c - j) 9 (w.alloc (.cells #[.bool false, .string ⟨#[]⟩, .string ⟨#[]⟩, .string ⟨#[]⟩, .bool false, .bool false] 61)) (w.heap.size + 1) (9, 10) (by rw [List.length_drop, hn]) (by omega) (by omega) rfl (by omega) (by omega) (by simp) (hA2 ▸ sees_tail (hs.below ((Below.refl _ w).alloc (Nat.le_refl _) _)) (by omega) j)
  rw [show ((l.drop j).take 9 == dtW) = atB l (j : Int) dtW from (atB_take l dtW j).symm, hpre] at KPre
  rw [show (vB dtW).toArray = #[.int .u8 60, .int .u8 33, .int .u8 68, .int .u8 79, .int .u8 67, .int .u8 84, .int .u8 89, .int .u8 80, .int .u8 69] from rfl] at hbA R0 KPre
  obtain ⟨W2, hW2⟩ : ∃ W2, (w.alloc (.cells #[.bool false, .string ⟨#[]⟩, .string ⟨#[]⟩, .string ⟨#[]⟩, .bool false, .bool false] 61)).alloc (.cells #[.int .u8 60, .int .u8 33, .int .u8 68, .int .u8 79, .int .u8 67, .int .u8 84, .int .u8 89, .int .u8 80, .int .u8 69] 5 (9, 10)) = W2 := ⟨_, rfl⟩
  have HW2 := Lib.hid hW2
  rw [hW2] at hbA R0 KPre
  have hB2 := Lib.hid hbA
  have R2 := Lib.hid R0
  have LPre := Lib.hid KPre
  have HP := Lib.hid (show ∀ v W', v = hdV (⟨true, key, p, s, true, true, (q : Int) + 1, 0⟩) → Below w.heap.size w W' → DocPost (⟨true, key, p, s, true, true, (q : Int) + 1, 0⟩) w (.returned v) W' from fun v W' hv hb => ⟨by rw [hv], hb⟩)
  obtain ⟨ad, rfl, _⟩ := hs.byte (k := 0) (by omega)
  have HC := Lib.hid (fun (w' : World) (hb : Below w.heap.size w w') (i : Nat) (hi : i < n) => byte_at (hs.below hb) (k := i) (by omega))
  have LN := Lib.hid (fun (w' : World) (hb : Below w.heap.size w w') => name_bbT l (some ad) n c (j + 9) ((j : Int) + 9) w' (by omega) hnm hn hnc hm hn9 h9 (hs.below hb) (ht.below hb))
  have KB := fun (w' : World) (hb : Below w.heap.size w w') (i q : Nat) (hi : i ≤ n) (hq : blkN l l.length i = q) => (show Calls Tryd.prog 65 #[.slice (some ad) n c, .int .i64 (i : Int)] w' fun e w'' => e = .returned (.int .i64 (q : Int)) ∧ w' = w'' from by
    have h := blanks_any l (some ad) n c (i : Int) w' hn hnc (by omega) ⟨by omega, by omega⟩ (hs.below hb); rw [blkV_in (by omega), hq] at h; exact h)
  have LB := Lib.hid (fun (w' : World) (hb : Below w.heap.size w w') => KB w' hb z f hzn hbk)
  have tg : (z : Int) < (f : Int) := by omega
  have tf : (f : Int) < (n : Int) := by omega
  have tf0 : (0 : Int) ≤ (f : Int) := by omega
  have ts : ((byteAt l f : Int) == 83) = true := by rw [beq_iff_eq]; omega
  have LX := Lib.hid (fun (w' : World) (hb : Below w.heap.size w w') => ext_anyT l (some ad) n c (f : Int) w' hx hn hnc hm hn9 ⟨by omega, by omega⟩ (hs.below hb) (hP.below hb))
  have LB2 := Lib.hid (fun (w' : World) (hb : Below w.heap.size w w') => KB w' hb y q hyn hbq)
  have tn : ((q : Int) == (n : Int)) = false := by rw [beq_eq_false_iff_ne]; omega
  have tl : (q : Int) < (n : Int) := by omega
  have tl0 : (0 : Int) ≤ (q : Int) := by omega
  have tb1 : ((byteAt l q : Int) != 91) = false := by simp; omega
  have tb3 : ((byteAt l q : Int) == 91) = true := by simp; omega
  clear hs ht hP hn hbA R0 hA2 hW2 KPre hpre KB hnm hbk hfb hx hbq
  go_enter Tryd.func34, Tryd.ntmps34
  go_wp2_with fail
  rw [HW2.out]
  clear HW2
  refine LPre.out.mono ?_
  rintro e w' ⟨rfl, rfl⟩
  go_wp2_with fail
  refine (LN.out W2 hB2.out).mono ?_
  rintro e w3 ⟨rfl, hb3⟩
  have hB3 := Lib.hid (hB2.out.trans (hb3.mono hB2.out.size))
  have R3 := Lib.hid (R2.out.below hb3)
  clear hb3
  have hlt := R3.out.lt
  have hB4 := hB3.out.alloc hB3.out.size (.cells #[.bool true, strV key, .string ⟨#[]⟩, .string ⟨#[]⟩, .bool false, .bool false] 61)
  have R4 := R3.out.alloc (.cells #[.bool true, strV key, .string ⟨#[]⟩, .string ⟨#[]⟩, .bool false, .bool false] 61)
  have H4 := Blk.new w3 #[.bool true, strV key, .string ⟨#[]⟩, .string ⟨#[]⟩, .bool false, .bool false] 61 _ rfl
  obtain ⟨W4, hW4⟩ : ∃ W4, w3.alloc (.cells #[.bool true, strV key, .string ⟨#[]⟩, .string ⟨#[]⟩, .bool false, .bool false] 61) = W4 := ⟨_, rfl⟩
  rw [hW4] at hB4 R4 H4
  have HW4 := Lib.hid hW4
  have hB4 := Lib.hid hB4
  have R4 := Lib.hid R4
  have H4 := Lib.hid H4
  have hle := Lib.hid (show w.heap.size ≤ w3.heap.size by omega)
  clear hW4
  go_wp2_with fail
  rw [HW4.out]
  clear HW4
  refine (LB.out W4 hB4.out).mono ?_
  rintro e w' ⟨rfl, rfl⟩
  have xf := HC.out W4 hB4.out f (by omega)
  go_wp2_with fail
  refine (LX.out W4 hB4.out).mono ?_
  rintro e w5 ⟨rfl, hb5⟩
  have hB5 := Lib.hid (hB4.out.trans (hb5.mono hB4.out.size))
  have R5 := Lib.hid (R4.out.below hb5)
  have H5 := Lib.hid (H4.out.below hb5)
  clear hb5 xf
  obtain ⟨⟨r0, r1, r2, r3, r4, r5⟩, ⟨q0, q1, q2, q3, q4, q5⟩⟩ := R5.out.at6
  obtain ⟨⟨x0, x1, x2, x3, x4, x5⟩, ⟨v0, v1, v2, v3, v4, v5⟩⟩ := H5.out.at6
  obtain ⟨W7, hW7⟩ : ∃ W7, ((w5.setCell ⟨w3.heap.size, 2, none⟩ (strV p)).setCell ⟨w3.heap.size, 3, none⟩ (strV s)).setCell ⟨w3.heap.size, 4, none⟩ (.bool true) = W7 := ⟨_, rfl⟩
  have hB7 := Lib.hid (show Below w.heap.size w W7 from hW7 ▸ ((hB5.out.setCell hle.out _).setCell hle.out _).setCell hle.out _)
  have R7 := Lib.hid (show Blk W7 w.heap.size #[.bool false, .string ⟨#[]⟩, .string ⟨#[]⟩, .string ⟨#[]⟩, .bool false, .bool false] 61 from hW7 ▸ ((R5.out.far (b' := w3.heap.size) (o := 2) (by omega) (strV p)).far (b' := w3.heap.size) (o := 3) (by omega) (strV s)).far (b' := w3.heap.size) (o := 4) (by omega) (.bool true))
  have H7 := Lib.hid (show Blk W7 w3.heap.size #[.bool true, strV key, strV p, strV s, .bool true, .bool false] 61 from hW7 ▸ ((H5.out.set 2 (strV p)).set 3 (strV s)).set 4 (.bool true))
  have HW7 := Lib.hid hW7
  clear hW7
  go_wp2_with fail
  rw [HW7.out]
  clear HW7 r0 r1 r2 r3 r4 r5 q0 q1 q2 q3 q4 q5 x0 x1 x2 x3 x4 x5 v0 v1 v2 v3 v4 v5
  refine (LB2.out W7 hB7.out).mono ?_
  rintro e w' ⟨rfl, rfl⟩
  obtain ⟨⟨r0, r1, r2, r3, r4, r5⟩, ⟨q0, q1, q2, q3, q4, q5⟩⟩ := R7.out.at6
  obtain ⟨⟨x0, x1, x2, x3, x4, x5⟩, ⟨v0, v1, v2, v3, v4, v5⟩⟩ := H7.out.at6
  have xq := HC.out W7 hB7.out q (by omega)
  obtain ⟨⟨s0, s1, s2, s3, s4, s5⟩, _⟩ := ((R7.out.far (b' := w3.heap.size) (o := 5) (by omega) (.bool true)).set6 (.bool true) (strV key) (strV p) (strV s) (.bool true) (.bool true)).at6
  unfold set6 at s0 s1 s2 s3 s4 s5
  go_wp2_with fail
  (try simp only [Exit.inBlock, Exit.then])
  refine bodyPost_ret (by simp [results, Tryd.results34, go_sem, s0, s1, s2, s3, s4, s5]; first | rfl | done) rfl (HP.out _ _ rfl ?_)
  exact below_set6 (hB7.out.setCell hle.out _) (Nat.le_refl _) _ _ _ _ _ _

set_option maxHeartbeats 16000000 in
theorem doc_extS_cls (l : List UInt8) (A : Option Addr) (n c j : Nat) (w : World) (hn : l.length = n) (hnc : n ≤ c) (hm : c ≤ 9223372036854775807) (hn9 : n ≤ 1000000) (hj : j ≤ n) (hs : Sees w A (vB l)) (ht : TabN w) (hP : TabP w) (hpre : atB l (j : Int) dtW = true) (h9 : j + 9 ≤ n) (key : List UInt8) (z f : Nat) (hz : 0 < z) (hzn : z ≤ n) (hnm : bbT nmT l (j + 9) = (key, (z : Int), 0)) (hbk : blkN l l.length z = f) (hf : z < f) (hfn : f < n) (hfb : byteAt l f = 83) (p s : List UInt8) (y q : Nat) (hyn : y ≤ n) (hx : extT l (f : Int) = (p, s, (y : Int), 0)) (hbq : blkN l l.length y = q) (hqn : q < n) (hb1 : byteAt l q = 62) :
    Calls Tryd.prog 34 #[.slice A n c, .int .i64 (j : Int)] w (DocPost (⟨true, key, p, s, true, false, (q : Int) + 1, 0⟩) w) := by
  have hbA := ((Below.refl _ w).alloc (Nat.le_refl _) (.cells #[.bool false, .string ⟨#[]⟩, .string ⟨#[]⟩, .string ⟨#[]⟩, .bool false, .bool false] 61)).alloc (by simp) (.cells (vB dtW).toArray 5 (9, 10))
  have R0 := (Blk.new w #[.bool false, .string ⟨#[]⟩, .string ⟨#[]⟩, .string ⟨#[]⟩, .bool false, .bool false] 61 _ rfl).alloc (.cells (vB dtW).toArray 5 (9, 10))
  have i0 : (0 : Int) ≤ (j : Int) := by omega
  have i1 : (j : Int) ≤ (n : Int) := by omega
  have HSL := fun (W : World) => slice_from W A n c j hj
  obtain ⟨A2, hA2⟩ : ∃ A2, tailA A c j = A2 := ⟨_, rfl⟩
  rw [hA2] at HSL
  have kc2 := const_at2
  have KPre := pre_const (l.drop j) dtW A2 (n - j) (c - j) 9 (w.alloc (.cells #[.bool false, .string ⟨#[]⟩, .string ⟨#[]⟩, .string ⟨#[]⟩, .bool false, .bool false] 61)) (w.heap.size + 1) (9, 10) (by rw [List.length_drop, hn]) (by omega) (by omega) rfl (by omega) (by omega) (by simp) (hA2 ▸ sees_tail (hs.below ((Below.refl _ w).alloc (Nat.le_refl _) _)) (by omega) j)
  rw [show ((l.drop j).take 9 == dtW) = atB l (j : Int) dtW from (atB_take l dtW j).symm, hpre] at KPre
  rw [show (vB dtW).toArray = #[.int .u8 60, .int .u8 33, .int .u8 68, .int .u8 79, .int .u8 67, .int .u8 84, .int .u8 89, .int .u8 80, .int .u8 69] from rfl] at hbA R0 KPre
  obtain ⟨W2, hW2⟩ : ∃ W2, (w.alloc (.cells #[.bool false, .string ⟨#[]⟩, .string ⟨#[]⟩, .string ⟨#[]⟩, .bool false, .bool false] 61)).alloc (.cells #[.int .u8 60, .int .u8 33, .int .u8 68, .int .u8 79, .int .u8 67, .int .u8 84, .int .u8 89, .int .u8 80, .int .u8 69] 5 (9, 10)) = W2 := ⟨_, rfl⟩
  have HW2 := Lib.hid hW2
  rw [hW2] at hbA R0 KPre
  have hB2 := Lib.hid hbA
  have R2 := Lib.hid R0
  have LPre := Lib.hid KPre
  have HP := Lib.hid (show ∀ v W', v = hdV (⟨true, key, p, s, true, false, (q : Int) + 1, 0⟩) → Below w.heap.size w W' → DocPost (⟨true, key, p, s, true, false, (q : Int) + 1, 0⟩) w (.returned v) W' from fun v W' hv hb => ⟨by rw [hv], hb⟩)
  obtain ⟨ad, rfl, _⟩ := hs.byte (k := 0) (by omega)
  have HC := Lib.hid (fun (w' : World) (hb : Below w.heap.size w w') (i : Nat) (hi : i < n) => byte_at (hs.below hb) (k := i) (by omega))
  have LN := Lib.hid (fun (w' : World) (hb : Below w.heap.size w w') => name_bbT l (some ad) n c (j + 9) ((j : Int) + 9) w' (by omega) hnm hn hnc hm hn9 h9 (hs.below hb) (ht.below hb))
  have KB := fun (w' : World) (hb : Below w.heap.size w w') (i q : Nat) (hi : i ≤ n) (hq : blkN l l.length i = q) => (show Calls Tryd.prog 65 #[.slice (some ad) n c, .int .i64 (i : Int)] w' fun e w'' => e = .returned (.int .i64 (q : Int)) ∧ w' = w'' from by
    have h := blanks_any l (some ad) n c (i : Int) w' hn hnc (by omega) ⟨by omega, by omega⟩ (hs.below hb); rw [blkV_in (by omega), hq] at h; exact h)
  have LB := Lib.hid (fun (w' : World) (hb : Below w.heap.size w w') => KB w' hb z f hzn hbk)
  have tg : (z : Int) < (f : Int) := by omega
  have tf : (f : Int) < (n : Int) := by omega
  have tf0 : (0 : Int) ≤ (f : Int) := by omega
  have ts : ((byteAt l f : Int) == 83) = true := by rw [beq_iff_eq]; omega
  have LX := Lib.hid (fun (w' : World) (hb : Below w.heap.size w w') => ext_anyT l (some ad) n c (f : Int) w' hx hn hnc hm hn9 ⟨by omega, by omega⟩ (hs.below hb) (hP.below hb))
  have LB2 := Lib.hid (fun (w' : World) (hb : Below w.heap.size w w') => KB w' hb y q hyn hbq)
  have tn : ((q : Int) == (n : Int)) = false := by rw [beq_eq_false_iff_ne]; omega
  have tl : (q : Int) < (n : Int) := by omega
  have tl0 : (0 : Int) ≤ (q : Int) := by omega
  have tb1 : ((byteAt l q : Int) != 91) = true := by simp; omega
  have tb2 : ((byteAt l q : Int) != 62) = false := by simp; omega
  have tb3 : ((byteAt l q : Int) == 91) = false := by simp; omega
  clear hs ht hP hn hbA R0 hA2 hW2 KPre hpre KB hnm hbk hfb hx hbq
  go_enter Tryd.func34, Tryd.ntmps34
  go_wp2_with fail
  rw [HW2.out]
  clear HW2
  refine LPre.out.mono ?_
  rintro e w' ⟨rfl, rfl⟩
  go_wp2_with fail
  refine (LN.out W2 hB2.out).mono ?_
  rintro e w3 ⟨rfl, hb3⟩
  have hB3 := Lib.hid (hB2.out.trans (hb3.mono hB2.out.size))
  have R3 := Lib.hid (R2.out.below hb3)
  clear hb3
  have hlt := R3.out.lt
  have hB4 := hB3.out.alloc hB3.out.size (.cells #[.bool true, strV key, .string ⟨#[]⟩, .string ⟨#[]⟩, .bool false, .bool false] 61)
  have R4 := R3.out.alloc (.cells #[.bool true, strV key, .string ⟨#[]⟩, .string ⟨#[]⟩, .bool false, .bool false] 61)
  have H4 := Blk.new w3 #[.bool true, strV key, .string ⟨#[]⟩, .string ⟨#[]⟩, .bool false, .bool false] 61 _ rfl
  obtain ⟨W4, hW4⟩ : ∃ W4, w3.alloc (.cells #[.bool true, strV key, .string ⟨#[]⟩, .string ⟨#[]⟩, .bool false, .bool false] 61) = W4 := ⟨_, rfl⟩
  rw [hW4] at hB4 R4 H4
  have HW4 := Lib.hid hW4
  have hB4 := Lib.hid hB4
  have R4 := Lib.hid R4
  have H4 := Lib.hid H4
  have hle := Lib.hid (show w.heap.size ≤ w3.heap.size by omega)
  clear hW4
  go_wp2_with fail
  rw [HW4.out]
  clear HW4
  refine (LB.out W4 hB4.out).mono ?_
  rintro e w' ⟨rfl, rfl⟩
  have xf := HC.out W4 hB4.out f (by omega)
  go_wp2_with fail
  refine (LX.out W4 hB4.out).mono ?_
  rintro e w5 ⟨rfl, hb5⟩
  have hB5 := Lib.hid (hB4.out.trans (hb5.mono hB4.out.size))
  have R5 := Lib.hid (R4.out.below hb5)
  have H5 := Lib.hid (H4.out.below hb5)
  clear hb5 xf
  obtain ⟨⟨r0, r1, r2, r3, r4, r5⟩, ⟨q0, q1, q2, q3, q4, q5⟩⟩ := R5.out.at6
  obtain ⟨⟨x0, x1, x2, x3, x4, x5⟩, ⟨v0, v1, v2, v3, v4, v5⟩⟩ := H5.out.at6
  obtain ⟨W7, hW7⟩ : ∃ W7, ((w5.setCell ⟨w3.heap.size, 2, none⟩ (strV p)).setCell ⟨w3.heap.size, 3, none⟩ (strV s)).setCell ⟨w3.heap.size, 4, none⟩ (.bool true) = W7 := ⟨_, rfl⟩
  have hB7 := Lib.hid (show Below w.heap.size w W7 from hW7 ▸ ((hB5.out.setCell hle.out _).setCell hle.out _).setCell hle.out _)
  have R7 := Lib.hid (show Blk W7 w.heap.size #[.bool false, .string ⟨#[]⟩, .string ⟨#[]⟩, .string ⟨#[]⟩, .bool false, .bool false] 61 from hW7 ▸ ((R5.out.far (b' := w3.heap.size) (o := 2) (by omega) (strV p)).far (b' := w3.heap.size) (o := 3) (by omega) (strV s)).far (b' := w3.heap.size) (o := 4) (by omega) (.bool true))
  have H7 := Lib.hid (show Blk W7 w3.heap.size #[.bool true, strV key, strV p, strV s, .bool true, .bool false] 61 from hW7 ▸ ((H5.out.set 2 (strV p)).set 3 (strV s)).set 4 (.bool true))
  have HW7 := Lib.hid hW7
  clear hW7
  go_wp2_with fail
  rw [HW7.out]
  clear HW7 r0 r1 r2 r3 r4 r5 q0 q1 q2 q3 q4 q5 x0 x1 x2 x3 x4 x5 v0 v1 v2 v3 v4 v5
  refine (LB2.out W7 hB7.out).mono ?_
  rintro e w' ⟨rfl, rfl⟩
  obtain ⟨⟨r0, r1, r2, r3, r4, r5⟩, ⟨q0, q1, q2, q3, q4, q5⟩⟩ := R7.out.at6
  obtain ⟨⟨x0, x1, x2, x3, x4, x5⟩, ⟨v0, v1, v2, v3, v4, v5⟩⟩ := H7.out.at6
  have xq := HC.out W7 hB7.out q (by omega)
  obtain ⟨⟨s0, s1, s2, s3, s4, s5⟩, _⟩ := ((R7.out.far (b' := w3.heap.size) (o := 5) (by omega) (.bool false)).set6 (.bool true) (strV key) (strV p) (strV s) (.bool true) (.bool false)).at6
  unfold set6 at s0 s1 s2 s3 s4 s5
  go_wp2_with fail
  (try simp only [Exit.inBlock, Exit.then])
  refine bodyPost_ret (by simp [results, Tryd.results34, go_sem, s0, s1, s2, s3, s4, s5]; first | rfl | done) rfl (HP.out _ _ rfl ?_)
  exact below_set6 (hB7.out.setCell hle.out _) (Nat.le_refl _) _ _ _ _ _ _
end Go.Proofs.YtdmfladcldkmeaaDoor
namespace Go.Proofs.YtdmfladcldkmeaaDoor
open Go.ChangeShapes Go.WideShapes Go.ChangeAt Go.RowKit
set_option linter.unusedVariables false
set_option maxRecDepth 100000

set_option maxHeartbeats 16000000 in
theorem doc_extP_e (l : List UInt8) (A : Option Addr) (n c j : Nat) (w : World) (hn : l.length = n) (hnc : n ≤ c) (hm : c ≤ 9223372036854775807) (hn9 : n ≤ 1000000) (hj : j ≤ n) (hs : Sees w A (vB l)) (ht : TabN w) (hP : TabP w) (hpre : atB l (j : Int) dtW = true) (h9 : j + 9 ≤ n) (key : List UInt8) (z f : Nat) (hz : 0 < z) (hzn : z ≤ n) (hnm : bbT nmT l (j + 9) = (key, (z : Int), 0)) (hbk : blkN l l.length z = f) (hf : z < f) (hfn : f < n) (hfb : byteAt l f = 80) (e0 : Int) (h0 : e0 ≠ 0) (hx : extT l (f : Int) = noX e0) :
    Calls Tryd.prog 34 #[.slice A n c, .int .i64 (j : Int)] w (DocPost (noH e0) w) := by
  have hbA := ((Below.refl _ w).alloc (Nat.le_refl _) (.cells #[.bool false, .string ⟨#[]⟩, .string ⟨#[]⟩, .string ⟨#[]⟩, .bool false, .bool false] 61)).alloc (by simp) (.cells (vB dtW).toArray 5 (9, 10))
  have R0 := (Blk.new w #[.bool false, .string ⟨#[]⟩, .string ⟨#[]⟩, .string ⟨#[]⟩, .bool false, .bool false] 61 _ rfl).alloc (.cells (vB dtW).toArray 5 (9, 10))
  have i0 : (0 : Int) ≤ (j : Int) := by omega
  have i1 : (j : Int) ≤ (n : Int) := by omega
  have HSL := fun (W : World) => slice_from W A n c j hj
  obtain ⟨A2, hA2⟩ : ∃ A2, tailA A c j = A2 := ⟨_, rfl⟩
  rw [hA2] at HSL
  have kc2 := const_at2
  have KPre := pre_const (l.drop j) dtW A2 (n - j) (c - j) 9 (w.alloc (.cells #[.bool false, .string ⟨#[]⟩, .string ⟨#[]⟩, .string ⟨#[]⟩, .bool false, .bool false] 61)) (w.heap.size + 1) (9, 10) (by rw [List.length_drop, hn]) (by omega) (by omega) rfl (by omega) (by omega) (by simp) (hA2 ▸ sees_tail (hs.below ((Below.refl _ w).alloc (Nat.le_refl _) _)) (by omega) j)
  rw [show ((l.drop j).take 9 == dtW) = atB l (j : Int) dtW from (atB_take l dtW j).symm, hpre] at KPre
  rw [show (vB dtW).toArray = #[.int .u8 60, .int .u8 33, .int .u8 68, .int .u8 79, .int .u8 67, .int .u8 84, .int .u8 89, .int .u8 80, .int .u8 69] from rfl] at hbA R0 KPre
  obtain ⟨W2, hW2⟩ : ∃ W2, (w.alloc (.cells #[.bool false, .string ⟨#[]⟩, .string ⟨#[]⟩, .string ⟨#[]⟩, .bool false, .bool false] 61)).alloc (.cells #[.int .u8 60, .int .u8 33, .int .u8 68, .int .u8 79, .int .u8 67, .int .u8 84, .int .u8 89, .int .u8 80, .int .u8 69] 5 (9, 10)) = W2 := ⟨_, rfl⟩
  have HW2 := Lib.hid hW2
  rw [hW2] at hbA R0 KPre
  have hB2 := Lib.hid hbA
  have R2 := Lib.hid R0
  have LPre := Lib.hid KPre
  have HP := Lib.hid (show ∀ v W', v = hdV (noH e0) → Below w.heap.size w W' → DocPost (noH e0) w (.returned v) W' from fun v W' hv hb => ⟨by rw [hv], hb⟩)
  obtain ⟨ad, rfl, _⟩ := hs.byte (k := 0) (by omega)
  have HC := Lib.hid (fun (w' : World) (hb : Below w.heap.size w w') (i : Nat) (hi : i < n) => byte_at (hs.below hb) (k := i) (by omega))
  have LN := Lib.hid (fun (w' : World) (hb : Below w.heap.size w w') => name_bbT l (some ad) n c (j + 9) ((j : Int) + 9) w' (by omega) hnm hn hnc hm hn9 h9 (hs.below hb) (ht.below hb))
  have KB := fun (w' : World) (hb : Below w.heap.size w w') (i q : Nat) (hi : i ≤ n) (hq : blkN l l.length i = q) => (show Calls Tryd.prog 65 #[.slice (some ad) n c, .int .i64 (i : Int)] w' fun e w'' => e = .returned (.int .i64 (q : Int)) ∧ w' = w'' from by
    have h := blanks_any l (some ad) n c (i : Int) w' hn hnc (by omega) ⟨by omega, by omega⟩ (hs.below hb); rw [blkV_in (by omega), hq] at h; exact h)
  have LB := Lib.hid (fun (w' : World) (hb : Below w.heap.size w w') => KB w' hb z f hzn hbk)
  have tg : (z : Int) < (f : Int) := by omega
  have tf : (f : Int) < (n : Int) := by omega
  have tf0 : (0 : Int) ≤ (f : Int) := by omega
  have ts : ((byteAt l f : Int) == 83) = false := by rw [beq_eq_false_iff_ne]; omega
  have tp : ((byteAt l f : Int) == 80) = true := by rw [beq_iff_eq]; omega
  have t0 : (e0 != 0) = true := by simpa using h0
  have LX := Lib.hid (fun (w' : World) (hb : Below w.heap.size w w') => ext_anyT l (some ad) n c (f : Int) w' hx hn hnc hm hn9 ⟨by omega, by omega⟩ (hs.below hb) (hP.below hb))
  clear hs ht hP hn hbA R0 hA2 hW2 KPre hpre KB hnm hbk hfb hx h0
  go_enter Tryd.func34, Tryd.ntmps34
  go_wp2_with fail
  rw [HW2.out]
  clear HW2
  refine LPre.out.mono ?_
  rintro e w' ⟨rfl, rfl⟩
  go_wp2_with fail
  refine (LN.out W2 hB2.out).mono ?_
  rintro e w3 ⟨rfl, hb3⟩
  have hB3 := Lib.hid (hB2.out.trans (hb3.mono hB2.out.size))
  have R3 := Lib.hid (R2.out.below hb3)
  clear hb3
  have hlt := R3.out.lt
  have hB4 := hB3.out.alloc hB3.out.size (.cells #[.bool true, strV key, .string ⟨#[]⟩, .string ⟨#[]⟩, .bool false, .bool false] 61)
  have R4 := R3.out.alloc (.cells #[.bool true, strV key, .string ⟨#[]⟩, .string ⟨#[]⟩, .bool false, .bool false] 61)
  have H4 := Blk.new w3 #[.bool true, strV key, .string ⟨#[]⟩, .string ⟨#[]⟩, .bool false, .bool false] 61 _ rfl
  obtain ⟨W4, hW4⟩ : ∃ W4, w3.alloc (.cells #[.bool true, strV key, .string ⟨#[]⟩, .string ⟨#[]⟩, .bool false, .bool false] 61) = W4 := ⟨_, rfl⟩
  rw [hW4] at hB4 R4 H4
  have HW4 := Lib.hid hW4
  have hB4 := Lib.hid hB4
  have R4 := Lib.hid R4
  have H4 := Lib.hid H4
  have hle := Lib.hid (show w.heap.size ≤ w3.heap.size by omega)
  clear hW4
  go_wp2_with fail
  rw [HW4.out]
  clear HW4
  refine (LB.out W4 hB4.out).mono ?_
  rintro e w' ⟨rfl, rfl⟩
  have xf := HC.out W4 hB4.out f (by omega)
  go_wp2_with fail
  refine (LX.out W4 hB4.out).mono ?_
  rintro e w5 ⟨rfl, hb5⟩
  have hB5 := Lib.hid (hB4.out.trans (hb5.mono hB4.out.size))
  have R5 := Lib.hid (R4.out.below hb5)
  have H5 := Lib.hid (H4.out.below hb5)
  clear hb5 xf
  obtain ⟨⟨r0, r1, r2, r3, r4, r5⟩, ⟨q0, q1, q2, q3, q4, q5⟩⟩ := R5.out.at6
  obtain ⟨⟨x0, x1, x2, x3, x4, x5⟩, ⟨v0, v1, v2, v3, v4, v5⟩⟩ := H5.out.at6
  obtain ⟨⟨s0, s1, s2, s3, s4, s5⟩, _⟩ := (((R5.out.far (b' := w3.heap.size) (o := 2) (by omega) (strV [])).far (b' := w3.heap.size) (o := 3) (by omega) (strV [])).set6 (.bool false) (.string ⟨#[]⟩) (.string ⟨#[]⟩) (.string ⟨#[]⟩) (.bool false) (.bool false)).at6
  unfold set6 at s0 s1 s2 s3 s4 s5
  go_wp2_with fail
  (try simp only [Exit.inBlock, Exit.then])
  refine bodyPost_ret (by simp [results, Tryd.results34, go_sem, s0, s1, s2, s3, s4, s5]; first | rfl | done) rfl (HP.out _ _ rfl ?_)
  exact below_set6 ((hB5.out.setCell hle.out _).setCell hle.out _) (Nat.le_refl _) _ _ _ _ _ _

set_option maxHeartbeats 16000000 in
theorem doc_extP_len (l : List UInt8) (A : Option Addr) (n c j : Nat) (w : World) (hn : l.length = n) (hnc : n ≤ c) (hm : c ≤ 9223372036854775807) (hn9 : n ≤ 1000000) (hj : j ≤ n) (hs : Sees w A (vB l)) (ht : TabN w) (hP : TabP w) (hpre : atB l (j : Int) dtW = true) (h9 : j + 9 ≤ n) (key : List UInt8) (z f : Nat) (hz : 0 < z) (hzn : z ≤ n) (hnm : bbT nmT l (j + 9) = (key, (z : Int), 0)) (hbk : blkN l l.length z = f) (hf : z < f) (hfn : f < n) (hfb : byteAt l f = 80) (p s : List UInt8) (y q : Nat) (hyn : y ≤ n) (hx : extT l (f : Int) = (p, s, (y : Int), 0)) (hbq : blkN l l.length y = q) (hqn : q = n) :
    Calls Tryd.prog 34 #[.slice A n c, .int .i64 (j : Int)] w (DocPost (noH 7) w) := by
  have hbA := ((Below.refl _ w).alloc (Nat.le_refl _) (.cells #[.bool false, .string ⟨#[]⟩, .string ⟨#[]⟩, .string ⟨#[]⟩, .bool false, .bool false] 61)).alloc (by simp) (.cells (vB dtW).toArray 5 (9, 10))
  have R0 := (Blk.new w #[.bool false, .string ⟨#[]⟩, .string ⟨#[]⟩, .string ⟨#[]⟩, .bool false, .bool false] 61 _ rfl).alloc (.cells (vB dtW).toArray 5 (9, 10))
  have i0 : (0 : Int) ≤ (j : Int) := by omega
  have i1 : (j : Int) ≤ (n : Int) := by omega
  have HSL := fun (W : World) => slice_from W A n c j hj
  obtain ⟨A2, hA2⟩ : ∃ A2, tailA A c j = A2 := ⟨_, rfl⟩
  rw [hA2] at HSL
  have kc2 := const_at2
  have KPre := pre_const (l.drop j) dtW A2 (n - j) (c - j) 9 (w.alloc (.cells #[.bool false, .string ⟨#[]⟩, .string ⟨#[]⟩, .string ⟨#[]⟩, .bool false, .bool false] 61)) (w.heap.size + 1) (9, 10) (by rw [List.length_drop, hn]) (by omega) (by omega) rfl (by omega) (by omega) (by simp) (hA2 ▸ sees_tail (hs.below ((Below.refl _ w).alloc (Nat.le_refl _) _)) (by omega) j)
  rw [show ((l.drop j).take 9 == dtW) = atB l (j : Int) dtW from (atB_take l dtW j).symm, hpre] at KPre
  rw [show (vB dtW).toArray = #[.int .u8 60, .int .u8 33, .int .u8 68, .int .u8 79, .int .u8 67, .int .u8 84, .int .u8 89, .int .u8 80, .int .u8 69] from rfl] at hbA R0 KPre
  obtain ⟨W2, hW2⟩ : ∃ W2, (w.alloc (.cells #[.bool false, .string ⟨#[]⟩, .string ⟨#[]⟩, .string ⟨#[]⟩, .bool false, .bool false] 61)).alloc (.cells #[.int .u8 60, .int .u8 33, .int .u8 68, .int .u8 79, .int .u8 67, .int .u8 84, .int .u8 89, .int .u8 80, .int .u8 69] 5 (9, 10)) = W2 := ⟨_, rfl⟩
  have HW2 := Lib.hid hW2
  rw [hW2] at hbA R0 KPre
  have hB2 := Lib.hid hbA
  have R2 := Lib.hid R0
  have LPre := Lib.hid KPre
  have HP := Lib.hid (show ∀ v W', v = hdV (noH 7) → Below w.heap.size w W' → DocPost (noH 7) w (.returned v) W' from fun v W' hv hb => ⟨by rw [hv], hb⟩)
  obtain ⟨ad, rfl, _⟩ := hs.byte (k := 0) (by omega)
  have HC := Lib.hid (fun (w' : World) (hb : Below w.heap.size w w') (i : Nat) (hi : i < n) => byte_at (hs.below hb) (k := i) (by omega))
  have LN := Lib.hid (fun (w' : World) (hb : Below w.heap.size w w') => name_bbT l (some ad) n c (j + 9) ((j : Int) + 9) w' (by omega) hnm hn hnc hm hn9 h9 (hs.below hb) (ht.below hb))
  have KB := fun (w' : World) (hb : Below w.heap.size w w') (i q : Nat) (hi : i ≤ n) (hq : blkN l l.length i = q) => (show Calls Tryd.prog 65 #[.slice (some ad) n c, .int .i64 (i : Int)] w' fun e w'' => e = .returned (.int .i64 (q : Int)) ∧ w' = w'' from by
    have h := blanks_any l (some ad) n c (i : Int) w' hn hnc (by omega) ⟨by omega, by omega⟩ (hs.below hb); rw [blkV_in (by omega), hq] at h; exact h)
  have LB := Lib.hid (fun (w' : World) (hb : Below w.heap.size w w') => KB w' hb z f hzn hbk)
  have tg : (z : Int) < (f : Int) := by omega
  have tf : (f : Int) < (n : Int) := by omega
  have tf0 : (0 : Int) ≤ (f : Int) := by omega
  have ts : ((byteAt l f : Int) == 83) = false := by rw [beq_eq_false_iff_ne]; omega
  have tp : ((byteAt l f : Int) == 80) = true := by rw [beq_iff_eq]; omega
  have LX := Lib.hid (fun (w' : World) (hb : Below w.heap.size w w') => ext_anyT l (some ad) n c (f : Int) w' hx hn hnc hm hn9 ⟨by omega, by omega⟩ (hs.below hb) (hP.below hb))
  have LB2 := Lib.hid (fun (w' : World) (hb : Below w.heap.size w w') => KB w' hb y q hyn hbq)
  have tn : ((q : Int) == (n : Int)) = true := by rw [beq_iff_eq]; omega
  clear hs ht hP hn hbA R0 hA2 hW2 KPre hpre KB hnm hbk hfb hx hbq
  go_enter Tryd.func34, Tryd.ntmps34
  go_wp2_with fail
  rw [HW2.out]
  clear HW2
  refine LPre.out.mono ?_
  rintro e w' ⟨rfl, rfl⟩
  go_wp2_with fail
  refine (LN.out W2 hB2.out).mono ?_
  rintro e w3 ⟨rfl, hb3⟩
  have hB3 := Lib.hid (hB2.out.trans (hb3.mono hB2.out.size))
  have R3 := Lib.hid (R2.out.below hb3)
  clear hb3
  have hlt := R3.out.lt
  have hB4 := hB3.out.alloc hB3.out.size (.cells #[.bool true, strV key, .string ⟨#[]⟩, .string ⟨#[]⟩, .bool false, .bool false] 61)
  have R4 := R3.out.alloc (.cells #[.bool true, strV key, .string ⟨#[]⟩, .string ⟨#[]⟩, .bool false, .bool false] 61)
  have H4 := Blk.new w3 #[.bool true, strV key, .string ⟨#[]⟩, .string ⟨#[]⟩, .bool false, .bool false] 61 _ rfl
  obtain ⟨W4, hW4⟩ : ∃ W4, w3.alloc (.cells #[.bool true, strV key, .string ⟨#[]⟩, .string ⟨#[]⟩, .bool false, .bool false] 61) = W4 := ⟨_, rfl⟩
  rw [hW4] at hB4 R4 H4
  have HW4 := Lib.hid hW4
  have hB4 := Lib.hid hB4
  have R4 := Lib.hid R4
  have H4 := Lib.hid H4
  have hle := Lib.hid (show w.heap.size ≤ w3.heap.size by omega)
  clear hW4
  go_wp2_with fail
  rw [HW4.out]
  clear HW4
  refine (LB.out W4 hB4.out).mono ?_
  rintro e w' ⟨rfl, rfl⟩
  have xf := HC.out W4 hB4.out f (by omega)
  go_wp2_with fail
  refine (LX.out W4 hB4.out).mono ?_
  rintro e w5 ⟨rfl, hb5⟩
  have hB5 := Lib.hid (hB4.out.trans (hb5.mono hB4.out.size))
  have R5 := Lib.hid (R4.out.below hb5)
  have H5 := Lib.hid (H4.out.below hb5)
  clear hb5 xf
  obtain ⟨⟨r0, r1, r2, r3, r4, r5⟩, ⟨q0, q1, q2, q3, q4, q5⟩⟩ := R5.out.at6
  obtain ⟨⟨x0, x1, x2, x3, x4, x5⟩, ⟨v0, v1, v2, v3, v4, v5⟩⟩ := H5.out.at6
  obtain ⟨W7, hW7⟩ : ∃ W7, ((w5.setCell ⟨w3.heap.size, 2, none⟩ (strV p)).setCell ⟨w3.heap.size, 3, none⟩ (strV s)).setCell ⟨w3.heap.size, 4, none⟩ (.bool true) = W7 := ⟨_, rfl⟩
  have hB7 := Lib.hid (show Below w.heap.size w W7 from hW7 ▸ ((hB5.out.setCell hle.out _).setCell hle.out _).setCell hle.out _)
  have R7 := Lib.hid (show Blk W7 w.heap.size #[.bool false, .string ⟨#[]⟩, .string ⟨#[]⟩, .string ⟨#[]⟩, .bool false, .bool false] 61 from hW7 ▸ ((R5.out.far (b' := w3.heap.size) (o := 2) (by omega) (strV p)).far (b' := w3.heap.size) (o := 3) (by omega) (strV s)).far (b' := w3.heap.size) (o := 4) (by omega) (.bool true))
  have H7 := Lib.hid (show Blk W7 w3.heap.size #[.bool true, strV key, strV p, strV s, .bool true, .bool false] 61 from hW7 ▸ ((H5.out.set 2 (strV p)).set 3 (strV s)).set 4 (.bool true))
  have HW7 := Lib.hid hW7
  clear hW7
  go_wp2_with fail
  rw [HW7.out]
  clear HW7 r0 r1 r2 r3 r4 r5 q0 q1 q2 q3 q4 q5 x0 x1 x2 x3 x4 x5 v0 v1 v2 v3 v4 v5
  refine (LB2.out W7 hB7.out).mono ?_
  rintro e w' ⟨rfl, rfl⟩
  obtain ⟨⟨r0, r1, r2, r3, r4, r5⟩, ⟨q0, q1, q2, q3, q4, q5⟩⟩ := R7.out.at6
  obtain ⟨⟨x0, x1, x2, x3, x4, x5⟩, ⟨v0, v1, v2, v3, v4, v5⟩⟩ := H7.out.at6
  obtain ⟨⟨s0, s1, s2, s3, s4, s5⟩, _⟩ := (R7.out.set6 (.bool false) (.string ⟨#[]⟩) (.string ⟨#[]⟩) (.string ⟨#[]⟩) (.bool false) (.bool false)).at6
  unfold set6 at s0 s1 s2 s3 s4 s5
  go_wp2_with fail
  (try simp only [Exit.inBlock, Exit.then])
  refine bodyPost_ret (by simp [results, Tryd.results34, go_sem, s0, s1, s2, s3, s4, s5]; first | rfl | done) rfl (HP.out _ _ rfl ?_)
  exact below_set6 (hB7.out) (Nat.le_refl _) _ _ _ _ _ _

set_option maxHeartbeats 16000000 in
theorem doc_extP_oth (l : List UInt8) (A : Option Addr) (n c j : Nat) (w : World) (hn : l.length = n) (hnc : n ≤ c) (hm : c ≤ 9223372036854775807) (hn9 : n ≤ 1000000) (hj : j ≤ n) (hs : Sees w A (vB l)) (ht : TabN w) (hP : TabP w) (hpre : atB l (j : Int) dtW = true) (h9 : j + 9 ≤ n) (key : List UInt8) (z f : Nat) (hz : 0 < z) (hzn : z ≤ n) (hnm : bbT nmT l (j + 9) = (key, (z : Int), 0)) (hbk : blkN l l.length z = f) (hf : z < f) (hfn : f < n) (hfb : byteAt l f = 80) (p s : List UInt8) (y q : Nat) (hyn : y ≤ n) (hx : extT l (f : Int) = (p, s, (y : Int), 0)) (hbq : blkN l l.length y = q) (hqn : q < n) (hb1 : byteAt l q ≠ 91) (hb2 : byteAt l q ≠ 62) :
    Calls Tryd.prog 34 #[.slice A n c, .int .i64 (j : Int)] w (DocPost (noH 7) w) := by
  have hbA := ((Below.refl _ w).alloc (Nat.le_refl _) (.cells #[.bool false, .string ⟨#[]⟩, .string ⟨#[]⟩, .string ⟨#[]⟩, .bool false, .bool false] 61)).alloc (by simp) (.cells (vB dtW).toArray 5 (9, 10))
  have R0 := (Blk.new w #[.bool false, .string ⟨#[]⟩, .string ⟨#[]⟩, .string ⟨#[]⟩, .bool false, .bool false] 61 _ rfl).alloc (.cells (vB dtW).toArray 5 (9, 10))
  have i0 : (0 : Int) ≤ (j : Int) := by omega
  have i1 : (j : Int) ≤ (n : Int) := by omega
  have HSL := fun (W : World) => slice_from W A n c j hj
  obtain ⟨A2, hA2⟩ : ∃ A2, tailA A c j = A2 := ⟨_, rfl⟩
  rw [hA2] at HSL
  have kc2 := const_at2
  have KPre := pre_const (l.drop j) dtW A2 (n - j) (c - j) 9 (w.alloc (.cells #[.bool false, .string ⟨#[]⟩, .string ⟨#[]⟩, .string ⟨#[]⟩, .bool false, .bool false] 61)) (w.heap.size + 1) (9, 10) (by rw [List.length_drop, hn]) (by omega) (by omega) rfl (by omega) (by omega) (by simp) (hA2 ▸ sees_tail (hs.below ((Below.refl _ w).alloc (Nat.le_refl _) _)) (by omega) j)
  rw [show ((l.drop j).take 9 == dtW) = atB l (j : Int) dtW from (atB_take l dtW j).symm, hpre] at KPre
  rw [show (vB dtW).toArray = #[.int .u8 60, .int .u8 33, .int .u8 68, .int .u8 79, .int .u8 67, .int .u8 84, .int .u8 89, .int .u8 80, .int .u8 69] from rfl] at hbA R0 KPre
  obtain ⟨W2, hW2⟩ : ∃ W2, (w.alloc (.cells #[.bool false, .string ⟨#[]⟩, .string ⟨#[]⟩, .string ⟨#[]⟩, .bool false, .bool false] 61)).alloc (.cells #[.int .u8 60, .int .u8 33, .int .u8 68, .int .u8 79, .int .u8 67, .int .u8 84, .int .u8 89, .int .u8 80, .int .u8 69] 5 (9, 10)) = W2 := ⟨_, rfl⟩
  have HW2 := Lib.hid hW2
  rw [hW2] at hbA R0 KPre
  have hB2 := Lib.hid hbA
  have R2 := Lib.hid R0
  have LPre := Lib.hid KPre
  have HP := Lib.hid (show ∀ v W', v = hdV (noH 7) → Below w.heap.size w W' → DocPost (noH 7) w (.returned v) W' from fun v W' hv hb => ⟨by rw [hv], hb⟩)
  obtain ⟨ad, rfl, _⟩ := hs.byte (k := 0) (by omega)
  have HC := Lib.hid (fun (w' : World) (hb : Below w.heap.size w w') (i : Nat) (hi : i < n) => byte_at (hs.below hb) (k := i) (by omega))
  have LN := Lib.hid (fun (w' : World) (hb : Below w.heap.size w w') => name_bbT l (some ad) n c (j + 9) ((j : Int) + 9) w' (by omega) hnm hn hnc hm hn9 h9 (hs.below hb) (ht.below hb))
  have KB := fun (w' : World) (hb : Below w.heap.size w w') (i q : Nat) (hi : i ≤ n) (hq : blkN l l.length i = q) => (show Calls Tryd.prog 65 #[.slice (some ad) n c, .int .i64 (i : Int)] w' fun e w'' => e = .returned (.int .i64 (q : Int)) ∧ w' = w'' from by
    have h := blanks_any l (some ad) n c (i : Int) w' hn hnc (by omega) ⟨by omega, by omega⟩ (hs.below hb); rw [blkV_in (by omega), hq] at h; exact h)
  have LB := Lib.hid (fun (w' : World) (hb : Below w.heap.size w w') => KB w' hb z f hzn hbk)
  have tg : (z : Int) < (f : Int) := by omega
  have tf : (f : Int) < (n : Int) := by omega
  have tf0 : (0 : Int) ≤ (f : Int) := by omega
  have ts : ((byteAt l f : Int) == 83) = false := by rw [beq_eq_false_iff_ne]; omega
  have tp : ((byteAt l f : Int) == 80) = true := by rw [beq_iff_eq]; omega
  have LX := Lib.hid (fun (w' : World) (hb : Below w.heap.size w w') => ext_anyT l (some ad) n c (f : Int) w' hx hn hnc hm hn9 ⟨by omega, by omega⟩ (hs.below hb) (hP.below hb))
  have LB2 := Lib.hid (fun (w' : World) (hb : Below w.heap.size w w') => KB w' hb y q hyn hbq)
  have tn : ((q : Int) == (n : Int)) = false := by rw [beq_eq_false_iff_ne]; omega
  have tl : (q : Int) < (n : Int) := by omega
  have tl0 : (0 : Int) ≤ (q : Int) := by omega
  have tb1 : ((byteAt l q : Int) != 91) = true := by simp; omega
  have tb2 : ((byteAt l q : Int) != 62) = true := by simp; omega
  clear hs ht hP hn hbA R0 hA2 hW2 KPre hpre KB hnm hbk hfb hx hbq
  go_enter Tryd.func34, Tryd.ntmps34
  go_wp2_with fail
  rw [HW2.out]
  clear HW2
  refine LPre.out.mono ?_
  rintro e w' ⟨rfl, rfl⟩
  go_wp2_with fail
  refine (LN.out W2 hB2.out).mono ?_
  rintro e w3 ⟨rfl, hb3⟩
  have hB3 := Lib.hid (hB2.out.trans (hb3.mono hB2.out.size))
  have R3 := Lib.hid (R2.out.below hb3)
  clear hb3
  have hlt := R3.out.lt
  have hB4 := hB3.out.alloc hB3.out.size (.cells #[.bool true, strV key, .string ⟨#[]⟩, .string ⟨#[]⟩, .bool false, .bool false] 61)
  have R4 := R3.out.alloc (.cells #[.bool true, strV key, .string ⟨#[]⟩, .string ⟨#[]⟩, .bool false, .bool false] 61)
  have H4 := Blk.new w3 #[.bool true, strV key, .string ⟨#[]⟩, .string ⟨#[]⟩, .bool false, .bool false] 61 _ rfl
  obtain ⟨W4, hW4⟩ : ∃ W4, w3.alloc (.cells #[.bool true, strV key, .string ⟨#[]⟩, .string ⟨#[]⟩, .bool false, .bool false] 61) = W4 := ⟨_, rfl⟩
  rw [hW4] at hB4 R4 H4
  have HW4 := Lib.hid hW4
  have hB4 := Lib.hid hB4
  have R4 := Lib.hid R4
  have H4 := Lib.hid H4
  have hle := Lib.hid (show w.heap.size ≤ w3.heap.size by omega)
  clear hW4
  go_wp2_with fail
  rw [HW4.out]
  clear HW4
  refine (LB.out W4 hB4.out).mono ?_
  rintro e w' ⟨rfl, rfl⟩
  have xf := HC.out W4 hB4.out f (by omega)
  go_wp2_with fail
  refine (LX.out W4 hB4.out).mono ?_
  rintro e w5 ⟨rfl, hb5⟩
  have hB5 := Lib.hid (hB4.out.trans (hb5.mono hB4.out.size))
  have R5 := Lib.hid (R4.out.below hb5)
  have H5 := Lib.hid (H4.out.below hb5)
  clear hb5 xf
  obtain ⟨⟨r0, r1, r2, r3, r4, r5⟩, ⟨q0, q1, q2, q3, q4, q5⟩⟩ := R5.out.at6
  obtain ⟨⟨x0, x1, x2, x3, x4, x5⟩, ⟨v0, v1, v2, v3, v4, v5⟩⟩ := H5.out.at6
  obtain ⟨W7, hW7⟩ : ∃ W7, ((w5.setCell ⟨w3.heap.size, 2, none⟩ (strV p)).setCell ⟨w3.heap.size, 3, none⟩ (strV s)).setCell ⟨w3.heap.size, 4, none⟩ (.bool true) = W7 := ⟨_, rfl⟩
  have hB7 := Lib.hid (show Below w.heap.size w W7 from hW7 ▸ ((hB5.out.setCell hle.out _).setCell hle.out _).setCell hle.out _)
  have R7 := Lib.hid (show Blk W7 w.heap.size #[.bool false, .string ⟨#[]⟩, .string ⟨#[]⟩, .string ⟨#[]⟩, .bool false, .bool false] 61 from hW7 ▸ ((R5.out.far (b' := w3.heap.size) (o := 2) (by omega) (strV p)).far (b' := w3.heap.size) (o := 3) (by omega) (strV s)).far (b' := w3.heap.size) (o := 4) (by omega) (.bool true))
  have H7 := Lib.hid (show Blk W7 w3.heap.size #[.bool true, strV key, strV p, strV s, .bool true, .bool false] 61 from hW7 ▸ ((H5.out.set 2 (strV p)).set 3 (strV s)).set 4 (.bool true))
  have HW7 := Lib.hid hW7
  clear hW7
  go_wp2_with fail
  rw [HW7.out]
  clear HW7 r0 r1 r2 r3 r4 r5 q0 q1 q2 q3 q4 q5 x0 x1 x2 x3 x4 x5 v0 v1 v2 v3 v4 v5
  refine (LB2.out W7 hB7.out).mono ?_
  rintro e w' ⟨rfl, rfl⟩
  obtain ⟨⟨r0, r1, r2, r3, r4, r5⟩, ⟨q0, q1, q2, q3, q4, q5⟩⟩ := R7.out.at6
  obtain ⟨⟨x0, x1, x2, x3, x4, x5⟩, ⟨v0, v1, v2, v3, v4, v5⟩⟩ := H7.out.at6
  have xq := HC.out W7 hB7.out q (by omega)
  obtain ⟨⟨s0, s1, s2, s3, s4, s5⟩, _⟩ := (R7.out.set6 (.bool false) (.string ⟨#[]⟩) (.string ⟨#[]⟩) (.string ⟨#[]⟩) (.bool false) (.bool false)).at6
  unfold set6 at s0 s1 s2 s3 s4 s5
  go_wp2_with fail
  (try simp only [Exit.inBlock, Exit.then])
  refine bodyPost_ret (by simp [results, Tryd.results34, go_sem, s0, s1, s2, s3, s4, s5]; first | rfl | done) rfl (HP.out _ _ rfl ?_)
  exact below_set6 (hB7.out) (Nat.le_refl _) _ _ _ _ _ _

set_option maxHeartbeats 16000000 in
theorem doc_extP_opn (l : List UInt8) (A : Option Addr) (n c j : Nat) (w : World) (hn : l.length = n) (hnc : n ≤ c) (hm : c ≤ 9223372036854775807) (hn9 : n ≤ 1000000) (hj : j ≤ n) (hs : Sees w A (vB l)) (ht : TabN w) (hP : TabP w) (hpre : atB l (j : Int) dtW = true) (h9 : j + 9 ≤ n) (key : List UInt8) (z f : Nat) (hz : 0 < z) (hzn : z ≤ n) (hnm : bbT nmT l (j + 9) = (key, (z : Int), 0)) (hbk : blkN l l.length z = f) (hf : z < f) (hfn : f < n) (hfb : byteAt l f = 80) (p s : List UInt8) (y q : Nat) (hyn : y ≤ n) (hx : extT l (f : Int) = (p, s, (y : Int), 0)) (hbq : blkN l l.length y = q) (hqn : q < n) (hb1 : byteAt l q = 91) :
    Calls Tryd.prog 34 #[.slice A n c, .int .i64 (j : Int)] w (DocPost (⟨true, key, p, s, true, true, (q : Int) + 1, 0⟩) w) := by
  have hbA := ((Below.refl _ w).alloc (Nat.le_refl _) (.cells #[.bool false, .string ⟨#[]⟩, .string ⟨#[]⟩, .string ⟨#[]⟩, .bool false, .bool false] 61)).alloc (by simp) (.cells (vB dtW).toArray 5 (9, 10))
  have R0 := (Blk.new w #[.bool false, .string ⟨#[]⟩, .string ⟨#[]⟩, .string ⟨#[]⟩, .bool false, .bool false] 61 _ rfl).alloc (.cells (vB dtW).toArray 5 (9, 10))
  have i0 : (0 : Int) ≤ (j : Int) := by omega
  have i1 : (j : Int) ≤ (n : Int) := by omega
  have HSL := fun (W : World) => slice_from W A n c j hj
  obtain ⟨A2, hA2⟩ : ∃ A2, tailA A c j = A2 := ⟨_, rfl⟩
  rw [hA2] at HSL
  have kc2 := const_at2
  have KPre := pre_const (l.drop j) dtW A2 (n - j) (c - j) 9 (w.alloc (.cells #[.bool false, .string ⟨#[]⟩, .string ⟨#[]⟩, .string ⟨#[]⟩, .bool false, .bool false] 61)) (w.heap.size + 1) (9, 10) (by rw [List.length_drop, hn]) (by omega) (by omega) rfl (by omega) (by omega) (by simp) (hA2 ▸ sees_tail (hs.below ((Below.refl _ w).alloc (Nat.le_refl _) _)) (by omega) j)
  rw [show ((l.drop j).take 9 == dtW) = atB l (j : Int) dtW from (atB_take l dtW j).symm, hpre] at KPre
  rw [show (vB dtW).toArray = #[.int .u8 60, .int .u8 33, .int .u8 68, .int .u8 79, .int .u8 67, .int .u8 84, .int .u8 89, .int .u8 80, .int .u8 69] from rfl] at hbA R0 KPre
  obtain ⟨W2, hW2⟩ : ∃ W2, (w.alloc (.cells #[.bool false, .string ⟨#[]⟩, .string ⟨#[]⟩, .string ⟨#[]⟩, .bool false, .bool false] 61)).alloc (.cells #[.int .u8 60, .int .u8 33, .int .u8 68, .int .u8 79, .int .u8 67, .int .u8 84, .int .u8 89, .int .u8 80, .int .u8 69] 5 (9, 10)) = W2 := ⟨_, rfl⟩
  have HW2 := Lib.hid hW2
  rw [hW2] at hbA R0 KPre
  have hB2 := Lib.hid hbA
  have R2 := Lib.hid R0
  have LPre := Lib.hid KPre
  have HP := Lib.hid (show ∀ v W', v = hdV (⟨true, key, p, s, true, true, (q : Int) + 1, 0⟩) → Below w.heap.size w W' → DocPost (⟨true, key, p, s, true, true, (q : Int) + 1, 0⟩) w (.returned v) W' from fun v W' hv hb => ⟨by rw [hv], hb⟩)
  obtain ⟨ad, rfl, _⟩ := hs.byte (k := 0) (by omega)
  have HC := Lib.hid (fun (w' : World) (hb : Below w.heap.size w w') (i : Nat) (hi : i < n) => byte_at (hs.below hb) (k := i) (by omega))
  have LN := Lib.hid (fun (w' : World) (hb : Below w.heap.size w w') => name_bbT l (some ad) n c (j + 9) ((j : Int) + 9) w' (by omega) hnm hn hnc hm hn9 h9 (hs.below hb) (ht.below hb))
  have KB := fun (w' : World) (hb : Below w.heap.size w w') (i q : Nat) (hi : i ≤ n) (hq : blkN l l.length i = q) => (show Calls Tryd.prog 65 #[.slice (some ad) n c, .int .i64 (i : Int)] w' fun e w'' => e = .returned (.int .i64 (q : Int)) ∧ w' = w'' from by
    have h := blanks_any l (some ad) n c (i : Int) w' hn hnc (by omega) ⟨by omega, by omega⟩ (hs.below hb); rw [blkV_in (by omega), hq] at h; exact h)
  have LB := Lib.hid (fun (w' : World) (hb : Below w.heap.size w w') => KB w' hb z f hzn hbk)
  have tg : (z : Int) < (f : Int) := by omega
  have tf : (f : Int) < (n : Int) := by omega
  have tf0 : (0 : Int) ≤ (f : Int) := by omega
  have ts : ((byteAt l f : Int) == 83) = false := by rw [beq_eq_false_iff_ne]; omega
  have tp : ((byteAt l f : Int) == 80) = true := by rw [beq_iff_eq]; omega
  have LX := Lib.hid (fun (w' : World) (hb : Below w.heap.size w w') => ext_anyT l (some ad) n c (f : Int) w' hx hn hnc hm hn9 ⟨by omega, by omega⟩ (hs.below hb) (hP.below hb))
  have LB2 := Lib.hid (fun (w' : World) (hb : Below w.heap.size w w') => KB w' hb y q hyn hbq)
  have tn : ((q : Int) == (n : Int)) = false := by rw [beq_eq_false_iff_ne]; omega
  have tl : (q : Int) < (n : Int) := by omega
  have tl0 : (0 : Int) ≤ (q : Int) := by omega
  have tb1 : ((byteAt l q : Int) != 91) = false := by simp; omega
  have tb3 : ((byteAt l q : Int) == 91) = true := by simp; omega
  clear hs ht hP hn hbA R0 hA2 hW2 KPre hpre KB hnm hbk hfb hx hbq
  go_enter Tryd.func34, Tryd.ntmps34
  go_wp2_with fail
  rw [HW2.out]
  clear HW2
  refine LPre.out.mono ?_
  rintro e w' ⟨rfl, rfl⟩
  go_wp2_with fail
  refine (LN.out W2 hB2.out).mono ?_
  rintro e w3 ⟨rfl, hb3⟩
  have hB3 := Lib.hid (hB2.out.trans (hb3.mono hB2.out.size))
  have R3 := Lib.hid (R2.out.below hb3)
  clear hb3
  have hlt := R3.out.lt
  have hB4 := hB3.out.alloc hB3.out.size (.cells #[.bool true, strV key, .string ⟨#[]⟩, .string ⟨#[]⟩, .bool false, .bool false] 61)
  have R4 := R3.out.alloc (.cells #[.bool true, strV key, .string ⟨#[]⟩, .string ⟨#[]⟩, .bool false, .bool false] 61)
  have H4 := Blk.new w3 #[.bool true, strV key, .string ⟨#[]⟩, .string ⟨#[]⟩, .bool false, .bool false] 61 _ rfl
  obtain ⟨W4, hW4⟩ : ∃ W4, w3.alloc (.cells #[.bool true, strV key, .string ⟨#[]⟩, .string ⟨#[]⟩, .bool false, .bool false] 61) = W4 := ⟨_, rfl⟩
  rw [hW4] at hB4 R4 H4
  have HW4 := Lib.hid hW4
  have hB4 := Lib.hid hB4
  have R4 := Lib.hid R4
  have H4 := Lib.hid H4
  have hle := Lib.hid (show w.heap.size ≤ w3.heap.size by omega)
  clear hW4
  go_wp2_with fail
  rw [HW4.out]
  clear HW4
  refine (LB.out W4 hB4.out).mono ?_
  rintro e w' ⟨rfl, rfl⟩
  have xf := HC.out W4 hB4.out f (by omega)
  go_wp2_with fail
  refine (LX.out W4 hB4.out).mono ?_
  rintro e w5 ⟨rfl, hb5⟩
  have hB5 := Lib.hid (hB4.out.trans (hb5.mono hB4.out.size))
  have R5 := Lib.hid (R4.out.below hb5)
  have H5 := Lib.hid (H4.out.below hb5)
  clear hb5 xf
  obtain ⟨⟨r0, r1, r2, r3, r4, r5⟩, ⟨q0, q1, q2, q3, q4, q5⟩⟩ := R5.out.at6
  obtain ⟨⟨x0, x1, x2, x3, x4, x5⟩, ⟨v0, v1, v2, v3, v4, v5⟩⟩ := H5.out.at6
  obtain ⟨W7, hW7⟩ : ∃ W7, ((w5.setCell ⟨w3.heap.size, 2, none⟩ (strV p)).setCell ⟨w3.heap.size, 3, none⟩ (strV s)).setCell ⟨w3.heap.size, 4, none⟩ (.bool true) = W7 := ⟨_, rfl⟩
  have hB7 := Lib.hid (show Below w.heap.size w W7 from hW7 ▸ ((hB5.out.setCell hle.out _).setCell hle.out _).setCell hle.out _)
  have R7 := Lib.hid (show Blk W7 w.heap.size #[.bool false, .string ⟨#[]⟩, .string ⟨#[]⟩, .string ⟨#[]⟩, .bool false, .bool false] 61 from hW7 ▸ ((R5.out.far (b' := w3.heap.size) (o := 2) (by omega) (strV p)).far (b' := w3.heap.size) (o := 3) (by omega) (strV s)).far (b' := w3.heap.size) (o := 4) (by omega) (.bool true))
  have H7 := Lib.hid (show Blk W7 w3.heap.size #[.bool true, strV key, strV p, strV s, .bool true, .bool false] 61 from hW7 ▸ ((H5.out.set 2 (strV p)).set 3 (strV s)).set 4 (.bool true))
  have HW7 := Lib.hid hW7
  clear hW7
  go_wp2_with fail
  rw [HW7.out]
  clear HW7 r0 r1 r2 r3 r4 r5 q0 q1 q2 q3 q4 q5 x0 x1 x2 x3 x4 x5 v0 v1 v2 v3 v4 v5
  refine (LB2.out W7 hB7.out).mono ?_
  rintro e w' ⟨rfl, rfl⟩
  obtain ⟨⟨r0, r1, r2, r3, r4, r5⟩, ⟨q0, q1, q2, q3, q4, q5⟩⟩ := R7.out.at6
  obtain ⟨⟨x0, x1, x2, x3, x4, x5⟩, ⟨v0, v1, v2, v3, v4, v5⟩⟩ := H7.out.at6
  have xq := HC.out W7 hB7.out q (by omega)
  obtain ⟨⟨s0, s1, s2, s3, s4, s5⟩, _⟩ := ((R7.out.far (b' := w3.heap.size) (o := 5) (by omega) (.bool true)).set6 (.bool true) (strV key) (strV p) (strV s) (.bool true) (.bool true)).at6
  unfold set6 at s0 s1 s2 s3 s4 s5
  go_wp2_with fail
  (try simp only [Exit.inBlock, Exit.then])
  refine bodyPost_ret (by simp [results, Tryd.results34, go_sem, s0, s1, s2, s3, s4, s5]; first | rfl | done) rfl (HP.out _ _ rfl ?_)
  exact below_set6 (hB7.out.setCell hle.out _) (Nat.le_refl _) _ _ _ _ _ _

set_option maxHeartbeats 16000000 in
theorem doc_extP_cls (l : List UInt8) (A : Option Addr) (n c j : Nat) (w : World) (hn : l.length = n) (hnc : n ≤ c) (hm : c ≤ 9223372036854775807) (hn9 : n ≤ 1000000) (hj : j ≤ n) (hs : Sees w A (vB l)) (ht : TabN w) (hP : TabP w) (hpre : atB l (j : Int) dtW = true) (h9 : j + 9 ≤ n) (key : List UInt8) (z f : Nat) (hz : 0 < z) (hzn : z ≤ n) (hnm : bbT nmT l (j + 9) = (key, (z : Int), 0)) (hbk : blkN l l.length z = f) (hf : z < f) (hfn : f < n) (hfb : byteAt l f = 80) (p s : List UInt8) (y q : Nat) (hyn : y ≤ n) (hx : extT l (f : Int) = (p, s, (y : Int), 0)) (hbq : blkN l l.length y = q) (hqn : q < n) (hb1 : byteAt l q = 62) :
    Calls Tryd.prog 34 #[.slice A n c, .int .i64 (j : Int)] w (DocPost (⟨true, key, p, s, true, false, (q : Int) + 1, 0⟩) w) := by
  have hbA := ((Below.refl _ w).alloc (Nat.le_refl _) (.cells #[.bool false, .string ⟨#[]⟩, .string ⟨#[]⟩, .string ⟨#[]⟩, .bool false, .bool false] 61)).alloc (by simp) (.cells (vB dtW).toArray 5 (9, 10))
  have R0 := (Blk.new w #[.bool false, .string ⟨#[]⟩, .string ⟨#[]⟩, .string ⟨#[]⟩, .bool false, .bool false] 61 _ rfl).alloc (.cells (vB dtW).toArray 5 (9, 10))
  have i0 : (0 : Int) ≤ (j : Int) := by omega
  have i1 : (j : Int) ≤ (n : Int) := by omega
  have HSL := fun (W : World) => slice_from W A n c j hj
  obtain ⟨A2, hA2⟩ : ∃ A2, tailA A c j = A2 := ⟨_, rfl⟩
  rw [hA2] at HSL
  have kc2 := const_at2
  have KPre := pre_const (l.drop j) dtW A2 (n - j) (c - j) 9 (w.alloc (.cells #[.bool false, .string ⟨#[]⟩, .string ⟨#[]⟩, .string ⟨#[]⟩, .bool false, .bool false] 61)) (w.heap.size + 1) (9, 10) (by rw [List.length_drop, hn]) (by omega) (by omega) rfl (by omega) (by omega) (by simp) (hA2 ▸ sees_tail (hs.below ((Below.refl _ w).alloc (Nat.le_refl _) _)) (by omega) j)
  rw [show ((l.drop j).take 9 == dtW) = atB l (j : Int) dtW from (atB_take l dtW j).symm, hpre] at KPre
  rw [show (vB dtW).toArray = #[.int .u8 60, .int .u8 33, .int .u8 68, .int .u8 79, .int .u8 67, .int .u8 84, .int .u8 89, .int .u8 80, .int .u8 69] from rfl] at hbA R0 KPre
  obtain ⟨W2, hW2⟩ : ∃ W2, (w.alloc (.cells #[.bool false, .string ⟨#[]⟩, .string ⟨#[]⟩, .string ⟨#[]⟩, .bool false, .bool false] 61)).alloc (.cells #[.int .u8 60, .int .u8 33, .int .u8 68, .int .u8 79, .int .u8 67, .int .u8 84, .int .u8 89, .int .u8 80, .int .u8 69] 5 (9, 10)) = W2 := ⟨_, rfl⟩
  have HW2 := Lib.hid hW2
  rw [hW2] at hbA R0 KPre
  have hB2 := Lib.hid hbA
  have R2 := Lib.hid R0
  have LPre := Lib.hid KPre
  have HP := Lib.hid (show ∀ v W', v = hdV (⟨true, key, p, s, true, false, (q : Int) + 1, 0⟩) → Below w.heap.size w W' → DocPost (⟨true, key, p, s, true, false, (q : Int) + 1, 0⟩) w (.returned v) W' from fun v W' hv hb => ⟨by rw [hv], hb⟩)
  obtain ⟨ad, rfl, _⟩ := hs.byte (k := 0) (by omega)
  have HC := Lib.hid (fun (w' : World) (hb : Below w.heap.size w w') (i : Nat) (hi : i < n) => byte_at (hs.below hb) (k := i) (by omega))
  have LN := Lib.hid (fun (w' : World) (hb : Below w.heap.size w w') => name_bbT l (some ad) n c (j + 9) ((j : Int) + 9) w' (by omega) hnm hn hnc hm hn9 h9 (hs.below hb) (ht.below hb))
  have KB := fun (w' : World) (hb : Below w.heap.size w w') (i q : Nat) (hi : i ≤ n) (hq : blkN l l.length i = q) => (show Calls Tryd.prog 65 #[.slice (some ad) n c, .int .i64 (i : Int)] w' fun e w'' => e = .returned (.int .i64 (q : Int)) ∧ w' = w'' from by
    have h := blanks_any l (some ad) n c (i : Int) w' hn hnc (by omega) ⟨by omega, by omega⟩ (hs.below hb); rw [blkV_in (by omega), hq] at h; exact h)
  have LB := Lib.hid (fun (w' : World) (hb : Below w.heap.size w w') => KB w' hb z f hzn hbk)
  have tg : (z : Int) < (f : Int) := by omega
  have tf : (f : Int) < (n : Int) := by omega
  have tf0 : (0 : Int) ≤ (f : Int) := by omega
  have ts : ((byteAt l f : Int) == 83) = false := by rw [beq_eq_false_iff_ne]; omega
  have tp : ((byteAt l f : Int) == 80) = true := by rw [beq_iff_eq]; omega
  have LX := Lib.hid (fun (w' : World) (hb : Below w.heap.size w w') => ext_anyT l (some ad) n c (f : Int) w' hx hn hnc hm hn9 ⟨by omega, by omega⟩ (hs.below hb) (hP.below hb))
  have LB2 := Lib.hid (fun (w' : World) (hb : Below w.heap.size w w') => KB w' hb y q hyn hbq)
  have tn : ((q : Int) == (n : Int)) = false := by rw [beq_eq_false_iff_ne]; omega
  have tl : (q : Int) < (n : Int) := by omega
  have tl0 : (0 : Int) ≤ (q : Int) := by omega
  have tb1 : ((byteAt l q : Int) != 91) = true := by simp; omega
  have tb2 : ((byteAt l q : Int) != 62) = false := by simp; omega
  have tb3 : ((byteAt l q : Int) == 91) = false := by simp; omega
  clear hs ht hP hn hbA R0 hA2 hW2 KPre hpre KB hnm hbk hfb hx hbq
  go_enter Tryd.func34, Tryd.ntmps34
  go_wp2_with fail
  rw [HW2.out]
  clear HW2
  refine LPre.out.mono ?_
  rintro e w' ⟨rfl, rfl⟩
  go_wp2_with fail
  refine (LN.out W2 hB2.out).mono ?_
  rintro e w3 ⟨rfl, hb3⟩
  have hB3 := Lib.hid (hB2.out.trans (hb3.mono hB2.out.size))
  have R3 := Lib.hid (R2.out.below hb3)
  clear hb3
  have hlt := R3.out.lt
  have hB4 := hB3.out.alloc hB3.out.size (.cells #[.bool true, strV key, .string ⟨#[]⟩, .string ⟨#[]⟩, .bool false, .bool false] 61)
  have R4 := R3.out.alloc (.cells #[.bool true, strV key, .string ⟨#[]⟩, .string ⟨#[]⟩, .bool false, .bool false] 61)
  have H4 := Blk.new w3 #[.bool true, strV key, .string ⟨#[]⟩, .string ⟨#[]⟩, .bool false, .bool false] 61 _ rfl
  obtain ⟨W4, hW4⟩ : ∃ W4, w3.alloc (.cells #[.bool true, strV key, .string ⟨#[]⟩, .string ⟨#[]⟩, .bool false, .bool false] 61) = W4 := ⟨_, rfl⟩
  rw [hW4] at hB4 R4 H4
  have HW4 := Lib.hid hW4
  have hB4 := Lib.hid hB4
  have R4 := Lib.hid R4
  have H4 := Lib.hid H4
  have hle := Lib.hid (show w.heap.size ≤ w3.heap.size by omega)
  clear hW4
  go_wp2_with fail
  rw [HW4.out]
  clear HW4
  refine (LB.out W4 hB4.out).mono ?_
  rintro e w' ⟨rfl, rfl⟩
  have xf := HC.out W4 hB4.out f (by omega)
  go_wp2_with fail
  refine (LX.out W4 hB4.out).mono ?_
  rintro e w5 ⟨rfl, hb5⟩
  have hB5 := Lib.hid (hB4.out.trans (hb5.mono hB4.out.size))
  have R5 := Lib.hid (R4.out.below hb5)
  have H5 := Lib.hid (H4.out.below hb5)
  clear hb5 xf
  obtain ⟨⟨r0, r1, r2, r3, r4, r5⟩, ⟨q0, q1, q2, q3, q4, q5⟩⟩ := R5.out.at6
  obtain ⟨⟨x0, x1, x2, x3, x4, x5⟩, ⟨v0, v1, v2, v3, v4, v5⟩⟩ := H5.out.at6
  obtain ⟨W7, hW7⟩ : ∃ W7, ((w5.setCell ⟨w3.heap.size, 2, none⟩ (strV p)).setCell ⟨w3.heap.size, 3, none⟩ (strV s)).setCell ⟨w3.heap.size, 4, none⟩ (.bool true) = W7 := ⟨_, rfl⟩
  have hB7 := Lib.hid (show Below w.heap.size w W7 from hW7 ▸ ((hB5.out.setCell hle.out _).setCell hle.out _).setCell hle.out _)
  have R7 := Lib.hid (show Blk W7 w.heap.size #[.bool false, .string ⟨#[]⟩, .string ⟨#[]⟩, .string ⟨#[]⟩, .bool false, .bool false] 61 from hW7 ▸ ((R5.out.far (b' := w3.heap.size) (o := 2) (by omega) (strV p)).far (b' := w3.heap.size) (o := 3) (by omega) (strV s)).far (b' := w3.heap.size) (o := 4) (by omega) (.bool true))
  have H7 := Lib.hid (show Blk W7 w3.heap.size #[.bool true, strV key, strV p, strV s, .bool true, .bool false] 61 from hW7 ▸ ((H5.out.set 2 (strV p)).set 3 (strV s)).set 4 (.bool true))
  have HW7 := Lib.hid hW7
  clear hW7
  go_wp2_with fail
  rw [HW7.out]
  clear HW7 r0 r1 r2 r3 r4 r5 q0 q1 q2 q3 q4 q5 x0 x1 x2 x3 x4 x5 v0 v1 v2 v3 v4 v5
  refine (LB2.out W7 hB7.out).mono ?_
  rintro e w' ⟨rfl, rfl⟩
  obtain ⟨⟨r0, r1, r2, r3, r4, r5⟩, ⟨q0, q1, q2, q3, q4, q5⟩⟩ := R7.out.at6
  obtain ⟨⟨x0, x1, x2, x3, x4, x5⟩, ⟨v0, v1, v2, v3, v4, v5⟩⟩ := H7.out.at6
  have xq := HC.out W7 hB7.out q (by omega)
  obtain ⟨⟨s0, s1, s2, s3, s4, s5⟩, _⟩ := ((R7.out.far (b' := w3.heap.size) (o := 5) (by omega) (.bool false)).set6 (.bool true) (strV key) (strV p) (strV s) (.bool true) (.bool false)).at6
  unfold set6 at s0 s1 s2 s3 s4 s5
  go_wp2_with fail
  (try simp only [Exit.inBlock, Exit.then])
  refine bodyPost_ret (by simp [results, Tryd.results34, go_sem, s0, s1, s2, s3, s4, s5]; first | rfl | done) rfl (HP.out _ _ rfl ?_)
  exact below_set6 (hB7.out.setCell hle.out _) (Nat.le_refl _) _ _ _ _ _ _
end Go.Proofs.YtdmfladcldkmeaaDoor
namespace Go.Proofs.YtdmfladcldkmeaaDoor
open Go.ChangeShapes Go.WideShapes Go.ChangeAt Go.RowKit
set_option linter.unusedVariables false
set_option maxRecDepth 100000

theorem hdE_len {l nm p s : List UInt8} {o : Bool} {q : Nat} (h : q = l.length) : hdE l nm p s o q = noH 7 := by unfold hdE; rw [if_pos (.inl h)]
theorem hdE_oth {l nm p s : List UInt8} {o : Bool} {q : Nat} (h : byteAt l q ≠ 91) (h2 : byteAt l q ≠ 62) : hdE l nm p s o q = noH 7 := by unfold hdE; rw [if_pos (.inr ⟨h, h2⟩)]
theorem hdE_opn {l nm p s : List UInt8} {o : Bool} {q : Nat} (hq : q < l.length) (h : byteAt l q = 91) : hdE l nm p s o q = ⟨true, nm, p, s, o, true, (q : Int) + 1, 0⟩ := by unfold hdE; rw [if_neg (by omega), decide_eq_true h]
theorem hdE_cls {l nm p s : List UInt8} {o : Bool} {q : Nat} (hq : q < l.length) (h : byteAt l q = 62) : hdE l nm p s o q = ⟨true, nm, p, s, o, false, (q : Int) + 1, 0⟩ := by unfold hdE; rw [if_neg (by omega), decide_eq_false (by omega)]
theorem sysT_err (l p : List UInt8) (i : Nat) (h : (sysT l p i).2.2.2 ≠ 0) : sysT l p i = noX (sysT l p i).2.2.2 := by
  unfold sysT at h ⊢
  split
  · rfl
  · next h1 => rw [if_neg h1] at h; exact absurd rfl h
theorem ext_err (l : List UInt8) (k : Int) (h : (extT l k).2.2.2 ≠ 0) : extT l k = noX (extT l k).2.2.2 := by
  unfold extT at h ⊢
  split
  · rfl
  · next h1 =>
    rw [if_neg h1] at h
    split
    · next h2 => rw [if_pos h2] at h; exact sysT_err _ _ _ h
    · next h2 =>
      rw [if_neg h2] at h
      split
      · next h3 =>
        rw [if_pos h3] at h
        split
        · rfl
        · next h4 => rw [if_neg h4] at h; exact sysT_err _ _ _ h
      · rfl
theorem sysT_go {l p : List UInt8} {i : Nat} (hi : i ≤ l.length) (h : (sysT l p i).2.2.2 = 0) : ∃ y : Nat, (sysT l p i).2.2.1 = y ∧ y ≤ l.length := by
  unfold sysT at h ⊢
  split
  · next h1 => rw [if_pos h1] at h; exact absurd h h1
  · next h1 =>
    obtain ⟨b, h2, _, h4⟩ := bbT_go (f := quoT) (fun l k hk h => quoT_go hk h) hi (by simpa using h1)
    exact ⟨b, h2, h4⟩
theorem ext_go {l : List UInt8} {k : Nat} (h : (extT l (k : Int)).2.2.2 = 0) : ∃ y : Nat, (extT l (k : Int)).2.2.1 = y ∧ y ≤ l.length := by
  unfold extT at h ⊢
  split
  · next h1 => rw [if_pos h1] at h; exact absurd h (by show (3 : Int) ≠ 0; omega)
  · next h1 =>
    rw [if_neg h1] at h
    rw [Int.toNat_natCast] at h ⊢
    split
    · next h2 =>
      rw [if_pos h2] at h
      have := atB_fit h2 (by simp [sysW])
      exact sysT_go (by simp [sysW] at this; omega) h
    · next h2 =>
      rw [if_neg h2] at h
      split
      · next h3 =>
        rw [if_pos h3] at h
        have := atB_fit h3 (by simp [pubW])
        split
        · next h4 => rw [if_pos h4] at h; exact absurd h h4
        · next h4 =>
          rw [if_neg h4] at h
          obtain ⟨b, h5, _, h6⟩ := bbT_go (f := pubT) (fun l k hk h => pubT_go hk h) (by simp [pubW] at this; omega) (by simpa using h4)
          rw [h5, Int.toNat_natCast] at h ⊢
          exact sysT_go h6 h
      · next h3 => rw [if_neg h3] at h; exact absurd h (by show (7 : Int) ≠ 0; omega)
theorem doc_any (l : List UInt8) (A : Option Addr) (n c : Nat) (k : Int) (w : World) (hn : l.length = n) (hnc : n ≤ c) (hm : c ≤ 9223372036854775807) (hn9 : n ≤ 1000000) (hk : I64 k) (hs : Sees w A (vB l)) (ht : TabN w) (hP : TabP w) :
    Calls Tryd.prog 34 #[.slice A n c, .int .i64 k] w (DocPost (hdT l k) w) := by
  by_cases hout : k < 0 ∨ (n : Int) < k
  · rw [show hdT l k = noH 3 by unfold hdT; rw [if_pos (by rw [hn]; exact hout)]]
    exact doc_out l A n c k w hk hout
  · obtain ⟨j, rfl⟩ : ∃ j : Nat, k = j := ⟨k.toNat, by omega⟩
    have hj : j ≤ n := by omega
    unfold hdT
    rw [if_neg (by rw [hn]; exact hout), Int.toNat_natCast]
    cases hpre : atB l (j : Int) dtW with
    | false =>
      rw [if_pos rfl]
      exact doc_not l A n c j w hn hnc hm hn9 hj hs ht hP hpre
    | true =>
      have h9 : j + 9 ≤ n := by have := atB_fit hpre (by simp [dtW]); simp [dtW] at this; omega
      rw [if_neg (by simp)]
      by_cases h0 : (bbT nmT l (j + 9)).2.2 = 0
      · rw [if_neg (by rw [h0]; simp)]
        obtain ⟨z, hz, hzg, hzl⟩ := bbT_go (f := nmT) (fun l k hk h => by
          obtain ⟨z, e, h1, h2, _⟩ := nmT_go hk h
          exact ⟨z, by rw [e], h1, h2⟩) (by omega) h0
        obtain ⟨key, y, e0, hnm⟩ : ∃ s y e0, bbT nmT l (j + 9) = (s, y, e0) := ⟨_, _, _, rfl⟩
        rw [hnm] at h0 hz ⊢
        simp only at h0 hz ⊢
        subst h0; subst hz
        rw [Int.toNat_natCast]
        have hb := blkN_le l l.length z hzl
        obtain ⟨f, hf⟩ : ∃ f, blkN l l.length z = f := ⟨_, rfl⟩
        rw [hf] at hb ⊢
        by_cases hc : z < f ∧ f < l.length ∧ (byteAt l f = 83 ∨ byteAt l f = 80)
        · rw [if_pos hc]
          obtain ⟨h1, h2, h3⟩ := hc
          by_cases hx0 : (extT l (f : Int)).2.2.2 = 0
          · rw [if_neg (by rw [hx0]; simp)]
            obtain ⟨y, hy, hyl⟩ := ext_go hx0
            obtain ⟨p, s, y', e0, hx⟩ : ∃ p s y e0, extT l (f : Int) = (p, s, y, e0) := ⟨_, _, _, _, rfl⟩
            rw [hx] at hx0 hy ⊢
            simp only at hx0 hy ⊢
            subst hx0; subst hy
            rw [Int.toNat_natCast]
            have hb2 := blkN_le l l.length y hyl
            obtain ⟨q, hq⟩ : ∃ q, blkN l l.length y = q := ⟨_, rfl⟩
            rw [hq] at hb2 ⊢
            by_cases t1 : q = n
            · rw [hdE_len (by omega)]
              rcases h3 with h3 | h3
              · exact doc_extS_len l A n c j w hn hnc hm hn9 hj hs ht hP hpre h9 key z f (by omega) (by omega) hnm hf h1 (by omega) h3 p s y q (by omega) hx hq t1
              · exact doc_extP_len l A n c j w hn hnc hm hn9 hj hs ht hP hpre h9 key z f (by omega) (by omega) hnm hf h1 (by omega) h3 p s y q (by omega) hx hq t1
            · by_cases t2 : byteAt l q = 91
              · rw [hdE_opn (by omega) t2]
                rcases h3 with h3 | h3
                · exact doc_extS_opn l A n c j w hn hnc hm hn9 hj hs ht hP hpre h9 key z f (by omega) (by omega) hnm hf h1 (by omega) h3 p s y q (by omega) hx hq (by omega) t2
                · exact doc_extP_opn l A n c j w hn hnc hm hn9 hj hs ht hP hpre h9 key z f (by omega) (by omega) hnm hf h1 (by omega) h3 p s y q (by omega) hx hq (by omega) t2
              · by_cases t3 : byteAt l q = 62
                · rw [hdE_cls (by omega) t3]
                  rcases h3 with h3 | h3
                  · exact doc_extS_cls l A n c j w hn hnc hm hn9 hj hs ht hP hpre h9 key z f (by omega) (by omega) hnm hf h1 (by omega) h3 p s y q (by omega) hx hq (by omega) t3
                  · exact doc_extP_cls l A n c j w hn hnc hm hn9 hj hs ht hP hpre h9 key z f (by omega) (by omega) hnm hf h1 (by omega) h3 p s y q (by omega) hx hq (by omega) t3
                · rw [hdE_oth t2 t3]
                  rcases h3 with h3 | h3
                  · exact doc_extS_oth l A n c j w hn hnc hm hn9 hj hs ht hP hpre h9 key z f (by omega) (by omega) hnm hf h1 (by omega) h3 p s y q (by omega) hx hq (by omega) t2 t3
                  · exact doc_extP_oth l A n c j w hn hnc hm hn9 hj hs ht hP hpre h9 key z f (by omega) (by omega) hnm hf h1 (by omega) h3 p s y q (by omega) hx hq (by omega) t2 t3
          · rw [if_pos hx0]
            rcases h3 with h3 | h3
            · exact doc_extS_e l A n c j w hn hnc hm hn9 hj hs ht hP hpre h9 key z f (by omega) (by omega) hnm hf h1 (by omega) h3 _ hx0 (ext_err _ _ hx0)
            · exact doc_extP_e l A n c j w hn hnc hm hn9 hj hs ht hP hpre h9 key z f (by omega) (by omega) hnm hf h1 (by omega) h3 _ hx0 (ext_err _ _ hx0)
        · rw [if_neg hc]
          by_cases t1 : f = n
          · rw [hdE_len (by omega)]
            by_cases c1 : f = z
            · exact doc_no_c1_len l A n c j w hn hnc hm hn9 hj hs ht hP hpre h9 key z f (by omega) (by omega) hnm hf c1 t1
            · exact doc_no_c2_len l A n c j w hn hnc hm hn9 hj hs ht hP hpre h9 key z f (by omega) (by omega) hnm hf (by omega) t1
          · by_cases t2 : byteAt l f = 91
            · rw [hdE_opn (by omega) t2]
              by_cases c1 : f = z
              · exact doc_no_c1_opn l A n c j w hn hnc hm hn9 hj hs ht hP hpre h9 key z f (by omega) (by omega) hnm hf c1 (by omega) t2
              · exact doc_no_c3_opn l A n c j w hn hnc hm hn9 hj hs ht hP hpre h9 key z f (by omega) (by omega) hnm hf (by omega) (by omega) (by omega) (by omega) t2
            · by_cases t3 : byteAt l f = 62
              · rw [hdE_cls (by omega) t3]
                by_cases c1 : f = z
                · exact doc_no_c1_cls l A n c j w hn hnc hm hn9 hj hs ht hP hpre h9 key z f (by omega) (by omega) hnm hf c1 (by omega) t3
                · exact doc_no_c3_cls l A n c j w hn hnc hm hn9 hj hs ht hP hpre h9 key z f (by omega) (by omega) hnm hf (by omega) (by omega) (by omega) (by omega) t3
              · rw [hdE_oth t2 t3]
                by_cases c1 : f = z
                · exact doc_no_c1_oth l A n c j w hn hnc hm hn9 hj hs ht hP hpre h9 key z f (by omega) (by omega) hnm hf c1 (by omega) t2 t3
                · exact doc_no_c3_oth l A n c j w hn hnc hm hn9 hj hs ht hP hpre h9 key z f (by omega) (by omega) hnm hf (by omega) (by omega) (by omega) (by omega) t2 t3
      · rw [if_pos h0]
        exact doc_nme l A n c j w hn hnc hm hn9 hj hs ht hP hpre h9 _ h0 (bbT_err nmT nmT_err l _ h0)
end Go.Proofs.YtdmfladcldkmeaaDoor
