/- The walk of MiscPuts. -/
import Derived.Test.YtggllkcoabeejaaDoorMig
namespace Go.Proofs.YtggllkcoabeejaaDoor
open Go.ChangeShapes Go.WideShapes Go.ChangeAt Go.RowKit
set_option linter.unusedVariables false
set_option maxRecDepth 100000

theorem occ_head (a l : List UInt8) : Lib.occAt (a ++ l) a 0 = true := by
  unfold Lib.occAt
  rw [List.drop_zero, List.isPrefixOf_iff_prefix]
  exact List.prefix_append _ _
theorem byteAt_some {l : List UInt8} {k : Nat} {b : UInt8} (h : l[k]? = some b) : byteAt l k = b.toNat := by unfold byteAt; rw [h]; rfl
theorem cmt_read {l : List UInt8} (h : Lib.index (l ++ [45]) [45, 45] < 0) : cmtV (cA ++ l ++ cB) 0 = .tuple #[strV l, .int .i64 ((l.length + 7 : Nat) : Int), .int .i64 0] := by
  have h1 : ((cA ++ l ++ cB).drop 4) = l ++ cB := rfl
  have h2 : cfV (l ++ cB) = l.length := by
    have hi := cmt_index h
    have hb : byteAt (l ++ cB) (l.length + 2) = 62 := byteAt_some (b := 62) (by rw [List.getElem?_append_right (by omega)]; simp [cB])
    unfold cfV
    rw [show Lib.index (l ++ cB) [45, 45] = l.length from hi, if_neg]
    rw [Int.toNat_natCast, hb]
    simp [cB]
  unfold cmtV mrkV
  rw [if_neg (by omega), if_neg (by rw [List.append_assoc]; simp only [Int.toNat_zero, occ_head]; decide), show (0 : Int).toNat + 4 = 4 from rfl, h1, h2, if_neg (by omega), Int.toNat_natCast]
  have h3 : ((cA ++ l ++ cB).drop ((0 : Int).toNat + cA.length)).take l.length = l := by
    rw [show (0 : Int).toNat + cA.length = 4 from rfl, h1]; simp
  have h4 : (0 : Int).toNat + cA.length + l.length + cB.length = l.length + 7 := by rw [show (0 : Int).toNat = 0 from rfl, show cA.length = 4 from rfl, show cB.length = 3 from rfl]; omega
  rw [h3, h4]
theorem data_read {l : List UInt8} (h : Lib.index l dB < 0) : datV (dA ++ l ++ dB) 0 = .tuple #[strV l, .int .i64 ((l.length + 12 : Nat) : Int), .int .i64 0] := by
  have h1 : ((dA ++ l ++ dB).drop 9) = l ++ dB := rfl
  have h2 : Lib.index (l ++ dB) dB = l.length := data_index h
  unfold datV mrkV
  rw [if_neg (by omega), if_neg (by rw [List.append_assoc]; simp only [Int.toNat_zero, occ_head]; decide), show (0 : Int).toNat + 9 = 9 from rfl, h1, h2, if_neg (by omega), Int.toNat_natCast]
  have h3 : ((dA ++ l ++ dB).drop ((0 : Int).toNat + dA.length)).take l.length = l := by
    rw [show (0 : Int).toNat + dA.length = 9 from rfl, h1]; simp
  have h4 : (0 : Int).toNat + dA.length + l.length + dB.length = l.length + 12 := by rw [show (0 : Int).toNat = 0 from rfl, show dA.length = 9 from rfl, show dB.length = 3 from rfl]; omega
  rw [h3, h4]
set_option maxHeartbeats 8000000 in
theorem miscPuts_any (l : List UInt8) (w : World) (hm : MaxAt w) (ht : TabN w) :
    Calls Tryd.prog 4 #[strV l] w fun e w' => e = .returned (.bool true) ∧ Below w.heap.size w w' := by
  have hsz := str_size l
  have LV := Lib.hid (fun (w' : World) (hb : Below w.heap.size w w') => live08_any w' (hm.below hb) (ht.below hb))
  have HM := Lib.hid (fun (w' : World) (hb : Below w.heap.size w w') => hm.below hb)
  by_cases h300 : 300 < l.length
  · have d1 : (300 : Int) < (l.length : Int) := by omega
    clear hm ht
    go_enter Tryd.func4, Tryd.ntmps4
    go_wp2_with fail
    refine (LV.out _ (Below.refl _ _)).mono ?_
    rintro e w2 ⟨rfl, b2⟩
    go_wp2_with fail
    go_ret
    exact ⟨rfl, b2⟩
  · have d1 : ¬ ((300 : Int) < (l.length : Int)) := by omega
    have PC := Lib.hid (putc_any l w (by omega) hm)
    have PD := Lib.hid (fun (w' : World) (hb : Below w.heap.size w w') => putd_any l w' (by omega) (hm.below hb))
    have ap0 := tx_app2 l [45]
    clear hm ht
    go_enter Tryd.func4, Tryd.ntmps4
    go_wp2_with fail
    refine PC.out.mono ?_
    rintro e w1 ⟨rfl, hb1⟩
    obtain ⟨b1, cap1, w2, hcv1, hcap1, hcap1', hw2, _, _, hsw2⟩ := bytes_made (l ++ [45]) w1 (by simp; omega)
    have HBW := Lib.hid (hb1.trans (hw2.mono hb1.size))
    have hl1 : (l ++ [45]).length = l.length + 1 := by simp
    have F1' : Calls Tryd.prog 14 #[.slice (some ⟨b1, 0, none⟩) (l.length + 1) cap1, .int .i64 0, strV [45, 45]] w2 fun e w' => e = .returned (.int .i64 (fndV (l ++ [45]) [45, 45] 0)) ∧ w2 = w' := by
      have h := rfind_any (l ++ [45]) [45, 45] (some ⟨b1, 0, none⟩) (l ++ [45]).length cap1 0 w2 rfl hcap1 hcap1' (by simp; omega) (Nat.zero_le _) hsw2 (by decide) (by decide)
      rw [hl1] at h
      exact h
    rw [hl1] at hcv1 hcap1
    clear hl1
    by_cases hc : 0 ≤ Lib.index (l ++ [45]) [45, 45]
    · obtain ⟨zc, hzc⟩ : ∃ zc : Int, fndV (l ++ [45]) [45, 45] 0 = zc := ⟨_, rfl⟩
      have hzc0 : 0 ≤ zc := by
        rw [← hzc]; unfold fndV; rw [List.drop_zero, if_neg (by omega)]; omega
      rw [hzc] at F1'
      have F1 := Lib.hid F1'
      rw [show putcV l = .tuple #[.string ⟨#[]⟩, .int .i64 7] by unfold putcV; rw [if_pos hc]]
      clear hzc F1' hsw2
      go_wp2_with fail
      refine F1.out.mono ?_
      rintro e w3 ⟨rfl, hw3⟩
      subst hw3
      go_wp2_with fail
      refine (PD.out _ HBW.out).mono ?_
      rintro e u1 ⟨rfl, c1⟩
      have HB1 := Lib.hid (HBW.out.trans (c1.mono HBW.out.size))
      obtain ⟨b2, cap2, v1, hcv2, hcap2, hcap2', hv1, _, _, hsv1⟩ := bytes_made l u1 (by omega)
      have HB2 := Lib.hid (HB1.out.trans (hv1.mono HB1.out.size))
      have F2' : Calls Tryd.prog 14 #[.slice (some ⟨b2, 0, none⟩) l.length cap2, .int .i64 0, strV dB] v1 fun e w' => e = .returned (.int .i64 (fndV l dB 0)) ∧ v1 = w' :=
        rfind_any l dB (some ⟨b2, 0, none⟩) l.length cap2 0 v1 rfl hcap2 hcap2' (by omega) (Nat.zero_le _) hsv1 (by decide) (by decide)
      by_cases hd : 0 ≤ Lib.index l dB
      · obtain ⟨zd, hzd⟩ : ∃ zd : Int, fndV l dB 0 = zd := ⟨_, rfl⟩
        have hz0 : 0 ≤ zd := by
          rw [← hzd]; unfold fndV; rw [List.drop_zero, if_neg (by omega)]; omega
        rw [hzd] at F2'
        have F2 := Lib.hid F2'
        rw [show putdV l = .tuple #[.string ⟨#[]⟩, .int .i64 7] by unfold putdV; rw [if_pos hd]]
        clear hzd F2' hsv1
        go_wp2_with fail
        refine F2.out.mono ?_
        rintro e u2 ⟨rfl, hu2⟩
        subst hu2
        go_wp2_with fail
        refine (LV.out _ HB2.out).mono ?_
        rintro e u3 ⟨rfl, c3⟩
        go_wp2_with fail
        go_ret
        exact ⟨rfl, HB2.out.trans (c3.mono HB2.out.size)⟩
      · have hzd : fndV l dB 0 = -1 := by unfold fndV; rw [List.drop_zero, if_pos (by omega)]
        rw [hzd] at F2'
        have F2 := Lib.hid F2'
        rw [show putdV l = .tuple #[strV (dA ++ l ++ dB), .int .i64 0] by unfold putdV; rw [if_neg hd]]
        have KD0' := data_read (l := l) (by omega)
        have ap1 : (⟨#[60, 33, 91, 67, 68, 65, 84, 65, 91]⟩ : ByteArray) ++ ⟨l.toArray⟩ = ⟨(dA ++ l).toArray⟩ := tx_app2 dA l
        have ap2 : (⟨(dA ++ l).toArray⟩ : ByteArray) ++ ⟨#[93, 93, 62]⟩ = ⟨(dA ++ l ++ dB).toArray⟩ := tx_app2 (dA ++ l) dB
        have hld : (dA ++ l ++ dB).length = l.length + 12 := by simp [dA, dB]
        have hlz : (dA ++ l).length = l.length + 9 := by simp [dA]
        obtain ⟨Z, hZ⟩ : ∃ Z, dA ++ l = Z := ⟨_, rfl⟩
        rw [hZ] at ap1 ap2 hld KD0' hlz ⊢
        obtain ⟨U, hU⟩ : ∃ U, Z ++ dB = U := ⟨_, rfl⟩
        rw [hU] at ap2 hld KD0' ⊢
        have hszz := str_size Z
        rw [hlz] at hszz
        have KD0 := Lib.hid KD0'
        clear hzd F2' hsv1 KD0' hU hZ hlz
        go_wp2_with fail
        refine F2.out.mono ?_
        rintro e u2 ⟨rfl, hu2⟩
        subst hu2
        obtain ⟨b3, cap3, v2, hcv3, hcap3, hcap3', hv2, _, _, hsv2⟩ := bytes_made U v1 (by omega)
        have HB3 := Lib.hid (HB2.out.trans (hv2.mono HB2.out.size))
        have KD' : Calls Tryd.prog 9 #[.slice (some ⟨b3, 0, none⟩) (l.length + 12) cap3, .int .i64 0] v2 fun e w' => e = .returned (datV U 0) ∧ Below v2.heap.size v2 w' := by
          have h := cdata_any U (some ⟨b3, 0, none⟩) U.length cap3 0 v2 rfl hcap3 hcap3' ⟨by omega, by omega⟩ hsv2 (by omega) (HM.out _ HB3.out)
          rw [hld] at h
          exact h
        rw [KD0.out] at KD'
        have KD := Lib.hid KD'
        have hszd := str_size U
        rw [hld] at hcv3 hszd hcap3
        clear KD' hsv2 hld
        go_wp2_with fail
        refine KD.out.mono ?_
        rintro e u3 ⟨rfl, c3⟩
        have HB4 := Lib.hid (HB3.out.trans (c3.mono HB3.out.size))
        go_wp2_with fail
        refine (LV.out _ HB4.out).mono ?_
        rintro e u4 ⟨rfl, c4⟩
        go_wp2_with fail
        go_ret
        exact ⟨rfl, HB4.out.trans (c4.mono HB4.out.size)⟩
    · have hzc : fndV (l ++ [45]) [45, 45] 0 = -1 := by unfold fndV; rw [List.drop_zero, if_pos (by omega)]
      rw [hzc] at F1'
      have F1 := Lib.hid F1'
      rw [show putcV l = .tuple #[strV (cA ++ l ++ cB), .int .i64 0] by unfold putcV; rw [if_neg hc]]
      have KC0' := cmt_read (l := l) (by omega)
      have ap3 : (⟨#[60, 33, 45, 45]⟩ : ByteArray) ++ ⟨l.toArray⟩ = ⟨(cA ++ l).toArray⟩ := tx_app2 cA l
      have ap4 : (⟨(cA ++ l).toArray⟩ : ByteArray) ++ ⟨#[45, 45, 62]⟩ = ⟨(cA ++ l ++ cB).toArray⟩ := tx_app2 (cA ++ l) cB
      have hlc : (cA ++ l ++ cB).length = l.length + 7 := by simp [cA, cB]
      have hly : (cA ++ l).length = l.length + 4 := by simp [cA]
      obtain ⟨Y, hY⟩ : ∃ Y, cA ++ l = Y := ⟨_, rfl⟩
      rw [hY] at ap3 ap4 hlc KC0' hly ⊢
      obtain ⟨X, hX⟩ : ∃ X, Y ++ cB = X := ⟨_, rfl⟩
      rw [hX] at ap4 hlc KC0' ⊢
      have hszy := str_size Y
      rw [hly] at hszy
      have KC0 := Lib.hid KC0'
      clear hzc F1' hsw2 KC0' hX hY hly
      go_wp2_with fail
      refine F1.out.mono ?_
      rintro e w3 ⟨rfl, hw3⟩
      subst hw3
      obtain ⟨b4, cap4, w4, hcv4, hcap4, hcap4', hw4, _, _, hsw4⟩ := bytes_made X w2 (by omega)
      have HBV := Lib.hid (HBW.out.trans (hw4.mono HBW.out.size))
      have KC' : Calls Tryd.prog 7 #[.slice (some ⟨b4, 0, none⟩) (l.length + 7) cap4, .int .i64 0] w4 fun e w' => e = .returned (cmtV X 0) ∧ Below w4.heap.size w4 w' := by
        have h := comment_any X (some ⟨b4, 0, none⟩) X.length cap4 0 w4 rfl hcap4 hcap4' ⟨by omega, by omega⟩ hsw4 (by omega) (HM.out _ HBV.out)
        rw [hlc] at h
        exact h
      rw [KC0.out] at KC'
      have KC := Lib.hid KC'
      have hszc := str_size X
      rw [hlc] at hcv4 hszc hcap4
      clear KC' hsw4 hlc
      go_wp2_with fail
      refine KC.out.mono ?_
      rintro e w5 ⟨rfl, b5⟩
      have HBX := Lib.hid (HBV.out.trans (b5.mono HBV.out.size))
      go_wp2_with fail
      refine (PD.out _ HBX.out).mono ?_
      rintro e u1 ⟨rfl, c1⟩
      have HB1 := Lib.hid (HBX.out.trans (c1.mono HBX.out.size))
      obtain ⟨b2, cap2, v1, hcv2, hcap2, hcap2', hv1, _, _, hsv1⟩ := bytes_made l u1 (by omega)
      have HB2 := Lib.hid (HB1.out.trans (hv1.mono HB1.out.size))
      have F2' : Calls Tryd.prog 14 #[.slice (some ⟨b2, 0, none⟩) l.length cap2, .int .i64 0, strV dB] v1 fun e w' => e = .returned (.int .i64 (fndV l dB 0)) ∧ v1 = w' :=
        rfind_any l dB (some ⟨b2, 0, none⟩) l.length cap2 0 v1 rfl hcap2 hcap2' (by omega) (Nat.zero_le _) hsv1 (by decide) (by decide)
      by_cases hd : 0 ≤ Lib.index l dB
      · obtain ⟨zd, hzd⟩ : ∃ zd : Int, fndV l dB 0 = zd := ⟨_, rfl⟩
        have hz0 : 0 ≤ zd := by
          rw [← hzd]; unfold fndV; rw [List.drop_zero, if_neg (by omega)]; omega
        rw [hzd] at F2'
        have F2 := Lib.hid F2'
        rw [show putdV l = .tuple #[.string ⟨#[]⟩, .int .i64 7] by unfold putdV; rw [if_pos hd]]
        clear hzd F2' hsv1
        go_wp2_with fail
        refine F2.out.mono ?_
        rintro e u2 ⟨rfl, hu2⟩
        subst hu2
        go_wp2_with fail
        refine (LV.out _ HB2.out).mono ?_
        rintro e u3 ⟨rfl, c3⟩
        go_wp2_with fail
        go_ret
        exact ⟨rfl, HB2.out.trans (c3.mono HB2.out.size)⟩
      · have hzd : fndV l dB 0 = -1 := by unfold fndV; rw [List.drop_zero, if_pos (by omega)]
        rw [hzd] at F2'
        have F2 := Lib.hid F2'
        rw [show putdV l = .tuple #[strV (dA ++ l ++ dB), .int .i64 0] by unfold putdV; rw [if_neg hd]]
        have KD0' := data_read (l := l) (by omega)
        have ap1 : (⟨#[60, 33, 91, 67, 68, 65, 84, 65, 91]⟩ : ByteArray) ++ ⟨l.toArray⟩ = ⟨(dA ++ l).toArray⟩ := tx_app2 dA l
        have ap2 : (⟨(dA ++ l).toArray⟩ : ByteArray) ++ ⟨#[93, 93, 62]⟩ = ⟨(dA ++ l ++ dB).toArray⟩ := tx_app2 (dA ++ l) dB
        have hld : (dA ++ l ++ dB).length = l.length + 12 := by simp [dA, dB]
        have hlz : (dA ++ l).length = l.length + 9 := by simp [dA]
        obtain ⟨Z, hZ⟩ : ∃ Z, dA ++ l = Z := ⟨_, rfl⟩
        rw [hZ] at ap1 ap2 hld KD0' hlz ⊢
        obtain ⟨U, hU⟩ : ∃ U, Z ++ dB = U := ⟨_, rfl⟩
        rw [hU] at ap2 hld KD0' ⊢
        have hszz := str_size Z
        rw [hlz] at hszz
        have KD0 := Lib.hid KD0'
        clear hzd F2' hsv1 KD0' hU hZ hlz
        go_wp2_with fail
        refine F2.out.mono ?_
        rintro e u2 ⟨rfl, hu2⟩
        subst hu2
        obtain ⟨b3, cap3, v2, hcv3, hcap3, hcap3', hv2, _, _, hsv2⟩ := bytes_made U v1 (by omega)
        have HB3 := Lib.hid (HB2.out.trans (hv2.mono HB2.out.size))
        have KD' : Calls Tryd.prog 9 #[.slice (some ⟨b3, 0, none⟩) (l.length + 12) cap3, .int .i64 0] v2 fun e w' => e = .returned (datV U 0) ∧ Below v2.heap.size v2 w' := by
          have h := cdata_any U (some ⟨b3, 0, none⟩) U.length cap3 0 v2 rfl hcap3 hcap3' ⟨by omega, by omega⟩ hsv2 (by omega) (HM.out _ HB3.out)
          rw [hld] at h
          exact h
        rw [KD0.out] at KD'
        have KD := Lib.hid KD'
        have hszd := str_size U
        rw [hld] at hcv3 hszd hcap3
        clear KD' hsv2 hld
        go_wp2_with fail
        refine KD.out.mono ?_
        rintro e u3 ⟨rfl, c3⟩
        have HB4 := Lib.hid (HB3.out.trans (c3.mono HB3.out.size))
        go_wp2_with fail
        refine (LV.out _ HB4.out).mono ?_
        rintro e u4 ⟨rfl, c4⟩
        go_wp2_with fail
        go_ret
        exact ⟨rfl, HB4.out.trans (c4.mono HB4.out.size)⟩
end Go.Proofs.YtggllkcoabeejaaDoor
