/- The walk of TagReads. -/
import Derived.Test.YtcpdllghlbdhiaaDoorPkal
namespace Go.Proofs.YtcpdllghlbdhiaaDoor
open Go.ChangeShapes Go.WideShapes Go.ChangeAt Go.RowKit Go.Maps
set_option linter.unusedVariables false
set_option maxRecDepth 100000

theorem tag_cells (W w' : World) (s : List UInt8) (v : Value) (b : Bool) (t : TypeId) (h : Below (W.heap.size + 1) (W.alloc (.cells #[strV s, v, .bool b] t)) w') :
    w'.cell? ⟨W.heap.size, 0, none⟩ = some (strV s) ∧ w'.cell? ⟨W.heap.size, 1, none⟩ = some v ∧ w'.cell? ⟨W.heap.size, 2, none⟩ = some (.bool b) :=
  ⟨(h.cell (by simp)).trans (by simp [World.cell?_alloc_new]), (h.cell (by simp)).trans (by simp [World.cell?_alloc_new]), (h.cell (by simp)).trans (by simp [World.cell?_alloc_new])⟩
set_option maxHeartbeats 8000000 in
theorem tagReads_any (l : List UInt8) (A : Option Addr) (n c : Nat) (k : Int) (w : World) (hn : l.length = n) (hnc : n ≤ c) (hcm : c ≤ maxLen) (hk : I64 k) (hs : Sees w A (vB l)) (ht : TabC w) :
    Calls Tryd.prog 9 #[.slice A n c, .int .i64 k] w fun e w' => e = .returned (.bool true) ∧ Below w.heap.size w w' := by
  unfold maxLen at hcm
  have HL := Lib.hid (fun (w' : World) (hb : Below w.heap.size w w') => live10_any w' (ht.below hb))
  by_cases hbig : 400 < n
  · clear hs
    go_enter Tryd.func9, Tryd.ntmps9
    go_wp2_with fail
    refine (HL.out w (Below.refl _ _)).mono ?_
    rintro e w1 ⟨rfl, hb⟩
    go_wp2_with fail
    go_ret
    exact ⟨rfl, hb⟩
  have hI : ∀ w' : World, Below w.heap.size w w' → Sees w' A (vB l) ∧ TabC w' := fun w' hb => ⟨hs.below hb, ht.below hb⟩
  have H1 := fun (w' : World) (hb : Below w.heap.size w w') => pairs_any l A n c k w' hn hnc hcm (by omega) hk (hI w' hb).1 (hI w' hb).2
  have H2 := fun (w' : World) (hb : Below w.heap.size w w') => rpairs_any l A n c k w' hn hnc hcm (by omega) hk (hI w' hb).1 (hI w' hb).2.toN
  have H3 := fun (w' : World) (hb : Below w.heap.size w w') => open_any l A n c k w' hn hnc hcm (by omega) hk (hI w' hb).1 (hI w' hb).2
  have H4 := fun (w' : World) (hb : Below w.heap.size w w') => ropen_any l A n c k w' hn hnc hcm (by omega) hk (hI w' hb).1 (hI w' hb).2.toN
  have H5 := fun (w' : World) (hb : Below w.heap.size w w') => close_any l A n c k w' hn hnc hcm (by omega) hk (hI w' hb).1 (hI w' hb).2.toN
  have H6 := fun (w' : World) (hb : Below w.heap.size w w') => rclose_any l A n c k w' hn hnc hcm (by omega) hk (hI w' hb).1
  have hpl := parsT_len l k
  have hol := openT_len l k
  obtain ⟨ps, y, e0, hP⟩ : ∃ ps y e0, parsT l k = (ps, y, e0) := ⟨_, _, _, rfl⟩
  obtain ⟨s, qs, b, z, e1, hO⟩ : ∃ s qs b z e1, openT l k = (s, qs, b, z, e1) := ⟨_, _, _, _, _, rfl⟩
  obtain ⟨s5, y5, e5, h5⟩ := trV_tup (closeT l k)
  rw [hP] at H1 H2 hpl
  rw [hO] at H3 H4 hol
  rw [h5] at H5 H6
  simp only at hpl hol
  have hp9 : ps.length ≤ 1000000 := by omega
  have hq9 : qs.length ≤ 1000000 := by omega
  obtain ⟨np, hnp⟩ : ∃ np, ps.length = np := ⟨_, rfl⟩
  obtain ⟨nq, hnq⟩ : ∃ nq, qs.length = nq := ⟨_, rfl⟩
  have HSP := Lib.hid (fun (W : World) (b1 b2 : Nat) (v1 v2 : Value) h1 h2 => rsameP_any ps b1 b2 v1 v2 np W hnp (by omega) h1 h2)
  have HSQ := Lib.hid (fun (W : World) (b1 b2 : Nat) (v1 v2 : Value) h1 h2 => rsameP_any qs b1 b2 v1 v2 nq W hnq (by omega) h1 h2)
  have HNP := Lib.hid hnp
  have HNQ := Lib.hid hnq
  have K1 := Lib.hid H1
  have K2 := Lib.hid H2
  have K3 := Lib.hid H3
  have K4 := Lib.hid H4
  have K5 := Lib.hid H5
  have K6 := Lib.hid H6
  clear H1 H2 H3 H4 H5 H6 hP hO h5 hs hn hI ht hpl hol hp9 hq9 hnp hnq
  go_enter Tryd.func9, Tryd.ntmps9
  go_wp2_with fail
  refine (K1.out w (Below.refl _ _)).mono ?_
  rintro e w1 ⟨v1, rfl, o1, hb1⟩
  obtain ⟨A1, c1, rfl⟩ := row_slice o1
  have O1 := Lib.hid o1
  clear o1
  go_wp2_with fail
  refine (K2.out w1 hb1).mono ?_
  rintro e w2 ⟨v2, rfl, o2, b2⟩
  obtain ⟨A2, c2, rfl⟩ := row_slice o2
  have hb2 := hb1.trans (b2.mono hb1.size)
  have S12 := HSP.out w2 _ _ _ _ (HNP.out ▸ q_below O1.out b2) (HNP.out ▸ o2)
  have SS12 := Lib.hid S12
  clear o2 S12
  rw [HNP.out]
  go_wp2_with fail
  refine SS12.out.mono ?_
  rintro e w3 ⟨rfl, b3⟩
  have hb3 := hb2.trans (b3.mono hb2.size)
  go_wp2_with fail
  refine (K3.out w3 hb3).mono ?_
  rintro e w4 ⟨v3, rfl, o3, b4⟩
  obtain ⟨A3, c3, rfl⟩ := row_slice o3
  have hb4 := hb3.trans (b4.mono hb3.size)
  have hbT := hb4.alloc hb4.size (.cells #[strV s, .slice A3 nq c3, .bool b] 63)
  have O3 := Lib.hid o3
  clear o3
  simp only
  rw [HNQ.out]
  go_wp2_with fail
  refine (K4.out _ hbT).mono ?_
  rintro e w5 ⟨v4, rfl, o4, b5⟩
  obtain ⟨A4, c4, rfl⟩ := row_slice o4
  have hT5 : Below (w4.heap.size + 1) (w4.alloc (.cells #[strV s, .slice A3 nq c3, .bool b] 63)) w5 := b5.mono (by simp)
  have hs5 : w4.heap.size + 1 ≤ w5.heap.size := by have h9 := b5.size; simp at h9; omega
  have hU5 := hT5.alloc hs5 (.cells #[strV s, .slice A4 nq c4, .bool b] 66)
  have hR5 := Below.refl (w5.heap.size + 1) (w5.alloc (.cells #[strV s, .slice A4 nq c4, .bool b] 66))
  have hV5 : Below w4.heap.size w4 _ := ((Below.refl w4.heap.size w4).alloc (Nat.le_refl _) (.cells #[strV s, .slice A3 nq c3, .bool b] 63)).trans (hU5.mono (Nat.le_succ _))
  have hb6 := hb4.trans (hV5.mono hb4.size)
  obtain ⟨x0, x1, x2⟩ := tag_cells w4 _ s _ b 63 hU5
  obtain ⟨y0, y1, y2⟩ := tag_cells w5 _ s _ b 66 hR5
  rw [HNQ.out] at o4
  have SS := Lib.hid (HSQ.out _ _ _ _ _ (HNQ.out ▸ q_below O3.out hV5) (o4.alloc (.cells #[strV s, .slice A4 nq c4, .bool b] 66)))
  have HU5 := Lib.hid hU5
  have HR5 := Lib.hid hR5
  clear o4 hT5 hU5 hR5 hV5
  simp only
  rw [HNQ.out]
  go_wp2_with fail
  refine SS.out.mono ?_
  rintro e w6 ⟨rfl, b6⟩
  have hb7 := hb6.trans (b6.mono hb6.size)
  obtain ⟨z0, z1, z2⟩ := tag_cells w4 _ s _ b 63 (HU5.out.trans (b6.mono (by simp; omega)))
  obtain ⟨u0, u1, u2⟩ := tag_cells w5 _ s _ b 66 (HR5.out.trans (b6.mono (by simp)))
  clear x0 x1 x2 y0 y1 y2
  go_wp2_with fail
  refine (K5.out w6 hb7).mono ?_
  rintro e w7 ⟨rfl, b7⟩
  have hb8 := hb7.trans (b7.mono hb7.size)
  go_wp2_with fail
  refine (K6.out w7 hb8).mono ?_
  rintro e w8 ⟨rfl, b8⟩
  have hb9 := hb8.trans (b8.mono hb8.size)
  go_wp2_with fail
  refine (HL.out w8 hb9).mono ?_
  rintro e w9 ⟨rfl, b9⟩
  go_wp2_with fail
  go_ret
  exact ⟨rfl, hb9.trans (b9.mono hb9.size)⟩
end Go.Proofs.YtcpdllghlbdhiaaDoor
