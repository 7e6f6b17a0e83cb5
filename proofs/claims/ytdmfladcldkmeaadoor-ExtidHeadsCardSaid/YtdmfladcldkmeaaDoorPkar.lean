/- External identifiers, whole: by the document; by the program's Ext. Blocks of six cells. Tags: the page's example; the walk of TagReads. How a document type begins, by the program. How a document type begins, by the program: without an identifier. -/
import Derived.Lib.BufferRead
import Derived.Test.YtdmfladcldkmeaaDoorPkap
import Derived.Test.YtdmfladcldkmeaaDoorPkaq
namespace Go.Proofs.YtdmfladcldkmeaaDoor
open Go.ChangeShapes Go.WideShapes Go.ChangeAt Go.RowKit
set_option linter.unusedVariables false
set_option maxRecDepth 100000

theorem not_both {l : List UInt8} {j : Nat} (h : atB l (j : Int) pubW = true) : atB l (j : Int) sysW = false := by
  have e1 : atB l (j : Int) sysW = ((l.drop j).take 6 == sysW) := atB_take l sysW j
  have e2 : atB l (j : Int) pubW = ((l.drop j).take 6 == pubW) := atB_take l pubW j
  rw [e2, beq_iff_eq] at h
  rw [e1, h]
  rfl
theorem bbT_7 (f : List UInt8 → Int → Trip) {l : List UInt8} {i : Nat} (h : blkN l l.length i = i) : bbT f l i = noT 7 := by unfold bbT; rw [if_pos h]
theorem bbT_on (f : List UInt8 → Int → Trip) {l : List UInt8} {i q : Nat} (h : blkN l l.length i = q) (hne : q ≠ i) : bbT f l i = f l (q : Int) := by unfold bbT; rw [h, if_neg hne]
theorem rext_any (l : List UInt8) (A : Option Addr) (n c : Nat) (k : Int) (w : World) (hn : l.length = n) (hnc : n ≤ c) (hm : c ≤ 9223372036854775807) (hn9 : n ≤ 1000000) (hk : I64 k) (hs : Sees w A (vB l)) :
    Calls Tryd.prog 81 #[.slice A n c, .int .i64 k, .bool true] w fun e w' => e = .returned (exV (extT l k)) ∧ Below w.heap.size w w' := by
  by_cases hout : k < 0 ∨ (n : Int) < k
  · have hv : extT l k = noX 3 := by unfold extT; rw [if_pos (by rw [hn]; exact hout)]
    rw [hv]
    exact rext_out l A n c k w hk hout
  · obtain ⟨j, rfl⟩ : ∃ j : Nat, k = j := ⟨k.toNat, by omega⟩
    have hj : j ≤ n := by omega
    unfold extT
    rw [if_neg (by rw [hn]; exact hout), Int.toNat_natCast]
    cases h2 : atB l (j : Int) pubW with
    | true =>
      have h6 : j + 6 ≤ n := by have := atB_fit h2 (by simp [pubW]); simp [pubW] at this; omega
      rw [not_both h2, if_neg (by simp), if_pos rfl]
      have hb := blkN_le l l.length (j + 6) (by omega)
      by_cases h3 : blkN l l.length (j + 6) = j + 6
      · rw [bbT_7 pubT h3, if_pos (by show (7 : Int) ≠ 0; omega)]
        exact rext_pub7 l A n c j w hn hnc hm hn9 hj hs h2 h6 h3
      · obtain ⟨q, hq⟩ : ∃ q, blkN l l.length (j + 6) = q := ⟨_, rfl⟩
        rw [hq] at h3 hb
        rw [bbT_on pubT hq h3]
        by_cases h0 : (pubT l (q : Int)).2.2 = 0
        · rw [if_neg (by rw [h0]; simp)]
          obtain ⟨z, hz, _, hzl⟩ := pubT_go (by omega) h0
          obtain ⟨p, y, e0, hp⟩ : ∃ s y e0, pubT l (q : Int) = (s, y, e0) := ⟨_, _, _, rfl⟩
          rw [hp] at h0 hz ⊢
          simp only at h0 hz ⊢
          subst h0; subst hz
          rw [Int.toNat_natCast]
          have hb2 := blkN_le l l.length z hzl
          by_cases h4 : blkN l l.length z = z
          · rw [sysT_in (e := 7) (by rw [bbT_7 quoT h4]; rfl) (by omega)]
            exact rext_pubq7 l A n c j w hn hnc hm hn9 hj hs h2 h6 q hq h3 (by omega) p z (by omega) hp h4
          · obtain ⟨u, hu⟩ : ∃ u, blkN l l.length z = u := ⟨_, rfl⟩
            rw [hu] at h4 hb2
            by_cases h5 : (quoT l (u : Int)).2.2 = 0
            · obtain ⟨s, y, e0, hr⟩ : ∃ s y e0, quoT l (u : Int) = (s, y, e0) := ⟨_, _, _, rfl⟩
              have : e0 = 0 := by rw [hr] at h5; exact h5
              subst this
              rw [sysT_ok ((bbT_on quoT hu h4).trans hr)]
              exact rext_pubok l A n c j w hn hnc hm hn9 hj hs h2 h6 q hq h3 (by omega) p z (by omega) hp u hu h4 (by omega) s y hr
            · rw [sysT_in (e := (quoT l (u : Int)).2.2) (by rw [bbT_on quoT hu h4]) h5]
              exact rext_pubqe l A n c j w hn hnc hm hn9 hj hs h2 h6 q hq h3 (by omega) p z (by omega) hp u hu h4 (by omega) _ h5 (quoT_err l _ h5)
        · rw [if_pos h0]
          exact rext_pube l A n c j w hn hnc hm hn9 hj hs h2 h6 q hq h3 (by omega) _ h0 (pubT_err l _ h0)
    | false =>
      cases h1 : atB l (j : Int) sysW with
      | false =>
        rw [if_neg (by simp), if_neg (by simp)]
        exact rext_none l A n c j w hn hnc hm hn9 hj hs h2 h1
      | true =>
        rw [if_pos rfl]
        have h6 : j + 6 ≤ n := by have := atB_fit h1 (by simp [sysW]); simp [sysW] at this; omega
        have hb2 := blkN_le l l.length (j + 6) (by omega)
        by_cases h4 : blkN l l.length (j + 6) = j + 6
        · rw [sysT_in (e := 7) (by rw [bbT_7 quoT h4]; rfl) (by omega)]
          exact rext_sys7 l A n c j w hn hnc hm hn9 hj hs h2 h1 h6 h4
        · obtain ⟨u, hu⟩ : ∃ u, blkN l l.length (j + 6) = u := ⟨_, rfl⟩
          rw [hu] at h4 hb2
          by_cases h5 : (quoT l (u : Int)).2.2 = 0
          · obtain ⟨s, y, e0, hr⟩ : ∃ s y e0, quoT l (u : Int) = (s, y, e0) := ⟨_, _, _, rfl⟩
            have : e0 = 0 := by rw [hr] at h5; exact h5
            subst this
            rw [sysT_ok ((bbT_on quoT hu h4).trans hr)]
            exact rext_sysok l A n c j w hn hnc hm hn9 hj hs h2 h1 h6 u hu h4 (by omega) s y hr
          · rw [sysT_in (e := (quoT l (u : Int)).2.2) (by rw [bbT_on quoT hu h4]) h5]
            exact rext_syse l A n c j w hn hnc hm hn9 hj hs h2 h1 h6 u hu h4 (by omega) _ h5 (quoT_err l _ h5)
set_option maxHeartbeats 2000000 in
theorem ext_any (l : List UInt8) (A : Option Addr) (n c : Nat) (k : Int) (w : World) (hn : l.length = n) (hnc : n ≤ c) (hm : c ≤ 9223372036854775807) (hn9 : n ≤ 1000000) (hk : I64 k) (hs : Sees w A (vB l)) (ht : TabP w) :
    Calls Tryd.prog 38 #[.slice A n c, .int .i64 k] w fun e w' => e = .returned (exV (extT l k)) ∧ Below w.heap.size w w' := by
  have B0 := (Below.refl w.heap.size w).alloc (Nat.le_refl _) (.cells #[.string ⟨#[]⟩, .string ⟨#[]⟩] 59)
  have H := exread_any l A n c k (w.alloc (.cells #[.string ⟨#[]⟩, .string ⟨#[]⟩] 59)) hn hnc hm hn9 hk (hs.below B0) (ht.below B0)
  have R0 := Lib.hid (Two.new w (.string ⟨#[]⟩) (.string ⟨#[]⟩) 59 _ rfl)
  obtain ⟨p, s, y, e0, hx⟩ : ∃ p s y e0, extT l k = (p, s, y, e0) := ⟨_, _, _, _, rfl⟩
  rw [hx] at H ⊢
  unfold exV at H ⊢
  simp only at H ⊢
  have KH := Lib.hid H
  have HB0 := Lib.hid B0
  clear H hs ht hn hx B0
  go_enter Tryd.func38, Tryd.ntmps38
  go_wp2_with fail
  refine KH.out.mono ?_
  rintro e w1 ⟨rfl, hb⟩
  have hB1 := Lib.hid (HB0.out.trans (hb.mono (by simp)))
  have R1 := Lib.hid (R0.out.below hb)
  clear hb
  obtain ⟨r0, r1, q0, q1⟩ := R1.out.at
  obtain ⟨s0, s1, _, _⟩ := ((R1.out.set0 (strV p)).set1 (strV s)).at
  go_wp2_with fail
  (try simp only [Exit.inBlock, Exit.then])
  refine bodyPost_ret (by simp [results, Tryd.results38, go_sem, s0, s1]; first | rfl | done) rfl ?_
  exact ⟨rfl, (hB1.out.setCell (Nat.le_refl _) _).setCell (Nat.le_refl _) _⟩

/-- A block that is known whole. -/
def Blk (w : World) (b : Nat) (cs : Array Value) (T : TypeId) : Prop := w.heap[b]? = some (.cells cs T (0, 0))
theorem Blk.lt {w : World} {b : Nat} {cs : Array Value} {T : TypeId} (h : Blk w b cs T) : b < w.heap.size := (Array.getElem?_eq_some_iff.1 h).1
theorem Blk.below {w w' : World} {b : Nat} {cs : Array Value} {T : TypeId} (h : Blk w b cs T) (hb : Below w.heap.size w w') : Blk w' b cs T := (hb.block b h.lt).trans h
theorem Blk.new (w : World) (cs : Array Value) (T : TypeId) (b : Nat) (hb : w.heap.size = b) : Blk (w.alloc (.cells cs T)) b cs T := by
  subst hb; unfold Blk World.alloc; simp
theorem Blk.alloc {w : World} {b : Nat} {cs : Array Value} {T : TypeId} (h : Blk w b cs T) (o : Obj) : Blk (w.alloc o) b cs T := h.below ((Below.refl _ w).alloc (Nat.le_refl _) o)
theorem Blk.set {w : World} {b : Nat} {cs : Array Value} {T : TypeId} (h : Blk w b cs T) (i : Nat) (u : Value) : Blk (w.setCell ⟨b, i, none⟩ u) b (cs.setIfInBounds i u) T := Go.Joins.block_setCell h u
theorem Blk.far {w : World} {b b' o : Nat} {cs : Array Value} {T : TypeId} (h : Blk w b cs T) (hne : b ≠ b') (u : Value) : Blk (w.setCell ⟨b', o, none⟩ u) b cs T := by
  unfold Blk at h ⊢
  rw [Below.heap_setCell _ _ _ _ (by simpa using hne)]
  exact h
theorem Blk.at6 {w : World} {b : Nat} {v0 v1 v2 v3 v4 v5 : Value} {T : TypeId} (h : Blk w b #[v0, v1, v2, v3, v4, v5] T) : (w.cell? ⟨b, 0, none⟩ = some v0 ∧ w.cell? ⟨b, 1, none⟩ = some v1 ∧ w.cell? ⟨b, 2, none⟩ = some v2 ∧ w.cell? ⟨b, 3, none⟩ = some v3 ∧ w.cell? ⟨b, 4, none⟩ = some v4 ∧ w.cell? ⟨b, 5, none⟩ = some v5) ∧
    (w.frozen? ⟨b, 0, none⟩ = false ∧ w.frozen? ⟨b, 1, none⟩ = false ∧ w.frozen? ⟨b, 2, none⟩ = false ∧ w.frozen? ⟨b, 3, none⟩ = false ∧ w.frozen? ⟨b, 4, none⟩ = false ∧ w.frozen? ⟨b, 5, none⟩ = false) := by
  unfold Blk at h
  refine ⟨⟨?_, ?_, ?_, ?_, ?_, ?_⟩, ⟨?_, ?_, ?_, ?_, ?_, ?_⟩⟩ <;> simp [World.cell?, World.frozen?, h]
/-- Six cells of a block, stored one by one. -/
def set6 (w : World) (b : Nat) (u0 u1 u2 u3 u4 u5 : Value) : World := (((((w.setCell ⟨b, 0, none⟩ u0).setCell ⟨b, 1, none⟩ u1).setCell ⟨b, 2, none⟩ u2).setCell ⟨b, 3, none⟩ u3).setCell ⟨b, 4, none⟩ u4).setCell ⟨b, 5, none⟩ u5
theorem Blk.set6 {w : World} {b : Nat} {v0 v1 v2 v3 v4 v5 : Value} {T : TypeId} (h : Blk w b #[v0, v1, v2, v3, v4, v5] T) (u0 u1 u2 u3 u4 u5 : Value) : Blk (Proofs.YtdmfladcldkmeaaDoor.set6 w b u0 u1 u2 u3 u4 u5) b #[u0, u1, u2, u3, u4, u5] T :=
  (((((h.set 0 u0).set 1 u1).set 2 u2).set 3 u3).set 4 u4).set 5 u5
theorem below_set6 {B b : Nat} {a w : World} (h : Below B a w) (hb : B ≤ b) (u0 u1 u2 u3 u4 u5 : Value) : Below B a (set6 w b u0 u1 u2 u3 u4 u5) :=
  (((((h.setCell hb u0).setCell hb u1).setCell hb u2).setCell hb u3).setCell hb u4).setCell hb u5
end Go.Proofs.YtdmfladcldkmeaaDoor
namespace Go.Proofs.YtdmfladcldkmeaaDoor
open Go.ChangeShapes Go.WideShapes Go.ChangeAt Go.RowKit Go.Maps
set_option linter.unusedVariables false
set_option maxRecDepth 100000

theorem parsN_len (l : List UInt8) : ∀ f ps k, k ≤ l.length → ps.length ≤ k → (parsN l f ps k).1.length ≤ l.length
  | 0, ps, k, hk, h => Nat.le_trans h hk
  | f + 1, ps, k, hk, h => by
    rw [parsN]
    split
    · exact Nat.le_trans h hk
    · next h1 =>
      split
      · simp
      · next h2 =>
        split
        · simp
        · next h3 =>
          have hb := blkN_le l l.length k hk
          obtain ⟨s, v, b, hp, h4, h5, _, _⟩ := pair_go hb.2 (by simpa using h2)
          rw [hp]
          simp only [Int.toNat_natCast]
          exact parsN_len l f _ b h5 (by rw [List.length_append]; simp; omega)
theorem parsT_len (l : List UInt8) (k : Int) : (parsT l k).1.length ≤ l.length := by
  unfold parsT
  split
  · simp
  · exact parsN_len l _ [] _ (by omega) (by simp)
theorem openT_len (l : List UInt8) (k : Int) : (openT l k).2.1.length ≤ l.length := by
  have := parsT_len l (begT l k [60]).2.1
  unfold openT
  split
  · simp [noG]
  · split
    · simp [noG]
    · unfold tailT
      split
      · exact this
      · split
        · exact this
        · simp [noG]
theorem ot1 : openT [60, 97, 32, 98, 61, 39, 99, 39, 32, 47, 62] 0 = ([97], [([98], [99])], true, 11, 0) := by kernel_rfl
theorem ot2 : openT [60, 97, 32, 98, 61, 39, 49, 39, 32, 98, 61, 39, 50, 39, 62] 0 = ([], [], false, 0, 12) := by kernel_rfl
theorem pair_lit (w : World) (s v : List UInt8) (t : TypeId) : ∀ k p, ([(s, v)] : Prs)[k]? = some p → (w.alloc (.cells #[strV s, strV v] t)).cell? ⟨w.heap.size, k * 2, none⟩ = some (strV p.1) ∧ (w.alloc (.cells #[strV s, strV v] t)).cell? ⟨w.heap.size, k * 2 + 1, none⟩ = some (strV p.2) := by
  intro k p h
  cases k with
  | zero =>
    obtain rfl : (s, v) = p := by simpa using h
    exact ⟨by simp [World.cell?_alloc_new], by simp [World.cell?_alloc_new]⟩
  | succ k => simp at h

theorem const_at2 (w : World) (o : Obj) (C : Array Value) (n c : Nat) : (convert 36 36 (.slice (some ⟨w.heap.size + 1, 0, none⟩) n c)).run Tryd.prog ((w.alloc o).alloc (.cells C 5)) = .ok (.slice (some ⟨w.heap.size + 1, 0, none⟩) n c) ((w.alloc o).alloc (.cells C 5 (C.size, C.size + 1))) := by
  have h := Lib.run_convert_bytes_const (P := Tryd.prog) (w.alloc o) 36 5 C n c Tryd.underlying36 Tryd.underlying5
  rwa [World.size_alloc] at h
set_option maxHeartbeats 2000000 in
theorem live10_any (w : World) (ht : TabC w) : Calls Tryd.prog 16 #[] w fun e w' => e = .returned (.bool true) ∧ Below w.heap.size w w' := by
  have H1 := open_any [60, 97, 32, 98, 61, 39, 99, 39, 32, 47, 62] (some ⟨w.heap.size, 0, none⟩) 11 11 0 (w.alloc (.cells (vB [60, 97, 32, 98, 61, 39, 99, 39, 32, 47, 62]).toArray 5 (11, 12))) rfl (by omega) (by omega) (by omega) ⟨by omega, by omega⟩
    (sees_lit w _ _ _) (ht.below ((Below.refl _ w).alloc (Nat.le_refl _) _))
  have kc2 := const_at2
  have H2 := fun (w' : World) (B : Nat) (hB : w'.heap.size = B) (hb : Below w.heap.size w w') => open_any [60, 97, 32, 98, 61, 39, 49, 39, 32, 98, 61, 39, 50, 39, 62] (some ⟨B, 0, none⟩) 15 15 0 (w'.alloc (.cells (vB [60, 97, 32, 98, 61, 39, 49, 39, 32, 98, 61, 39, 50, 39, 62]).toArray 5 (15, 16))) rfl (by omega) (by omega) (by omega) ⟨by omega, by omega⟩
    (hB ▸ sees_lit w' _ _ _) (ht.below (hb.alloc hb.size _))
  rw [ot1] at H1
  rw [ot2] at H2
  have K1 := Lib.hid H1
  have K2 := Lib.hid H2
  have hb0 : Below w.heap.size w (w.alloc (.cells (vB [60, 97, 32, 98, 61, 39, 99, 39, 32, 47, 62]).toArray 5 (11, 12))) := (Below.refl _ w).alloc (Nat.le_refl _) _
  have kc := fun (w : World) (C : Array Value) (n c : Nat) => Lib.run_convert_bytes_const (P := Tryd.prog) w 36 5 C n c Tryd.underlying36 Tryd.underlying5
  clear H1 H2 ht
  go_enter Tryd.func16, Tryd.ntmps16
  go_wp2_with fail
  refine K1.out.mono ?_
  rintro e w1 ⟨v, rfl, hown, hb1⟩
  have hb1' := hb0.trans (hb1.mono (by simp))
  rcases q_form hown rfl with ⟨_, h0⟩ | ⟨g1, c1, rfl, hg1, _, hc1⟩
  · exact absurd h0 (by simp)
  have HC1 := Lib.hid hc1
  clear hown hc1
  go_wp2_with fail
  have hbT := hb1'.alloc hb1'.size (.cells #[strV [97], .slice (some ⟨g1, 0, none⟩) 1 c1, .bool true] 30)
  have hcell : ∀ w', Below (w1.heap.size + 1) (w1.alloc (.cells #[strV [97], .slice (some ⟨g1, 0, none⟩) 1 c1, .bool true] 30)) w' → w'.cell? ⟨w1.heap.size, 0, none⟩ = some (strV [97]) ∧ w'.cell? ⟨w1.heap.size, 1, none⟩ = some (.slice (some ⟨g1, 0, none⟩) 1 c1) ∧ w'.cell? ⟨w1.heap.size, 2, none⟩ = some (.bool true) := fun w' h =>
    ⟨(h.cell (by simp)).trans (by simp [World.cell?_alloc_new]), (h.cell (by simp)).trans (by simp [World.cell?_alloc_new]), (h.cell (by simp)).trans (by simp [World.cell?_alloc_new])⟩
  have HCELL := Lib.hid hcell
  clear hcell
  refine (K2.out _ (w1.heap.size + 1) (by simp) hbT).mono ?_
  rintro e w2 ⟨v2, rfl, hown2, hb2⟩
  have hbU : Below (w1.heap.size + 1) (w1.alloc (.cells #[strV [97], .slice (some ⟨g1, 0, none⟩) 1 c1, .bool true] 30)) w2 := ((Below.refl _ _).alloc (by simp) _).trans (hb2.mono (by simp))
  have hb2' : Below w.heap.size w w2 := hbT.trans (hbU.mono (by have := hb1'.size; omega))
  obtain ⟨A2, c2, rfl⟩ := row_slice hown2
  have hb3 := hb2'.alloc hb2'.size (.cells #[.string ⟨#[]⟩, .slice A2 0 c2, .bool false] 30)
  have hb4 := hb3.alloc hb3.size (.cells #[strV [98], strV [99]] 41)
  have hsz2 : w1.heap.size + 1 ≤ w2.heap.size := by have h9 := hb2.size; simp at h9; omega
  have hU3 := hbU.alloc hsz2 (.cells #[.string ⟨#[]⟩, .slice A2 0 c2, .bool false] 30)
  obtain ⟨x0, x1, x2⟩ := HCELL.out _ hU3
  have hU4 := hU3.alloc (Nat.le_trans hsz2 (by simp)) (.cells #[strV [98], strV [99]] 41)
  have hV4 : Below w1.heap.size w1 _ := ((Below.refl w1.heap.size w1).alloc (Nat.le_refl _) (.cells #[strV [97], .slice (some ⟨g1, 0, none⟩) 1 c1, .bool true] 30)).trans (hU4.mono (Nat.le_succ _))
  have hlit := pair_lit (w2.alloc (.cells #[.string ⟨#[]⟩, .slice A2 0 c2, .bool false] 30)) [98] [99] 41
  rw [World.size_alloc] at hlit
  have HSM := Lib.hid (rsameP_some [([98], [99])] 1 g1 (w2.heap.size + 1) c1 1 _ rfl (by omega) (fun k p hp => ⟨cell_later hV4 (HC1.out k p hp).1, cell_later hV4 (HC1.out k p hp).2⟩) hlit)
  have hsz4 := hU4.size
  clear hlit hV4
  go_wp2_with fail
  refine HSM.out.mono ?_
  rintro e w4 ⟨rfl, hb5⟩
  obtain ⟨y0, y1, y2⟩ := HCELL.out _ (hU4.trans (hb5.mono (by simp; omega)))
  clear x0 x1 x2
  go_wp2_with fail
  go_ret
  exact ⟨rfl, hb4.trans (hb5.mono hb4.size)⟩
end Go.Proofs.YtdmfladcldkmeaaDoor
namespace Go.Proofs.YtdmfladcldkmeaaDoor
open Go.ChangeShapes Go.WideShapes Go.ChangeAt Go.RowKit
set_option linter.unusedVariables false
set_option maxRecDepth 100000

def DocPost (x : Hd) (W : World) (e : Ending) (w' : World) : Prop := e = .returned (hdV x) ∧ Below W.heap.size W w'
theorem name_bbT (l : List UInt8) (A : Option Addr) (n c i : Nat) (k : Int) (w : World) (hk : k = (i : Nat)) {s : List UInt8} {y e0 : Int} (hq : bbT nmT l i = (s, y, e0)) (hn : l.length = n) (hnc : n ≤ c) (hm : c ≤ 9223372036854775807) (hn9 : n ≤ 1000000) (hi : i ≤ n) (hs : Sees w A (vB l)) (ht : TabN w) :
    Calls Tryd.prog 78 #[.slice A n c, .int .i64 k, .func (.func 79) #[] #[]] w fun e w' => e = .returned (.tuple #[strV s, .int .i64 y, .int .i64 e0]) ∧ Below w.heap.size w w' := by
  subst hk
  have h := bb_any 79 nmT l A n c i w hn hnc hn9 hi hs enters_name (fun w' k hb hk => by
    have h := name_any l A n c (k : Int) w' hn hnc hm ⟨by omega, by omega⟩ (hs.below hb) (ht.below hb)
    rw [readV_tr] at h
    exact h)
  rw [hq] at h
  exact h
set_option maxHeartbeats 4000000 in
theorem doc_out (l : List UInt8) (A : Option Addr) (n c : Nat) (k : Int) (w : World) (hk : I64 k) (h : k < 0 ∨ (n : Int) < k) :
    Calls Tryd.prog 34 #[.slice A n c, .int .i64 k] w (DocPost (noH 3) w) := by
  have hkl := hk.1
  have hkh := hk.2
  have HP := Lib.hid (show ∀ v W', v = hdV (noH 3) → Below w.heap.size w W' → DocPost (noH 3) w (.returned v) W' from fun v W' hv hb => ⟨by rw [hv], hb⟩)
  obtain ⟨⟨r0, r1, r2, r3, r4, r5⟩, ⟨q0, q1, q2, q3, q4, q5⟩⟩ := (Blk.new w #[.bool false, .string ⟨#[]⟩, .string ⟨#[]⟩, .string ⟨#[]⟩, .bool false, .bool false] 61 _ rfl).at6
  rcases h with h | h
  all_goals
    go_enter Tryd.func34, Tryd.ntmps34
    go_wp2_with fail
    (try simp only [Exit.inBlock, Exit.then])
    refine bodyPost_ret (by simp [results, Tryd.results34, go_sem]; first | rfl | done) rfl (HP.out _ _ rfl ?_)
    exact (Below.refl _ w).alloc (Nat.le_refl _) _

set_option maxHeartbeats 16000000 in
theorem doc_not (l : List UInt8) (A : Option Addr) (n c j : Nat) (w : World) (hn : l.length = n) (hnc : n ≤ c) (hm : c ≤ 9223372036854775807) (hn9 : n ≤ 1000000) (hj : j ≤ n) (hs : Sees w A (vB l)) (ht : TabN w) (hP : TabP w) (hpre : atB l (j : Int) dtW = false) :
    Calls Tryd.prog 34 #[.slice A n c, .int .i64 (j : Int)] w (DocPost (⟨false, [], [], [], false, false, j, 0⟩) w) := by
  have hbA := ((Below.refl _ w).alloc (Nat.le_refl _) (.cells #[.bool false, .string ⟨#[]⟩, .string ⟨#[]⟩, .string ⟨#[]⟩, .bool false, .bool false] 61)).alloc (by simp) (.cells (vB dtW).toArray 5 (9, 10))
  have R0 := (Blk.new w #[.bool false, .string ⟨#[]⟩, .string ⟨#[]⟩, .string ⟨#[]⟩, .bool false, .bool false] 61 _ rfl).alloc (.cells (vB dtW).toArray 5 (9, 10))
  have i0 : (0 : Int) ≤ (j : Int) := by omega
  have i1 : (j : Int) ≤ (n : Int) := by omega
  have HSL := fun (W : World) => slice_from W A n c j hj
  obtain ⟨A2, hA2⟩ : ∃ A2, tailA A c j = A2 := ⟨_, rfl⟩
  rw [hA2] at HSL
  have kc2 := const_at2
  have KPre := pre_const (l.drop j) dtW A2 (n - j) (c - j) 9 (w.alloc (.cells #[.bool false, .string ⟨#[]⟩, .string ⟨#[]⟩, .string ⟨#[]⟩, .bool false, .bool false] 61)) (w.heap.size + 1) (9, 10) (by rw [List.length_drop, hn]) (by omega) (by omega) rfl (by omega) (by omega) (by simp) (hA2 ▸ sees_tail (hs.below ((Below.refl _ w).alloc (Nat.le_refl _) _)) (by omega) j)
  rw [show ((l.drop j).take 9 == dtW) = atB l (j : Int) dtW from (atB_take l dtW j).symm, hpre] at KPre
  rw [show (vB dtW).toArray = #[.int .u8 60, .int .u8 33, .int .u8 68, .int .u8 79, .int .u8 67, .int .u8 84, .int .u8 89, .int .u8 80, .int .u8 69] from rfl] at hbA R0 KPre
  obtain ⟨W2, hW2⟩ : ∃ W2, (w.alloc (.cells #[.bool false, .string ⟨#[]⟩, .string ⟨#[]⟩, .string ⟨#[]⟩, .bool false, .bool false] 61)).alloc (.cells #[.int .u8 60, .int .u8 33, .int .u8 68, .int .u8 79, .int .u8 67, .int .u8 84, .int .u8 89, .int .u8 80, .int .u8 69] 5 (9, 10)) = W2 := ⟨_, rfl⟩
  have HW2 := Lib.hid hW2
  rw [hW2] at hbA R0 KPre
  have hB2 := Lib.hid hbA
  have R2 := Lib.hid R0
  have LPre := Lib.hid KPre
  have HP := Lib.hid (show ∀ v W', v = hdV (⟨false, [], [], [], false, false, j, 0⟩) → Below w.heap.size w W' → DocPost (⟨false, [], [], [], false, false, j, 0⟩) w (.returned v) W' from fun v W' hv hb => ⟨by rw [hv], hb⟩)
  clear hs ht hP hn hbA R0 hA2 hW2 KPre hpre 
  go_enter Tryd.func34, Tryd.ntmps34
  go_wp2_with fail
  rw [HW2.out]
  clear HW2
  refine LPre.out.mono ?_
  rintro e w' ⟨rfl, rfl⟩
  obtain ⟨⟨r0, r1, r2, r3, r4, r5⟩, ⟨q0, q1, q2, q3, q4, q5⟩⟩ := R2.out.at6
  obtain ⟨⟨s0, s1, s2, s3, s4, s5⟩, _⟩ := (R2.out.set6 (.bool false) (.string ⟨#[]⟩) (.string ⟨#[]⟩) (.string ⟨#[]⟩) (.bool false) (.bool false)).at6
  unfold set6 at s0 s1 s2 s3 s4 s5
  go_wp2_with fail
  (try simp only [Exit.inBlock, Exit.then])
  refine bodyPost_ret (by simp [results, Tryd.results34, go_sem, s0, s1, s2, s3, s4, s5]; first | rfl | done) rfl (HP.out _ _ rfl ?_)
  exact below_set6 (hB2.out) (Nat.le_refl _) _ _ _ _ _ _

set_option maxHeartbeats 16000000 in
theorem doc_nme (l : List UInt8) (A : Option Addr) (n c j : Nat) (w : World) (hn : l.length = n) (hnc : n ≤ c) (hm : c ≤ 9223372036854775807) (hn9 : n ≤ 1000000) (hj : j ≤ n) (hs : Sees w A (vB l)) (ht : TabN w) (hP : TabP w) (hpre : atB l (j : Int) dtW = true) (h9 : j + 9 ≤ n) (e0 : Int) (h0 : e0 ≠ 0) (hnm : bbT nmT l (j + 9) = noT e0) :
    Calls Tryd.prog 34 #[.slice A n c, .int .i64 (j : Int)] w (DocPost (noH e0) w) := by
  have hbA := ((Below.refl _ w).alloc (Nat.le_refl _) (.cells #[.bool false, .string ⟨#[]⟩, .string ⟨#[]⟩, .string ⟨#[]⟩, .bool false, .bool false] 61)).alloc (by simp) (.cells (vB dtW).toArray 5 (9, 10))
  have R0 := (Blk.new w #[.bool false, .string ⟨#[]⟩, .string ⟨#[]⟩, .string ⟨#[]⟩, .bool false, .bool false] 61 _ rfl).alloc (.cells (vB dtW).toArray 5 (9, 10))
  have i0 : (0 : Int) ≤ (j : Int) := by omega
  have i1 : (j : Int) ≤ (n : Int) := by omega
  have HSL := fun (W : World) => slice_from W A n c j hj
  obtain ⟨A2, hA2⟩ : ∃ A2, tailA A c j = A2 := ⟨_, rfl⟩
  rw [hA2] at HSL
  have kc2 := const_at2
  have KPre := pre_const (l.drop j) dtW A2 (n - j) (c - j) 9 (w.alloc (.cells #[.bool false, .string ⟨#[]⟩, .string ⟨#[]⟩, .string ⟨#[]⟩, .bool false, .bool false] 61)) (w.heap.size + 1) (9, 10) (by rw [List.length_drop, hn]) (by omega) (by omega) rfl (by omega) (by omega) (by simp) (hA2 ▸ sees_tail (hs.below ((Below.refl _ w).alloc (Nat.le_refl _) _)) (by omega) j)
  rw [show ((l.drop j).take 9 == dtW) = atB l (j : Int) dtW from (atB_take l dtW j).symm, hpre] at KPre
  rw [show (vB dtW).toArray = #[.int .u8 60, .int .u8 33, .int .u8 68, .int .u8 79, .int .u8 67, .int .u8 84, .int .u8 89, .int .u8 80, .int .u8 69] from rfl] at hbA R0 KPre
  obtain ⟨W2, hW2⟩ : ∃ W2, (w.alloc (.cells #[.bool false, .string ⟨#[]⟩, .string ⟨#[]⟩, .string ⟨#[]⟩, .bool false, .bool false] 61)).alloc (.cells #[.int .u8 60, .int .u8 33, .int .u8 68, .int .u8 79, .int .u8 67, .int .u8 84, .int .u8 89, .int .u8 80, .int .u8 69] 5 (9, 10)) = W2 := ⟨_, rfl⟩
  have HW2 := Lib.hid hW2
  rw [hW2] at hbA R0 KPre
  have hB2 := Lib.hid hbA
  have R2 := Lib.hid R0
  have LPre := Lib.hid KPre
  have HP := Lib.hid (show ∀ v W', v = hdV (noH e0) → Below w.heap.size w W' → DocPost (noH e0) w (.returned v) W' from fun v W' hv hb => ⟨by rw [hv], hb⟩)
  have LN := Lib.hid (fun (w' : World) (hb : Below w.heap.size w w') => name_bbT l A n c (j + 9) ((j : Int) + 9) w' (by omega) hnm hn hnc hm hn9 h9 (hs.below hb) (ht.below hb))
  have t0 : (e0 != 0) = true := by simpa using h0
  clear hs ht hP hn hbA R0 hA2 hW2 KPre hpre hnm h0
  go_enter Tryd.func34, Tryd.ntmps34
  go_wp2_with fail
  rw [HW2.out]
  clear HW2
  refine LPre.out.mono ?_
  rintro e w' ⟨rfl, rfl⟩
  go_wp2_with fail
  refine (LN.out W2 hB2.out).mono ?_
  rintro e w3 ⟨rfl, hb3⟩
  have hB3 := Lib.hid (hB2.out.trans (hb3.mono hB2.out.size))
  have R3 := Lib.hid (R2.out.below hb3)
  clear hb3
  obtain ⟨⟨r0, r1, r2, r3, r4, r5⟩, ⟨q0, q1, q2, q3, q4, q5⟩⟩ := R3.out.at6
  obtain ⟨⟨s0, s1, s2, s3, s4, s5⟩, _⟩ := (R3.out.set6 (.bool false) (.string ⟨#[]⟩) (.string ⟨#[]⟩) (.string ⟨#[]⟩) (.bool false) (.bool false)).at6
  unfold set6 at s0 s1 s2 s3 s4 s5
  go_wp2_with fail
  (try simp only [Exit.inBlock, Exit.then])
  refine bodyPost_ret (by simp [results, Tryd.results34, go_sem, s0, s1, s2, s3, s4, s5]; first | rfl | done) rfl (HP.out _ _ rfl ?_)
  exact below_set6 (hB3.out) (Nat.le_refl _) _ _ _ _ _ _
end Go.Proofs.YtdmfladcldkmeaaDoor
namespace Go.Proofs.YtdmfladcldkmeaaDoor
open Go.ChangeShapes Go.WideShapes Go.ChangeAt Go.RowKit
set_option linter.unusedVariables false
set_option maxRecDepth 100000

theorem byte_at {w : World} {ad : Addr} {l : List UInt8} (h : Sees w (some ad) (vB l)) {k : Nat} (hk : k < l.length) : w.cell? (ad.add k) = some (.int .u8 (byteAt l k : Int)) := by
  obtain ⟨ad', e, hc⟩ := h.byte hk
  injection e with e
  subst e
  exact hc

set_option maxHeartbeats 16000000 in
theorem doc_no_c1_len (l : List UInt8) (A : Option Addr) (n c j : Nat) (w : World) (hn : l.length = n) (hnc : n ≤ c) (hm : c ≤ 9223372036854775807) (hn9 : n ≤ 1000000) (hj : j ≤ n) (hs : Sees w A (vB l)) (ht : TabN w) (hP : TabP w) (hpre : atB l (j : Int) dtW = true) (h9 : j + 9 ≤ n) (key : List UInt8) (z q : Nat) (hz : 0 < z) (hzn : z ≤ n) (hnm : bbT nmT l (j + 9) = (key, (z : Int), 0)) (hbk : blkN l l.length z = q) (hf : q = z) (hqn : q = n) :
    Calls Tryd.prog 34 #[.slice A n c, .int .i64 (j : Int)] w (DocPost (noH 7) w) := by
  have hbA := ((Below.refl _ w).alloc (Nat.le_refl _) (.cells #[.bool false, .string ⟨#[]⟩, .string ⟨#[]⟩, .string ⟨#[]⟩, .bool false, .bool false] 61)).alloc (by simp) (.cells (vB dtW).toArray 5 (9, 10))
  have R0 := (Blk.new w #[.bool false, .string ⟨#[]⟩, .string ⟨#[]⟩, .string ⟨#[]⟩, .bool false, .bool false] 61 _ rfl).alloc (.cells (vB dtW).toArray 5 (9, 10))
  have i0 : (0 : Int) ≤ (j : Int) := by omega
  have i1 : (j : Int) ≤ (n : Int) := by omega
  have HSL := fun (W : World) => slice_from W A n c j hj
  obtain ⟨A2, hA2⟩ : ∃ A2, tailA A c j = A2 := ⟨_, rfl⟩
  rw [hA2] at HSL
  have kc2 := const_at2
  have KPre := pre_const (l.drop j) dtW A2 (n - j) (c - j) 9 (w.alloc (.cells #[.bool false, .string ⟨#[]⟩, .string ⟨#[]⟩, .string ⟨#[]⟩, .bool false, .bool false] 61)) (w.heap.size + 1) (9, 10) (by rw [List.length_drop, hn]) (by omega) (by omega) rfl (by omega) (by omega) (by simp) (hA2 ▸ sees_tail (hs.below ((Below.refl _ w).alloc (Nat.le_refl _) _)) (by omega) j)
  rw [show ((l.drop j).take 9 == dtW) = atB l (j : Int) dtW from (atB_take l dtW j).symm, hpre] at KPre
  rw [show (vB dtW).toArray = #[.int .u8 60, .int .u8 33, .int .u8 68, .int .u8 79, .int .u8 67, .int .u8 84, .int .u8 89, .int .u8 80, .int .u8 69] from rfl] at hbA R0 KPre
  obtain ⟨W2, hW2⟩ : ∃ W2, (w.alloc (.cells #[.bool false, .string ⟨#[]⟩, .string ⟨#[]⟩, .string ⟨#[]⟩, .bool false, .bool false] 61)).alloc (.cells #[.int .u8 60, .int .u8 33, .int .u8 68, .int .u8 79, .int .u8 67, .int .u8 84, .int .u8 89, .int .u8 80, .int .u8 69] 5 (9, 10)) = W2 := ⟨_, rfl⟩
  have HW2 := Lib.hid hW2
  rw [hW2] at hbA R0 KPre
  have hB2 := Lib.hid hbA
  have R2 := Lib.hid R0
  have LPre := Lib.hid KPre
  have HP := Lib.hid (show ∀ v W', v = hdV (noH 7) → Below w.heap.size w W' → DocPost (noH 7) w (.returned v) W' from fun v W' hv hb => ⟨by rw [hv], hb⟩)
  obtain ⟨ad, rfl, _⟩ := hs.byte (k := 0) (by omega)
  have HC := Lib.hid (fun (w' : World) (hb : Below w.heap.size w w') (i : Nat) (hi : i < n) => byte_at (hs.below hb) (k := i) (by omega))
  have LN := Lib.hid (fun (w' : World) (hb : Below w.heap.size w w') => name_bbT l (some ad) n c (j + 9) ((j : Int) + 9) w' (by omega) hnm hn hnc hm hn9 h9 (hs.below hb) (ht.below hb))
  have KB := fun (w' : World) (hb : Below w.heap.size w w') (i q : Nat) (hi : i ≤ n) (hq : blkN l l.length i = q) => (show Calls Tryd.prog 65 #[.slice (some ad) n c, .int .i64 (i : Int)] w' fun e w'' => e = .returned (.int .i64 (q : Int)) ∧ w' = w'' from by
    have h := blanks_any l (some ad) n c (i : Int) w' hn hnc (by omega) ⟨by omega, by omega⟩ (hs.below hb); rw [blkV_in (by omega), hq] at h; exact h)
  have LB := Lib.hid (fun (w' : World) (hb : Below w.heap.size w w') => KB w' hb z q hzn hbk)
  have tg : ¬ (z : Int) < (q : Int) := by omega
  have tn : ((q : Int) == (n : Int)) = true := by rw [beq_iff_eq]; omega
  clear hs ht hP hn hbA R0 hA2 hW2 KPre hpre KB hnm hbk hf
  go_enter Tryd.func34, Tryd.ntmps34
  go_wp2_with fail
  rw [HW2.out]
  clear HW2
  refine LPre.out.mono ?_
  rintro e w' ⟨rfl, rfl⟩
  go_wp2_with fail
  refine (LN.out W2 hB2.out).mono ?_
  rintro e w3 ⟨rfl, hb3⟩
  have hB3 := Lib.hid (hB2.out.trans (hb3.mono hB2.out.size))
  have R3 := Lib.hid (R2.out.below hb3)
  clear hb3
  have hlt := R3.out.lt
  have hB4 := hB3.out.alloc hB3.out.size (.cells #[.bool true, strV key, .string ⟨#[]⟩, .string ⟨#[]⟩, .bool false, .bool false] 61)
  have R4 := R3.out.alloc (.cells #[.bool true, strV key, .string ⟨#[]⟩, .string ⟨#[]⟩, .bool false, .bool false] 61)
  have H4 := Blk.new w3 #[.bool true, strV key, .string ⟨#[]⟩, .string ⟨#[]⟩, .bool false, .bool false] 61 _ rfl
  obtain ⟨W4, hW4⟩ : ∃ W4, w3.alloc (.cells #[.bool true, strV key, .string ⟨#[]⟩, .string ⟨#[]⟩, .bool false, .bool false] 61) = W4 := ⟨_, rfl⟩
  rw [hW4] at hB4 R4 H4
  have HW4 := Lib.hid hW4
  have hB4 := Lib.hid hB4
  have R4 := Lib.hid R4
  have H4 := Lib.hid H4
  have hle := Lib.hid (show w.heap.size ≤ w3.heap.size by omega)
  clear hW4
  go_wp2_with fail
  rw [HW4.out]
  clear HW4
  refine (LB.out W4 hB4.out).mono ?_
  rintro e w' ⟨rfl, rfl⟩
  go_wp2_with fail
  refine (LB.out W4 hB4.out).mono ?_
  rintro e w' ⟨rfl, rfl⟩
  obtain ⟨⟨r0, r1, r2, r3, r4, r5⟩, ⟨q0, q1, q2, q3, q4, q5⟩⟩ := R4.out.at6
  obtain ⟨⟨x0, x1, x2, x3, x4, x5⟩, ⟨v0, v1, v2, v3, v4, v5⟩⟩ := H4.out.at6
  obtain ⟨⟨s0, s1, s2, s3, s4, s5⟩, _⟩ := (R4.out.set6 (.bool false) (.string ⟨#[]⟩) (.string ⟨#[]⟩) (.string ⟨#[]⟩) (.bool false) (.bool false)).at6
  unfold set6 at s0 s1 s2 s3 s4 s5
  go_wp2_with fail
  (try simp only [Exit.inBlock, Exit.then])
  refine bodyPost_ret (by simp [results, Tryd.results34, go_sem, s0, s1, s2, s3, s4, s5]; first | rfl | done) rfl (HP.out _ _ rfl ?_)
  exact below_set6 (hB4.out) (Nat.le_refl _) _ _ _ _ _ _

set_option maxHeartbeats 16000000 in
theorem doc_no_c1_oth (l : List UInt8) (A : Option Addr) (n c j : Nat) (w : World) (hn : l.length = n) (hnc : n ≤ c) (hm : c ≤ 9223372036854775807) (hn9 : n ≤ 1000000) (hj : j ≤ n) (hs : Sees w A (vB l)) (ht : TabN w) (hP : TabP w) (hpre : atB l (j : Int) dtW = true) (h9 : j + 9 ≤ n) (key : List UInt8) (z q : Nat) (hz : 0 < z) (hzn : z ≤ n) (hnm : bbT nmT l (j + 9) = (key, (z : Int), 0)) (hbk : blkN l l.length z = q) (hf : q = z) (hqn : q < n) (hb1 : byteAt l q ≠ 91) (hb2 : byteAt l q ≠ 62) :
    Calls Tryd.prog 34 #[.slice A n c, .int .i64 (j : Int)] w (DocPost (noH 7) w) := by
  have hbA := ((Below.refl _ w).alloc (Nat.le_refl _) (.cells #[.bool false, .string ⟨#[]⟩, .string ⟨#[]⟩, .string ⟨#[]⟩, .bool false, .bool false] 61)).alloc (by simp) (.cells (vB dtW).toArray 5 (9, 10))
  have R0 := (Blk.new w #[.bool false, .string ⟨#[]⟩, .string ⟨#[]⟩, .string ⟨#[]⟩, .bool false, .bool false] 61 _ rfl).alloc (.cells (vB dtW).toArray 5 (9, 10))
  have i0 : (0 : Int) ≤ (j : Int) := by omega
  have i1 : (j : Int) ≤ (n : Int) := by omega
  have HSL := fun (W : World) => slice_from W A n c j hj
  obtain ⟨A2, hA2⟩ : ∃ A2, tailA A c j = A2 := ⟨_, rfl⟩
  rw [hA2] at HSL
  have kc2 := const_at2
  have KPre := pre_const (l.drop j) dtW A2 (n - j) (c - j) 9 (w.alloc (.cells #[.bool false, .string ⟨#[]⟩, .string ⟨#[]⟩, .string ⟨#[]⟩, .bool false, .bool false] 61)) (w.heap.size + 1) (9, 10) (by rw [List.length_drop, hn]) (by omega) (by omega) rfl (by omega) (by omega) (by simp) (hA2 ▸ sees_tail (hs.below ((Below.refl _ w).alloc (Nat.le_refl _) _)) (by omega) j)
  rw [show ((l.drop j).take 9 == dtW) = atB l (j : Int) dtW from (atB_take l dtW j).symm, hpre] at KPre
  rw [show (vB dtW).toArray = #[.int .u8 60, .int .u8 33, .int .u8 68, .int .u8 79, .int .u8 67, .int .u8 84, .int .u8 89, .int .u8 80, .int .u8 69] from rfl] at hbA R0 KPre
  obtain ⟨W2, hW2⟩ : ∃ W2, (w.alloc (.cells #[.bool false, .string ⟨#[]⟩, .string ⟨#[]⟩, .string ⟨#[]⟩, .bool false, .bool false] 61)).alloc (.cells #[.int .u8 60, .int .u8 33, .int .u8 68, .int .u8 79, .int .u8 67, .int .u8 84, .int .u8 89, .int .u8 80, .int .u8 69] 5 (9, 10)) = W2 := ⟨_, rfl⟩
  have HW2 := Lib.hid hW2
  rw [hW2] at hbA R0 KPre
  have hB2 := Lib.hid hbA
  have R2 := Lib.hid R0
  have LPre := Lib.hid KPre
  have HP := Lib.hid (show ∀ v W', v = hdV (noH 7) → Below w.heap.size w W' → DocPost (noH 7) w (.returned v) W' from fun v W' hv hb => ⟨by rw [hv], hb⟩)
  obtain ⟨ad, rfl, _⟩ := hs.byte (k := 0) (by omega)
  have HC := Lib.hid (fun (w' : World) (hb : Below w.heap.size w w') (i : Nat) (hi : i < n) => byte_at (hs.below hb) (k := i) (by omega))
  have LN := Lib.hid (fun (w' : World) (hb : Below w.heap.size w w') => name_bbT l (some ad) n c (j + 9) ((j : Int) + 9) w' (by omega) hnm hn hnc hm hn9 h9 (hs.below hb) (ht.below hb))
  have KB := fun (w' : World) (hb : Below w.heap.size w w') (i q : Nat) (hi : i ≤ n) (hq : blkN l l.length i = q) => (show Calls Tryd.prog 65 #[.slice (some ad) n c, .int .i64 (i : Int)] w' fun e w'' => e = .returned (.int .i64 (q : Int)) ∧ w' = w'' from by
    have h := blanks_any l (some ad) n c (i : Int) w' hn hnc (by omega) ⟨by omega, by omega⟩ (hs.below hb); rw [blkV_in (by omega), hq] at h; exact h)
  have LB := Lib.hid (fun (w' : World) (hb : Below w.heap.size w w') => KB w' hb z q hzn hbk)
  have tg : ¬ (z : Int) < (q : Int) := by omega
  have tn : ((q : Int) == (n : Int)) = false := by rw [beq_eq_false_iff_ne]; omega
  have tl : (q : Int) < (n : Int) := by omega
  have tl0 : (0 : Int) ≤ (q : Int) := by omega
  have tb1 : ((byteAt l q : Int) != 91) = true := by simp; omega
  have tb2 : ((byteAt l q : Int) != 62) = true := by simp; omega
  clear hs ht hP hn hbA R0 hA2 hW2 KPre hpre KB hnm hbk hf
  go_enter Tryd.func34, Tryd.ntmps34
  go_wp2_with fail
  rw [HW2.out]
  clear HW2
  refine LPre.out.mono ?_
  rintro e w' ⟨rfl, rfl⟩
  go_wp2_with fail
  refine (LN.out W2 hB2.out).mono ?_
  rintro e w3 ⟨rfl, hb3⟩
  have hB3 := Lib.hid (hB2.out.trans (hb3.mono hB2.out.size))
  have R3 := Lib.hid (R2.out.below hb3)
  clear hb3
  have hlt := R3.out.lt
  have hB4 := hB3.out.alloc hB3.out.size (.cells #[.bool true, strV key, .string ⟨#[]⟩, .string ⟨#[]⟩, .bool false, .bool false] 61)
  have R4 := R3.out.alloc (.cells #[.bool true, strV key, .string ⟨#[]⟩, .string ⟨#[]⟩, .bool false, .bool false] 61)
  have H4 := Blk.new w3 #[.bool true, strV key, .string ⟨#[]⟩, .string ⟨#[]⟩, .bool false, .bool false] 61 _ rfl
  obtain ⟨W4, hW4⟩ : ∃ W4, w3.alloc (.cells #[.bool true, strV key, .string ⟨#[]⟩, .string ⟨#[]⟩, .bool false, .bool false] 61) = W4 := ⟨_, rfl⟩
  rw [hW4] at hB4 R4 H4
  have HW4 := Lib.hid hW4
  have hB4 := Lib.hid hB4
  have R4 := Lib.hid R4
  have H4 := Lib.hid H4
  have hle := Lib.hid (show w.heap.size ≤ w3.heap.size by omega)
  clear hW4
  go_wp2_with fail
  rw [HW4.out]
  clear HW4
  refine (LB.out W4 hB4.out).mono ?_
  rintro e w' ⟨rfl, rfl⟩
  go_wp2_with fail
  refine (LB.out W4 hB4.out).mono ?_
  rintro e w' ⟨rfl, rfl⟩
  obtain ⟨⟨r0, r1, r2, r3, r4, r5⟩, ⟨q0, q1, q2, q3, q4, q5⟩⟩ := R4.out.at6
  obtain ⟨⟨x0, x1, x2, x3, x4, x5⟩, ⟨v0, v1, v2, v3, v4, v5⟩⟩ := H4.out.at6
  have xq := HC.out W4 hB4.out q (by omega)
  obtain ⟨⟨s0, s1, s2, s3, s4, s5⟩, _⟩ := (R4.out.set6 (.bool false) (.string ⟨#[]⟩) (.string ⟨#[]⟩) (.string ⟨#[]⟩) (.bool false) (.bool false)).at6
  unfold set6 at s0 s1 s2 s3 s4 s5
  go_wp2_with fail
  (try simp only [Exit.inBlock, Exit.then])
  refine bodyPost_ret (by simp [results, Tryd.results34, go_sem, s0, s1, s2, s3, s4, s5]; first | rfl | done) rfl (HP.out _ _ rfl ?_)
  exact below_set6 (hB4.out) (Nat.le_refl _) _ _ _ _ _ _

set_option maxHeartbeats 16000000 in
theorem doc_no_c1_opn (l : List UInt8) (A : Option Addr) (n c j : Nat) (w : World) (hn : l.length = n) (hnc : n ≤ c) (hm : c ≤ 9223372036854775807) (hn9 : n ≤ 1000000) (hj : j ≤ n) (hs : Sees w A (vB l)) (ht : TabN w) (hP : TabP w) (hpre : atB l (j : Int) dtW = true) (h9 : j + 9 ≤ n) (key : List UInt8) (z q : Nat) (hz : 0 < z) (hzn : z ≤ n) (hnm : bbT nmT l (j + 9) = (key, (z : Int), 0)) (hbk : blkN l l.length z = q) (hf : q = z) (hqn : q < n) (hb1 : byteAt l q = 91) :
    Calls Tryd.prog 34 #[.slice A n c, .int .i64 (j : Int)] w (DocPost (⟨true, key, [], [], false, true, (q : Int) + 1, 0⟩) w) := by
  have hbA := ((Below.refl _ w).alloc (Nat.le_refl _) (.cells #[.bool false, .string ⟨#[]⟩, .string ⟨#[]⟩, .string ⟨#[]⟩, .bool false, .bool false] 61)).alloc (by simp) (.cells (vB dtW).toArray 5 (9, 10))
  have R0 := (Blk.new w #[.bool false, .string ⟨#[]⟩, .string ⟨#[]⟩, .string ⟨#[]⟩, .bool false, .bool false] 61 _ rfl).alloc (.cells (vB dtW).toArray 5 (9, 10))
  have i0 : (0 : Int) ≤ (j : Int) := by omega
  have i1 : (j : Int) ≤ (n : Int) := by omega
  have HSL := fun (W : World) => slice_from W A n c j hj
  obtain ⟨A2, hA2⟩ : ∃ A2, tailA A c j = A2 := ⟨_, rfl⟩
  rw [hA2] at HSL
  have kc2 := const_at2
  have KPre := pre_const (l.drop j) dtW A2 (n - j) (c - j) 9 (w.alloc (.cells #[.bool false, .string ⟨#[]⟩, .string ⟨#[]⟩, .string ⟨#[]⟩, .bool false, .bool false] 61)) (w.heap.size + 1) (9, 10) (by rw [List.length_drop, hn]) (by omega) (by omega) rfl (by omega) (by omega) (by simp) (hA2 ▸ sees_tail (hs.below ((Below.refl _ w).alloc (Nat.le_refl _) _)) (by omega) j)
  rw [show ((l.drop j).take 9 == dtW) = atB l (j : Int) dtW from (atB_take l dtW j).symm, hpre] at KPre
  rw [show (vB dtW).toArray = #[.int .u8 60, .int .u8 33, .int .u8 68, .int .u8 79, .int .u8 67, .int .u8 84, .int .u8 89, .int .u8 80, .int .u8 69] from rfl] at hbA R0 KPre
  obtain ⟨W2, hW2⟩ : ∃ W2, (w.alloc (.cells #[.bool false, .string ⟨#[]⟩, .string ⟨#[]⟩, .string ⟨#[]⟩, .bool false, .bool false] 61)).alloc (.cells #[.int .u8 60, .int .u8 33, .int .u8 68, .int .u8 79, .int .u8 67, .int .u8 84, .int .u8 89, .int .u8 80, .int .u8 69] 5 (9, 10)) = W2 := ⟨_, rfl⟩
  have HW2 := Lib.hid hW2
  rw [hW2] at hbA R0 KPre
  have hB2 := Lib.hid hbA
  have R2 := Lib.hid R0
  have LPre := Lib.hid KPre
  have HP := Lib.hid (show ∀ v W', v = hdV (⟨true, key, [], [], false, true, (q : Int) + 1, 0⟩) → Below w.heap.size w W' → DocPost (⟨true, key, [], [], false, true, (q : Int) + 1, 0⟩) w (.returned v) W' from fun v W' hv hb => ⟨by rw [hv], hb⟩)
  obtain ⟨ad, rfl, _⟩ := hs.byte (k := 0) (by omega)
  have HC := Lib.hid (fun (w' : World) (hb : Below w.heap.size w w') (i : Nat) (hi : i < n) => byte_at (hs.below hb) (k := i) (by omega))
  have LN := Lib.hid (fun (w' : World) (hb : Below w.heap.size w w') => name_bbT l (some ad) n c (j + 9) ((j : Int) + 9) w' (by omega) hnm hn hnc hm hn9 h9 (hs.below hb) (ht.below hb))
  have KB := fun (w' : World) (hb : Below w.heap.size w w') (i q : Nat) (hi : i ≤ n) (hq : blkN l l.length i = q) => (show Calls Tryd.prog 65 #[.slice (some ad) n c, .int .i64 (i : Int)] w' fun e w'' => e = .returned (.int .i64 (q : Int)) ∧ w' = w'' from by
    have h := blanks_any l (some ad) n c (i : Int) w' hn hnc (by omega) ⟨by omega, by omega⟩ (hs.below hb); rw [blkV_in (by omega), hq] at h; exact h)
  have LB := Lib.hid (fun (w' : World) (hb : Below w.heap.size w w') => KB w' hb z q hzn hbk)
  have tg : ¬ (z : Int) < (q : Int) := by omega
  have tn : ((q : Int) == (n : Int)) = false := by rw [beq_eq_false_iff_ne]; omega
  have tl : (q : Int) < (n : Int) := by omega
  have tl0 : (0 : Int) ≤ (q : Int) := by omega
  have tb1 : ((byteAt l q : Int) != 91) = false := by simp; omega
  have tb3 : ((byteAt l q : Int) == 91) = true := by simp; omega
  clear hs ht hP hn hbA R0 hA2 hW2 KPre hpre KB hnm hbk hf
  go_enter Tryd.func34, Tryd.ntmps34
  go_wp2_with fail
  rw [HW2.out]
  clear HW2
  refine LPre.out.mono ?_
  rintro e w' ⟨rfl, rfl⟩
  go_wp2_with fail
  refine (LN.out W2 hB2.out).mono ?_
  rintro e w3 ⟨rfl, hb3⟩
  have hB3 := Lib.hid (hB2.out.trans (hb3.mono hB2.out.size))
  have R3 := Lib.hid (R2.out.below hb3)
  clear hb3
  have hlt := R3.out.lt
  have hB4 := hB3.out.alloc hB3.out.size (.cells #[.bool true, strV key, .string ⟨#[]⟩, .string ⟨#[]⟩, .bool false, .bool false] 61)
  have R4 := R3.out.alloc (.cells #[.bool true, strV key, .string ⟨#[]⟩, .string ⟨#[]⟩, .bool false, .bool false] 61)
  have H4 := Blk.new w3 #[.bool true, strV key, .string ⟨#[]⟩, .string ⟨#[]⟩, .bool false, .bool false] 61 _ rfl
  obtain ⟨W4, hW4⟩ : ∃ W4, w3.alloc (.cells #[.bool true, strV key, .string ⟨#[]⟩, .string ⟨#[]⟩, .bool false, .bool false] 61) = W4 := ⟨_, rfl⟩
  rw [hW4] at hB4 R4 H4
  have HW4 := Lib.hid hW4
  have hB4 := Lib.hid hB4
  have R4 := Lib.hid R4
  have H4 := Lib.hid H4
  have hle := Lib.hid (show w.heap.size ≤ w3.heap.size by omega)
  clear hW4
  go_wp2_with fail
  rw [HW4.out]
  clear HW4
  refine (LB.out W4 hB4.out).mono ?_
  rintro e w' ⟨rfl, rfl⟩
  go_wp2_with fail
  refine (LB.out W4 hB4.out).mono ?_
  rintro e w' ⟨rfl, rfl⟩
  obtain ⟨⟨r0, r1, r2, r3, r4, r5⟩, ⟨q0, q1, q2, q3, q4, q5⟩⟩ := R4.out.at6
  obtain ⟨⟨x0, x1, x2, x3, x4, x5⟩, ⟨v0, v1, v2, v3, v4, v5⟩⟩ := H4.out.at6
  have xq := HC.out W4 hB4.out q (by omega)
  obtain ⟨⟨s0, s1, s2, s3, s4, s5⟩, _⟩ := ((R4.out.far (b' := w3.heap.size) (o := 5) (by omega) (.bool true)).set6 (.bool true) (strV key) (.string ⟨#[]⟩) (.string ⟨#[]⟩) (.bool false) (.bool true)).at6
  unfold set6 at s0 s1 s2 s3 s4 s5
  go_wp2_with fail
  (try simp only [Exit.inBlock, Exit.then])
  refine bodyPost_ret (by simp [results, Tryd.results34, go_sem, s0, s1, s2, s3, s4, s5]; first | rfl | done) rfl (HP.out _ _ rfl ?_)
  exact below_set6 (hB4.out.setCell hle.out _) (Nat.le_refl _) _ _ _ _ _ _

set_option maxHeartbeats 16000000 in
theorem doc_no_c1_cls (l : List UInt8) (A : Option Addr) (n c j : Nat) (w : World) (hn : l.length = n) (hnc : n ≤ c) (hm : c ≤ 9223372036854775807) (hn9 : n ≤ 1000000) (hj : j ≤ n) (hs : Sees w A (vB l)) (ht : TabN w) (hP : TabP w) (hpre : atB l (j : Int) dtW = true) (h9 : j + 9 ≤ n) (key : List UInt8) (z q : Nat) (hz : 0 < z) (hzn : z ≤ n) (hnm : bbT nmT l (j + 9) = (key, (z : Int), 0)) (hbk : blkN l l.length z = q) (hf : q = z) (hqn : q < n) (hb1 : byteAt l q = 62) :
    Calls Tryd.prog 34 #[.slice A n c, .int .i64 (j : Int)] w (DocPost (⟨true, key, [], [], false, false, (q : Int) + 1, 0⟩) w) := by
  have hbA := ((Below.refl _ w).alloc (Nat.le_refl _) (.cells #[.bool false, .string ⟨#[]⟩, .string ⟨#[]⟩, .string ⟨#[]⟩, .bool false, .bool false] 61)).alloc (by simp) (.cells (vB dtW).toArray 5 (9, 10))
  have R0 := (Blk.new w #[.bool false, .string ⟨#[]⟩, .string ⟨#[]⟩, .string ⟨#[]⟩, .bool false, .bool false] 61 _ rfl).alloc (.cells (vB dtW).toArray 5 (9, 10))
  have i0 : (0 : Int) ≤ (j : Int) := by omega
  have i1 : (j : Int) ≤ (n : Int) := by omega
  have HSL := fun (W : World) => slice_from W A n c j hj
  obtain ⟨A2, hA2⟩ : ∃ A2, tailA A c j = A2 := ⟨_, rfl⟩
  rw [hA2] at HSL
  have kc2 := const_at2
  have KPre := pre_const (l.drop j) dtW A2 (n - j) (c - j) 9 (w.alloc (.cells #[.bool false, .string ⟨#[]⟩, .string ⟨#[]⟩, .string ⟨#[]⟩, .bool false, .bool false] 61)) (w.heap.size + 1) (9, 10) (by rw [List.length_drop, hn]) (by omega) (by omega) rfl (by omega) (by omega) (by simp) (hA2 ▸ sees_tail (hs.below ((Below.refl _ w).alloc (Nat.le_refl _) _)) (by omega) j)
  rw [show ((l.drop j).take 9 == dtW) = atB l (j : Int) dtW from (atB_take l dtW j).symm, hpre] at KPre
  rw [show (vB dtW).toArray = #[.int .u8 60, .int .u8 33, .int .u8 68, .int .u8 79, .int .u8 67, .int .u8 84, .int .u8 89, .int .u8 80, .int .u8 69] from rfl] at hbA R0 KPre
  obtain ⟨W2, hW2⟩ : ∃ W2, (w.alloc (.cells #[.bool false, .string ⟨#[]⟩, .string ⟨#[]⟩, .string ⟨#[]⟩, .bool false, .bool false] 61)).alloc (.cells #[.int .u8 60, .int .u8 33, .int .u8 68, .int .u8 79, .int .u8 67, .int .u8 84, .int .u8 89, .int .u8 80, .int .u8 69] 5 (9, 10)) = W2 := ⟨_, rfl⟩
  have HW2 := Lib.hid hW2
  rw [hW2] at hbA R0 KPre
  have hB2 := Lib.hid hbA
  have R2 := Lib.hid R0
  have LPre := Lib.hid KPre
  have HP := Lib.hid (show ∀ v W', v = hdV (⟨true, key, [], [], false, false, (q : Int) + 1, 0⟩) → Below w.heap.size w W' → DocPost (⟨true, key, [], [], false, false, (q : Int) + 1, 0⟩) w (.returned v) W' from fun v W' hv hb => ⟨by rw [hv], hb⟩)
  obtain ⟨ad, rfl, _⟩ := hs.byte (k := 0) (by omega)
  have HC := Lib.hid (fun (w' : World) (hb : Below w.heap.size w w') (i : Nat) (hi : i < n) => byte_at (hs.below hb) (k := i) (by omega))
  have LN := Lib.hid (fun (w' : World) (hb : Below w.heap.size w w') => name_bbT l (some ad) n c (j + 9) ((j : Int) + 9) w' (by omega) hnm hn hnc hm hn9 h9 (hs.below hb) (ht.below hb))
  have KB := fun (w' : World) (hb : Below w.heap.size w w') (i q : Nat) (hi : i ≤ n) (hq : blkN l l.length i = q) => (show Calls Tryd.prog 65 #[.slice (some ad) n c, .int .i64 (i : Int)] w' fun e w'' => e = .returned (.int .i64 (q : Int)) ∧ w' = w'' from by
    have h := blanks_any l (some ad) n c (i : Int) w' hn hnc (by omega) ⟨by omega, by omega⟩ (hs.below hb); rw [blkV_in (by omega), hq] at h; exact h)
  have LB := Lib.hid (fun (w' : World) (hb : Below w.heap.size w w') => KB w' hb z q hzn hbk)
  have tg : ¬ (z : Int) < (q : Int) := by omega
  have tn : ((q : Int) == (n : Int)) = false := by rw [beq_eq_false_iff_ne]; omega
  have tl : (q : Int) < (n : Int) := by omega
  have tl0 : (0 : Int) ≤ (q : Int) := by omega
  have tb1 : ((byteAt l q : Int) != 91) = true := by simp; omega
  have tb2 : ((byteAt l q : Int) != 62) = false := by simp; omega
  have tb3 : ((byteAt l q : Int) == 91) = false := by simp; omega
  clear hs ht hP hn hbA R0 hA2 hW2 KPre hpre KB hnm hbk hf
  go_enter Tryd.func34, Tryd.ntmps34
  go_wp2_with fail
  rw [HW2.out]
  clear HW2
  refine LPre.out.mono ?_
  rintro e w' ⟨rfl, rfl⟩
  go_wp2_with fail
  refine (LN.out W2 hB2.out).mono ?_
  rintro e w3 ⟨rfl, hb3⟩
  have hB3 := Lib.hid (hB2.out.trans (hb3.mono hB2.out.size))
  have R3 := Lib.hid (R2.out.below hb3)
  clear hb3
  have hlt := R3.out.lt
  have hB4 := hB3.out.alloc hB3.out.size (.cells #[.bool true, strV key, .string ⟨#[]⟩, .string ⟨#[]⟩, .bool false, .bool false] 61)
  have R4 := R3.out.alloc (.cells #[.bool true, strV key, .string ⟨#[]⟩, .string ⟨#[]⟩, .bool false, .bool false] 61)
  have H4 := Blk.new w3 #[.bool true, strV key, .string ⟨#[]⟩, .string ⟨#[]⟩, .bool false, .bool false] 61 _ rfl
  obtain ⟨W4, hW4⟩ : ∃ W4, w3.alloc (.cells #[.bool true, strV key, .string ⟨#[]⟩, .string ⟨#[]⟩, .bool false, .bool false] 61) = W4 := ⟨_, rfl⟩
  rw [hW4] at hB4 R4 H4
  have HW4 := Lib.hid hW4
  have hB4 := Lib.hid hB4
  have R4 := Lib.hid R4
  have H4 := Lib.hid H4
  have hle := Lib.hid (show w.heap.size ≤ w3.heap.size by omega)
  clear hW4
  go_wp2_with fail
  rw [HW4.out]
  clear HW4
  refine (LB.out W4 hB4.out).mono ?_
  rintro e w' ⟨rfl, rfl⟩
  go_wp2_with fail
  refine (LB.out W4 hB4.out).mono ?_
  rintro e w' ⟨rfl, rfl⟩
  obtain ⟨⟨r0, r1, r2, r3, r4, r5⟩, ⟨q0, q1, q2, q3, q4, q5⟩⟩ := R4.out.at6
  obtain ⟨⟨x0, x1, x2, x3, x4, x5⟩, ⟨v0, v1, v2, v3, v4, v5⟩⟩ := H4.out.at6
  have xq := HC.out W4 hB4.out q (by omega)
  obtain ⟨⟨s0, s1, s2, s3, s4, s5⟩, _⟩ := ((R4.out.far (b' := w3.heap.size) (o := 5) (by omega) (.bool false)).set6 (.bool true) (strV key) (.string ⟨#[]⟩) (.string ⟨#[]⟩) (.bool false) (.bool false)).at6
  unfold set6 at s0 s1 s2 s3 s4 s5
  go_wp2_with fail
  (try simp only [Exit.inBlock, Exit.then])
  refine bodyPost_ret (by simp [results, Tryd.results34, go_sem, s0, s1, s2, s3, s4, s5]; first | rfl | done) rfl (HP.out _ _ rfl ?_)
  exact below_set6 (hB4.out.setCell hle.out _) (Nat.le_refl _) _ _ _ _ _ _

set_option maxHeartbeats 16000000 in
theorem doc_no_c2_len (l : List UInt8) (A : Option Addr) (n c j : Nat) (w : World) (hn : l.length = n) (hnc : n ≤ c) (hm : c ≤ 9223372036854775807) (hn9 : n ≤ 1000000) (hj : j ≤ n) (hs : Sees w A (vB l)) (ht : TabN w) (hP : TabP w) (hpre : atB l (j : Int) dtW = true) (h9 : j + 9 ≤ n) (key : List UInt8) (z q : Nat) (hz : 0 < z) (hzn : z ≤ n) (hnm : bbT nmT l (j + 9) = (key, (z : Int), 0)) (hbk : blkN l l.length z = q) (hf : z < q) (hqn : q = n) :
    Calls Tryd.prog 34 #[.slice A n c, .int .i64 (j : Int)] w (DocPost (noH 7) w) := by
  have hbA := ((Below.refl _ w).alloc (Nat.le_refl _) (.cells #[.bool false, .string ⟨#[]⟩, .string ⟨#[]⟩, .string ⟨#[]⟩, .bool false, .bool false] 61)).alloc (by simp) (.cells (vB dtW).toArray 5 (9, 10))
  have R0 := (Blk.new w #[.bool false, .string ⟨#[]⟩, .string ⟨#[]⟩, .string ⟨#[]⟩, .bool false, .bool false] 61 _ rfl).alloc (.cells (vB dtW).toArray 5 (9, 10))
  have i0 : (0 : Int) ≤ (j : Int) := by omega
  have i1 : (j : Int) ≤ (n : Int) := by omega
  have HSL := fun (W : World) => slice_from W A n c j hj
  obtain ⟨A2, hA2⟩ : ∃ A2, tailA A c j = A2 := ⟨_, rfl⟩
  rw [hA2] at HSL
  have kc2 := const_at2
  have KPre := pre_const (l.drop j) dtW A2 (n - j) (c - j) 9 (w.alloc (.cells #[.bool false, .string ⟨#[]⟩, .string ⟨#[]⟩, .string ⟨#[]⟩, .bool false, .bool false] 61)) (w.heap.size + 1) (9, 10) (by rw [List.length_drop, hn]) (by omega) (by omega) rfl (by omega) (by omega) (by simp) (hA2 ▸ sees_tail (hs.below ((Below.refl _ w).alloc (Nat.le_refl _) _)) (by omega) j)
  rw [show ((l.drop j).take 9 == dtW) = atB l (j : Int) dtW from (atB_take l dtW j).symm, hpre] at KPre
  rw [show (vB dtW).toArray = #[.int .u8 60, .int .u8 33, .int .u8 68, .int .u8 79, .int .u8 67, .int .u8 84, .int .u8 89, .int .u8 80, .int .u8 69] from rfl] at hbA R0 KPre
  obtain ⟨W2, hW2⟩ : ∃ W2, (w.alloc (.cells #[.bool false, .string ⟨#[]⟩, .string ⟨#[]⟩, .string ⟨#[]⟩, .bool false, .bool false] 61)).alloc (.cells #[.int .u8 60, .int .u8 33, .int .u8 68, .int .u8 79, .int .u8 67, .int .u8 84, .int .u8 89, .int .u8 80, .int .u8 69] 5 (9, 10)) = W2 := ⟨_, rfl⟩
  have HW2 := Lib.hid hW2
  rw [hW2] at hbA R0 KPre
  have hB2 := Lib.hid hbA
  have R2 := Lib.hid R0
  have LPre := Lib.hid KPre
  have HP := Lib.hid (show ∀ v W', v = hdV (noH 7) → Below w.heap.size w W' → DocPost (noH 7) w (.returned v) W' from fun v W' hv hb => ⟨by rw [hv], hb⟩)
  obtain ⟨ad, rfl, _⟩ := hs.byte (k := 0) (by omega)
  have HC := Lib.hid (fun (w' : World) (hb : Below w.heap.size w w') (i : Nat) (hi : i < n) => byte_at (hs.below hb) (k := i) (by omega))
  have LN := Lib.hid (fun (w' : World) (hb : Below w.heap.size w w') => name_bbT l (some ad) n c (j + 9) ((j : Int) + 9) w' (by omega) hnm hn hnc hm hn9 h9 (hs.below hb) (ht.below hb))
  have KB := fun (w' : World) (hb : Below w.heap.size w w') (i q : Nat) (hi : i ≤ n) (hq : blkN l l.length i = q) => (show Calls Tryd.prog 65 #[.slice (some ad) n c, .int .i64 (i : Int)] w' fun e w'' => e = .returned (.int .i64 (q : Int)) ∧ w' = w'' from by
    have h := blanks_any l (some ad) n c (i : Int) w' hn hnc (by omega) ⟨by omega, by omega⟩ (hs.below hb); rw [blkV_in (by omega), hq] at h; exact h)
  have LB := Lib.hid (fun (w' : World) (hb : Below w.heap.size w w') => KB w' hb z q hzn hbk)
  have tg : (z : Int) < (q : Int) := by omega
  have tn : ((q : Int) == (n : Int)) = true := by rw [beq_iff_eq]; omega
  have tf : ¬ (q : Int) < (n : Int) := by omega
  clear hs ht hP hn hbA R0 hA2 hW2 KPre hpre KB hnm hbk hf
  go_enter Tryd.func34, Tryd.ntmps34
  go_wp2_with fail
  rw [HW2.out]
  clear HW2
  refine LPre.out.mono ?_
  rintro e w' ⟨rfl, rfl⟩
  go_wp2_with fail
  refine (LN.out W2 hB2.out).mono ?_
  rintro e w3 ⟨rfl, hb3⟩
  have hB3 := Lib.hid (hB2.out.trans (hb3.mono hB2.out.size))
  have R3 := Lib.hid (R2.out.below hb3)
  clear hb3
  have hlt := R3.out.lt
  have hB4 := hB3.out.alloc hB3.out.size (.cells #[.bool true, strV key, .string ⟨#[]⟩, .string ⟨#[]⟩, .bool false, .bool false] 61)
  have R4 := R3.out.alloc (.cells #[.bool true, strV key, .string ⟨#[]⟩, .string ⟨#[]⟩, .bool false, .bool false] 61)
  have H4 := Blk.new w3 #[.bool true, strV key, .string ⟨#[]⟩, .string ⟨#[]⟩, .bool false, .bool false] 61 _ rfl
  obtain ⟨W4, hW4⟩ : ∃ W4, w3.alloc (.cells #[.bool true, strV key, .string ⟨#[]⟩, .string ⟨#[]⟩, .bool false, .bool false] 61) = W4 := ⟨_, rfl⟩
  rw [hW4] at hB4 R4 H4
  have HW4 := Lib.hid hW4
  have hB4 := Lib.hid hB4
  have R4 := Lib.hid R4
  have H4 := Lib.hid H4
  have hle := Lib.hid (show w.heap.size ≤ w3.heap.size by omega)
  clear hW4
  go_wp2_with fail
  rw [HW4.out]
  clear HW4
  refine (LB.out W4 hB4.out).mono ?_
  rintro e w' ⟨rfl, rfl⟩
  go_wp2_with fail
  refine (LB.out W4 hB4.out).mono ?_
  rintro e w' ⟨rfl, rfl⟩
  obtain ⟨⟨r0, r1, r2, r3, r4, r5⟩, ⟨q0, q1, q2, q3, q4, q5⟩⟩ := R4.out.at6
  obtain ⟨⟨x0, x1, x2, x3, x4, x5⟩, ⟨v0, v1, v2, v3, v4, v5⟩⟩ := H4.out.at6
  obtain ⟨⟨s0, s1, s2, s3, s4, s5⟩, _⟩ := (R4.out.set6 (.bool false) (.string ⟨#[]⟩) (.string ⟨#[]⟩) (.string ⟨#[]⟩) (.bool false) (.bool false)).at6
  unfold set6 at s0 s1 s2 s3 s4 s5
  go_wp2_with fail
  (try simp only [Exit.inBlock, Exit.then])
  refine bodyPost_ret (by simp [results, Tryd.results34, go_sem, s0, s1, s2, s3, s4, s5]; first | rfl | done) rfl (HP.out _ _ rfl ?_)
  exact below_set6 (hB4.out) (Nat.le_refl _) _ _ _ _ _ _

set_option maxHeartbeats 16000000 in
theorem doc_no_c3_oth (l : List UInt8) (A : Option Addr) (n c j : Nat) (w : World) (hn : l.length = n) (hnc : n ≤ c) (hm : c ≤ 9223372036854775807) (hn9 : n ≤ 1000000) (hj : j ≤ n) (hs : Sees w A (vB l)) (ht : TabN w) (hP : TabP w) (hpre : atB l (j : Int) dtW = true) (h9 : j + 9 ≤ n) (key : List UInt8) (z q : Nat) (hz : 0 < z) (hzn : z ≤ n) (hnm : bbT nmT l (j + 9) = (key, (z : Int), 0)) (hbk : blkN l l.length z = q) (hf : z < q) (hb3 : byteAt l q ≠ 83) (hb4 : byteAt l q ≠ 80) (hqn : q < n) (hb1 : byteAt l q ≠ 91) (hb2 : byteAt l q ≠ 62) :
    Calls Tryd.prog 34 #[.slice A n c, .int .i64 (j : Int)] w (DocPost (noH 7) w) := by
  have hbA := ((Below.refl _ w).alloc (Nat.le_refl _) (.cells #[.bool false, .string ⟨#[]⟩, .string ⟨#[]⟩, .string ⟨#[]⟩, .bool false, .bool false] 61)).alloc (by simp) (.cells (vB dtW).toArray 5 (9, 10))
  have R0 := (Blk.new w #[.bool false, .string ⟨#[]⟩, .string ⟨#[]⟩, .string ⟨#[]⟩, .bool false, .bool false] 61 _ rfl).alloc (.cells (vB dtW).toArray 5 (9, 10))
  have i0 : (0 : Int) ≤ (j : Int) := by omega
  have i1 : (j : Int) ≤ (n : Int) := by omega
  have HSL := fun (W : World) => slice_from W A n c j hj
  obtain ⟨A2, hA2⟩ : ∃ A2, tailA A c j = A2 := ⟨_, rfl⟩
  rw [hA2] at HSL
  have kc2 := const_at2
  have KPre := pre_const (l.drop j) dtW A2 (n - j) (c - j) 9 (w.alloc (.cells #[.bool false, .string ⟨#[]⟩, .string ⟨#[]⟩, .string ⟨#[]⟩, .bool false, .bool false] 61)) (w.heap.size + 1) (9, 10) (by rw [List.length_drop, hn]) (by omega) (by omega) rfl (by omega) (by omega) (by simp) (hA2 ▸ sees_tail (hs.below ((Below.refl _ w).alloc (Nat.le_refl _) _)) (by omega) j)
  rw [show ((l.drop j).take 9 == dtW) = atB l (j : Int) dtW from (atB_take l dtW j).symm, hpre] at KPre
  rw [show (vB dtW).toArray = #[.int .u8 60, .int .u8 33, .int .u8 68, .int .u8 79, .int .u8 67, .int .u8 84, .int .u8 89, .int .u8 80, .int .u8 69] from rfl] at hbA R0 KPre
  obtain ⟨W2, hW2⟩ : ∃ W2, (w.alloc (.cells #[.bool false, .string ⟨#[]⟩, .string ⟨#[]⟩, .string ⟨#[]⟩, .bool false, .bool false] 61)).alloc (.cells #[.int .u8 60, .int .u8 33, .int .u8 68, .int .u8 79, .int .u8 67, .int .u8 84, .int .u8 89, .int .u8 80, .int .u8 69] 5 (9, 10)) = W2 := ⟨_, rfl⟩
  have HW2 := Lib.hid hW2
  rw [hW2] at hbA R0 KPre
  have hB2 := Lib.hid hbA
  have R2 := Lib.hid R0
  have LPre := Lib.hid KPre
  have HP := Lib.hid (show ∀ v W', v = hdV (noH 7) → Below w.heap.size w W' → DocPost (noH 7) w (.returned v) W' from fun v W' hv hb => ⟨by rw [hv], hb⟩)
  obtain ⟨ad, rfl, _⟩ := hs.byte (k := 0) (by omega)
  have HC := Lib.hid (fun (w' : World) (hb : Below w.heap.size w w') (i : Nat) (hi : i < n) => byte_at (hs.below hb) (k := i) (by omega))
  have LN := Lib.hid (fun (w' : World) (hb : Below w.heap.size w w') => name_bbT l (some ad) n c (j + 9) ((j : Int) + 9) w' (by omega) hnm hn hnc hm hn9 h9 (hs.below hb) (ht.below hb))
  have KB := fun (w' : World) (hb : Below w.heap.size w w') (i q : Nat) (hi : i ≤ n) (hq : blkN l l.length i = q) => (show Calls Tryd.prog 65 #[.slice (some ad) n c, .int .i64 (i : Int)] w' fun e w'' => e = .returned (.int .i64 (q : Int)) ∧ w' = w'' from by
    have h := blanks_any l (some ad) n c (i : Int) w' hn hnc (by omega) ⟨by omega, by omega⟩ (hs.below hb); rw [blkV_in (by omega), hq] at h; exact h)
  have LB := Lib.hid (fun (w' : World) (hb : Below w.heap.size w w') => KB w' hb z q hzn hbk)
  have tg : (z : Int) < (q : Int) := by omega
  have ts : ((byteAt l q : Int) == 83) = false := by rw [beq_eq_false_iff_ne]; omega
  have tp : ((byteAt l q : Int) == 80) = false := by rw [beq_eq_false_iff_ne]; omega
  have tn : ((q : Int) == (n : Int)) = false := by rw [beq_eq_false_iff_ne]; omega
  have tl : (q : Int) < (n : Int) := by omega
  have tl0 : (0 : Int) ≤ (q : Int) := by omega
  have tb1 : ((byteAt l q : Int) != 91) = true := by simp; omega
  have tb2 : ((byteAt l q : Int) != 62) = true := by simp; omega
  clear hs ht hP hn hbA R0 hA2 hW2 KPre hpre KB hnm hbk hf hb3 hb4
  go_enter Tryd.func34, Tryd.ntmps34
  go_wp2_with fail
  rw [HW2.out]
  clear HW2
  refine LPre.out.mono ?_
  rintro e w' ⟨rfl, rfl⟩
  go_wp2_with fail
  refine (LN.out W2 hB2.out).mono ?_
  rintro e w3 ⟨rfl, hb3⟩
  have hB3 := Lib.hid (hB2.out.trans (hb3.mono hB2.out.size))
  have R3 := Lib.hid (R2.out.below hb3)
  clear hb3
  have hlt := R3.out.lt
  have hB4 := hB3.out.alloc hB3.out.size (.cells #[.bool true, strV key, .string ⟨#[]⟩, .string ⟨#[]⟩, .bool false, .bool false] 61)
  have R4 := R3.out.alloc (.cells #[.bool true, strV key, .string ⟨#[]⟩, .string ⟨#[]⟩, .bool false, .bool false] 61)
  have H4 := Blk.new w3 #[.bool true, strV key, .string ⟨#[]⟩, .string ⟨#[]⟩, .bool false, .bool false] 61 _ rfl
  obtain ⟨W4, hW4⟩ : ∃ W4, w3.alloc (.cells #[.bool true, strV key, .string ⟨#[]⟩, .string ⟨#[]⟩, .bool false, .bool false] 61) = W4 := ⟨_, rfl⟩
  rw [hW4] at hB4 R4 H4
  have HW4 := Lib.hid hW4
  have hB4 := Lib.hid hB4
  have R4 := Lib.hid R4
  have H4 := Lib.hid H4
  have hle := Lib.hid (show w.heap.size ≤ w3.heap.size by omega)
  clear hW4
  go_wp2_with fail
  rw [HW4.out]
  clear HW4
  refine (LB.out W4 hB4.out).mono ?_
  rintro e w' ⟨rfl, rfl⟩
  have xf := HC.out W4 hB4.out q (by omega)
  go_wp2_with fail
  refine (LB.out W4 hB4.out).mono ?_
  rintro e w' ⟨rfl, rfl⟩
  clear xf
  obtain ⟨⟨r0, r1, r2, r3, r4, r5⟩, ⟨q0, q1, q2, q3, q4, q5⟩⟩ := R4.out.at6
  obtain ⟨⟨x0, x1, x2, x3, x4, x5⟩, ⟨v0, v1, v2, v3, v4, v5⟩⟩ := H4.out.at6
  have xq := HC.out W4 hB4.out q (by omega)
  obtain ⟨⟨s0, s1, s2, s3, s4, s5⟩, _⟩ := (R4.out.set6 (.bool false) (.string ⟨#[]⟩) (.string ⟨#[]⟩) (.string ⟨#[]⟩) (.bool false) (.bool false)).at6
  unfold set6 at s0 s1 s2 s3 s4 s5
  go_wp2_with fail
  (try simp only [Exit.inBlock, Exit.then])
  refine bodyPost_ret (by simp [results, Tryd.results34, go_sem, s0, s1, s2, s3, s4, s5]; first | rfl | done) rfl (HP.out _ _ rfl ?_)
  exact below_set6 (hB4.out) (Nat.le_refl _) _ _ _ _ _ _

set_option maxHeartbeats 16000000 in
theorem doc_no_c3_opn (l : List UInt8) (A : Option Addr) (n c j : Nat) (w : World) (hn : l.length = n) (hnc : n ≤ c) (hm : c ≤ 9223372036854775807) (hn9 : n ≤ 1000000) (hj : j ≤ n) (hs : Sees w A (vB l)) (ht : TabN w) (hP : TabP w) (hpre : atB l (j : Int) dtW = true) (h9 : j + 9 ≤ n) (key : List UInt8) (z q : Nat) (hz : 0 < z) (hzn : z ≤ n) (hnm : bbT nmT l (j + 9) = (key, (z : Int), 0)) (hbk : blkN l l.length z = q) (hf : z < q) (hb3 : byteAt l q ≠ 83) (hb4 : byteAt l q ≠ 80) (hqn : q < n) (hb1 : byteAt l q = 91) :
    Calls Tryd.prog 34 #[.slice A n c, .int .i64 (j : Int)] w (DocPost (⟨true, key, [], [], false, true, (q : Int) + 1, 0⟩) w) := by
  have hbA := ((Below.refl _ w).alloc (Nat.le_refl _) (.cells #[.bool false, .string ⟨#[]⟩, .string ⟨#[]⟩, .string ⟨#[]⟩, .bool false, .bool false] 61)).alloc (by simp) (.cells (vB dtW).toArray 5 (9, 10))
  have R0 := (Blk.new w #[.bool false, .string ⟨#[]⟩, .string ⟨#[]⟩, .string ⟨#[]⟩, .bool false, .bool false] 61 _ rfl).alloc (.cells (vB dtW).toArray 5 (9, 10))
  have i0 : (0 : Int) ≤ (j : Int) := by omega
  have i1 : (j : Int) ≤ (n : Int) := by omega
  have HSL := fun (W : World) => slice_from W A n c j hj
  obtain ⟨A2, hA2⟩ : ∃ A2, tailA A c j = A2 := ⟨_, rfl⟩
  rw [hA2] at HSL
  have kc2 := const_at2
  have KPre := pre_const (l.drop j) dtW A2 (n - j) (c - j) 9 (w.alloc (.cells #[.bool false, .string ⟨#[]⟩, .string ⟨#[]⟩, .string ⟨#[]⟩, .bool false, .bool false] 61)) (w.heap.size + 1) (9, 10) (by rw [List.length_drop, hn]) (by omega) (by omega) rfl (by omega) (by omega) (by simp) (hA2 ▸ sees_tail (hs.below ((Below.refl _ w).alloc (Nat.le_refl _) _)) (by omega) j)
  rw [show ((l.drop j).take 9 == dtW) = atB l (j : Int) dtW from (atB_take l dtW j).symm, hpre] at KPre
  rw [show (vB dtW).toArray = #[.int .u8 60, .int .u8 33, .int .u8 68, .int .u8 79, .int .u8 67, .int .u8 84, .int .u8 89, .int .u8 80, .int .u8 69] from rfl] at hbA R0 KPre
  obtain ⟨W2, hW2⟩ : ∃ W2, (w.alloc (.cells #[.bool false, .string ⟨#[]⟩, .string ⟨#[]⟩, .string ⟨#[]⟩, .bool false, .bool false] 61)).alloc (.cells #[.int .u8 60, .int .u8 33, .int .u8 68, .int .u8 79, .int .u8 67, .int .u8 84, .int .u8 89, .int .u8 80, .int .u8 69] 5 (9, 10)) = W2 := ⟨_, rfl⟩
  have HW2 := Lib.hid hW2
  rw [hW2] at hbA R0 KPre
  have hB2 := Lib.hid hbA
  have R2 := Lib.hid R0
  have LPre := Lib.hid KPre
  have HP := Lib.hid (show ∀ v W', v = hdV (⟨true, key, [], [], false, true, (q : Int) + 1, 0⟩) → Below w.heap.size w W' → DocPost (⟨true, key, [], [], false, true, (q : Int) + 1, 0⟩) w (.returned v) W' from fun v W' hv hb => ⟨by rw [hv], hb⟩)
  obtain ⟨ad, rfl, _⟩ := hs.byte (k := 0) (by omega)
  have HC := Lib.hid (fun (w' : World) (hb : Below w.heap.size w w') (i : Nat) (hi : i < n) => byte_at (hs.below hb) (k := i) (by omega))
  have LN := Lib.hid (fun (w' : World) (hb : Below w.heap.size w w') => name_bbT l (some ad) n c (j + 9) ((j : Int) + 9) w' (by omega) hnm hn hnc hm hn9 h9 (hs.below hb) (ht.below hb))
  have KB := fun (w' : World) (hb : Below w.heap.size w w') (i q : Nat) (hi : i ≤ n) (hq : blkN l l.length i = q) => (show Calls Tryd.prog 65 #[.slice (some ad) n c, .int .i64 (i : Int)] w' fun e w'' => e = .returned (.int .i64 (q : Int)) ∧ w' = w'' from by
    have h := blanks_any l (some ad) n c (i : Int) w' hn hnc (by omega) ⟨by omega, by omega⟩ (hs.below hb); rw [blkV_in (by omega), hq] at h; exact h)
  have LB := Lib.hid (fun (w' : World) (hb : Below w.heap.size w w') => KB w' hb z q hzn hbk)
  have tg : (z : Int) < (q : Int) := by omega
  have ts : ((byteAt l q : Int) == 83) = false := by rw [beq_eq_false_iff_ne]; omega
  have tp : ((byteAt l q : Int) == 80) = false := by rw [beq_eq_false_iff_ne]; omega
  have tn : ((q : Int) == (n : Int)) = false := by rw [beq_eq_false_iff_ne]; omega
  have tl : (q : Int) < (n : Int) := by omega
  have tl0 : (0 : Int) ≤ (q : Int) := by omega
  have tb1 : ((byteAt l q : Int) != 91) = false := by simp; omega
  have tb3 : ((byteAt l q : Int) == 91) = true := by simp; omega
  clear hs ht hP hn hbA R0 hA2 hW2 KPre hpre KB hnm hbk hf hb3 hb4
  go_enter Tryd.func34, Tryd.ntmps34
  go_wp2_with fail
  rw [HW2.out]
  clear HW2
  refine LPre.out.mono ?_
  rintro e w' ⟨rfl, rfl⟩
  go_wp2_with fail
  refine (LN.out W2 hB2.out).mono ?_
  rintro e w3 ⟨rfl, hb3⟩
  have hB3 := Lib.hid (hB2.out.trans (hb3.mono hB2.out.size))
  have R3 := Lib.hid (R2.out.below hb3)
  clear hb3
  have hlt := R3.out.lt
  have hB4 := hB3.out.alloc hB3.out.size (.cells #[.bool true, strV key, .string ⟨#[]⟩, .string ⟨#[]⟩, .bool false, .bool false] 61)
  have R4 := R3.out.alloc (.cells #[.bool true, strV key, .string ⟨#[]⟩, .string ⟨#[]⟩, .bool false, .bool false] 61)
  have H4 := Blk.new w3 #[.bool true, strV key, .string ⟨#[]⟩, .string ⟨#[]⟩, .bool false, .bool false] 61 _ rfl
  obtain ⟨W4, hW4⟩ : ∃ W4, w3.alloc (.cells #[.bool true, strV key, .string ⟨#[]⟩, .string ⟨#[]⟩, .bool false, .bool false] 61) = W4 := ⟨_, rfl⟩
  rw [hW4] at hB4 R4 H4
  have HW4 := Lib.hid hW4
  have hB4 := Lib.hid hB4
  have R4 := Lib.hid R4
  have H4 := Lib.hid H4
  have hle := Lib.hid (show w.heap.size ≤ w3.heap.size by omega)
  clear hW4
  go_wp2_with fail
  rw [HW4.out]
  clear HW4
  refine (LB.out W4 hB4.out).mono ?_
  rintro e w' ⟨rfl, rfl⟩
  have xf := HC.out W4 hB4.out q (by omega)
  go_wp2_with fail
  refine (LB.out W4 hB4.out).mono ?_
  rintro e w' ⟨rfl, rfl⟩
  clear xf
  obtain ⟨⟨r0, r1, r2, r3, r4, r5⟩, ⟨q0, q1, q2, q3, q4, q5⟩⟩ := R4.out.at6
  obtain ⟨⟨x0, x1, x2, x3, x4, x5⟩, ⟨v0, v1, v2, v3, v4, v5⟩⟩ := H4.out.at6
  have xq := HC.out W4 hB4.out q (by omega)
  obtain ⟨⟨s0, s1, s2, s3, s4, s5⟩, _⟩ := ((R4.out.far (b' := w3.heap.size) (o := 5) (by omega) (.bool true)).set6 (.bool true) (strV key) (.string ⟨#[]⟩) (.string ⟨#[]⟩) (.bool false) (.bool true)).at6
  unfold set6 at s0 s1 s2 s3 s4 s5
  go_wp2_with fail
  (try simp only [Exit.inBlock, Exit.then])
  refine bodyPost_ret (by simp [results, Tryd.results34, go_sem, s0, s1, s2, s3, s4, s5]; first | rfl | done) rfl (HP.out _ _ rfl ?_)
  exact below_set6 (hB4.out.setCell hle.out _) (Nat.le_refl _) _ _ _ _ _ _

set_option maxHeartbeats 16000000 in
theorem doc_no_c3_cls (l : List UInt8) (A : Option Addr) (n c j : Nat) (w : World) (hn : l.length = n) (hnc : n ≤ c) (hm : c ≤ 9223372036854775807) (hn9 : n ≤ 1000000) (hj : j ≤ n) (hs : Sees w A (vB l)) (ht : TabN w) (hP : TabP w) (hpre : atB l (j : Int) dtW = true) (h9 : j + 9 ≤ n) (key : List UInt8) (z q : Nat) (hz : 0 < z) (hzn : z ≤ n) (hnm : bbT nmT l (j + 9) = (key, (z : Int), 0)) (hbk : blkN l l.length z = q) (hf : z < q) (hb3 : byteAt l q ≠ 83) (hb4 : byteAt l q ≠ 80) (hqn : q < n) (hb1 : byteAt l q = 62) :
    Calls Tryd.prog 34 #[.slice A n c, .int .i64 (j : Int)] w (DocPost (⟨true, key, [], [], false, false, (q : Int) + 1, 0⟩) w) := by
  have hbA := ((Below.refl _ w).alloc (Nat.le_refl _) (.cells #[.bool false, .string ⟨#[]⟩, .string ⟨#[]⟩, .string ⟨#[]⟩, .bool false, .bool false] 61)).alloc (by simp) (.cells (vB dtW).toArray 5 (9, 10))
  have R0 := (Blk.new w #[.bool false, .string ⟨#[]⟩, .string ⟨#[]⟩, .string ⟨#[]⟩, .bool false, .bool false] 61 _ rfl).alloc (.cells (vB dtW).toArray 5 (9, 10))
  have i0 : (0 : Int) ≤ (j : Int) := by omega
  have i1 : (j : Int) ≤ (n : Int) := by omega
  have HSL := fun (W : World) => slice_from W A n c j hj
  obtain ⟨A2, hA2⟩ : ∃ A2, tailA A c j = A2 := ⟨_, rfl⟩
  rw [hA2] at HSL
  have kc2 := const_at2
  have KPre := pre_const (l.drop j) dtW A2 (n - j) (c - j) 9 (w.alloc (.cells #[.bool false, .string ⟨#[]⟩, .string ⟨#[]⟩, .string ⟨#[]⟩, .bool false, .bool false] 61)) (w.heap.size + 1) (9, 10) (by rw [List.length_drop, hn]) (by omega) (by omega) rfl (by omega) (by omega) (by simp) (hA2 ▸ sees_tail (hs.below ((Below.refl _ w).alloc (Nat.le_refl _) _)) (by omega) j)
  rw [show ((l.drop j).take 9 == dtW) = atB l (j : Int) dtW from (atB_take l dtW j).symm, hpre] at KPre
  rw [show (vB dtW).toArray = #[.int .u8 60, .int .u8 33, .int .u8 68, .int .u8 79, .int .u8 67, .int .u8 84, .int .u8 89, .int .u8 80, .int .u8 69] from rfl] at hbA R0 KPre
  obtain ⟨W2, hW2⟩ : ∃ W2, (w.alloc (.cells #[.bool false, .string ⟨#[]⟩, .string ⟨#[]⟩, .string ⟨#[]⟩, .bool false, .bool false] 61)).alloc (.cells #[.int .u8 60, .int .u8 33, .int .u8 68, .int .u8 79, .int .u8 67, .int .u8 84, .int .u8 89, .int .u8 80, .int .u8 69] 5 (9, 10)) = W2 := ⟨_, rfl⟩
  have HW2 := Lib.hid hW2
  rw [hW2] at hbA R0 KPre
  have hB2 := Lib.hid hbA
  have R2 := Lib.hid R0
  have LPre := Lib.hid KPre
  have HP := Lib.hid (show ∀ v W', v = hdV (⟨true, key, [], [], false, false, (q : Int) + 1, 0⟩) → Below w.heap.size w W' → DocPost (⟨true, key, [], [], false, false, (q : Int) + 1, 0⟩) w (.returned v) W' from fun v W' hv hb => ⟨by rw [hv], hb⟩)
  obtain ⟨ad, rfl, _⟩ := hs.byte (k := 0) (by omega)
  have HC := Lib.hid (fun (w' : World) (hb : Below w.heap.size w w') (i : Nat) (hi : i < n) => byte_at (hs.below hb) (k := i) (by omega))
  have LN := Lib.hid (fun (w' : World) (hb : Below w.heap.size w w') => name_bbT l (some ad) n c (j + 9) ((j : Int) + 9) w' (by omega) hnm hn hnc hm hn9 h9 (hs.below hb) (ht.below hb))
  have KB := fun (w' : World) (hb : Below w.heap.size w w') (i q : Nat) (hi : i ≤ n) (hq : blkN l l.length i = q) => (show Calls Tryd.prog 65 #[.slice (some ad) n c, .int .i64 (i : Int)] w' fun e w'' => e = .returned (.int .i64 (q : Int)) ∧ w' = w'' from by
    have h := blanks_any l (some ad) n c (i : Int) w' hn hnc (by omega) ⟨by omega, by omega⟩ (hs.below hb); rw [blkV_in (by omega), hq] at h; exact h)
  have LB := Lib.hid (fun (w' : World) (hb : Below w.heap.size w w') => KB w' hb z q hzn hbk)
  have tg : (z : Int) < (q : Int) := by omega
  have ts : ((byteAt l q : Int) == 83) = false := by rw [beq_eq_false_iff_ne]; omega
  have tp : ((byteAt l q : Int) == 80) = false := by rw [beq_eq_false_iff_ne]; omega
  have tn : ((q : Int) == (n : Int)) = false := by rw [beq_eq_false_iff_ne]; omega
  have tl : (q : Int) < (n : Int) := by omega
  have tl0 : (0 : Int) ≤ (q : Int) := by omega
  have tb1 : ((byteAt l q : Int) != 91) = true := by simp; omega
  have tb2 : ((byteAt l q : Int) != 62) = false := by simp; omega
  have tb3 : ((byteAt l q : Int) == 91) = false := by simp; omega
  clear hs ht hP hn hbA R0 hA2 hW2 KPre hpre KB hnm hbk hf hb3 hb4
  go_enter Tryd.func34, Tryd.ntmps34
  go_wp2_with fail
  rw [HW2.out]
  clear HW2
  refine LPre.out.mono ?_
  rintro e w' ⟨rfl, rfl⟩
  go_wp2_with fail
  refine (LN.out W2 hB2.out).mono ?_
  rintro e w3 ⟨rfl, hb3⟩
  have hB3 := Lib.hid (hB2.out.trans (hb3.mono hB2.out.size))
  have R3 := Lib.hid (R2.out.below hb3)
  clear hb3
  have hlt := R3.out.lt
  have hB4 := hB3.out.alloc hB3.out.size (.cells #[.bool true, strV key, .string ⟨#[]⟩, .string ⟨#[]⟩, .bool false, .bool false] 61)
  have R4 := R3.out.alloc (.cells #[.bool true, strV key, .string ⟨#[]⟩, .string ⟨#[]⟩, .bool false, .bool false] 61)
  have H4 := Blk.new w3 #[.bool true, strV key, .string ⟨#[]⟩, .string ⟨#[]⟩, .bool false, .bool false] 61 _ rfl
  obtain ⟨W4, hW4⟩ : ∃ W4, w3.alloc (.cells #[.bool true, strV key, .string ⟨#[]⟩, .string ⟨#[]⟩, .bool false, .bool false] 61) = W4 := ⟨_, rfl⟩
  rw [hW4] at hB4 R4 H4
  have HW4 := Lib.hid hW4
  have hB4 := Lib.hid hB4
  have R4 := Lib.hid R4
  have H4 := Lib.hid H4
  have hle := Lib.hid (show w.heap.size ≤ w3.heap.size by omega)
  clear hW4
  go_wp2_with fail
  rw [HW4.out]
  clear HW4
  refine (LB.out W4 hB4.out).mono ?_
  rintro e w' ⟨rfl, rfl⟩
  have xf := HC.out W4 hB4.out q (by omega)
  go_wp2_with fail
  refine (LB.out W4 hB4.out).mono ?_
  rintro e w' ⟨rfl, rfl⟩
  clear xf
  obtain ⟨⟨r0, r1, r2, r3, r4, r5⟩, ⟨q0, q1, q2, q3, q4, q5⟩⟩ := R4.out.at6
  obtain ⟨⟨x0, x1, x2, x3, x4, x5⟩, ⟨v0, v1, v2, v3, v4, v5⟩⟩ := H4.out.at6
  have xq := HC.out W4 hB4.out q (by omega)
  obtain ⟨⟨s0, s1, s2, s3, s4, s5⟩, _⟩ := ((R4.out.far (b' := w3.heap.size) (o := 5) (by omega) (.bool false)).set6 (.bool true) (strV key) (.string ⟨#[]⟩) (.string ⟨#[]⟩) (.bool false) (.bool false)).at6
  unfold set6 at s0 s1 s2 s3 s4 s5
  go_wp2_with fail
  (try simp only [Exit.inBlock, Exit.then])
  refine bodyPost_ret (by simp [results, Tryd.results34, go_sem, s0, s1, s2, s3, s4, s5]; first | rfl | done) rfl (HP.out _ _ rfl ?_)
  exact below_set6 (hB4.out.setCell hle.out _) (Nat.le_refl _) _ _ _ _ _ _
end Go.Proofs.YtdmfladcldkmeaaDoor
