/- Tags that begin an element: the pure part. A tag that begins an element, as the document has it. A tag that begins an element, by the program. Tags: the page's example; the walk of TagReads. Bytes of a row that is read. -/
import Derived.Lib.SlBytesConst
import Derived.Lib.BufferRead
import Derived.Test.YtcpdllghlbdhiaaDoorPkab
import Derived.Test.YtcpdllghlbdhiaaDoorPkak
namespace Go.Proofs.YtcpdllghlbdhiaaDoor
open Go.ChangeShapes Go.WideShapes Go.ChangeAt Go.RowKit Go.Maps
set_option linter.unusedVariables false
set_option maxRecDepth 100000

theorem parsN_err (l : List UInt8) : ∀ f ps k, (parsN l f ps k).2.2 ≠ 0 → parsN l f ps k = ([], 0, (parsN l f ps k).2.2)
  | 0, ps, k, h => absurd rfl h
  | f + 1, ps, k, h => by
    rw [parsN] at h ⊢
    split
    · next h1 => rw [if_pos h1] at h; exact absurd rfl h
    · next h1 =>
      rw [if_neg h1] at h
      split
      · rfl
      · next h2 =>
        rw [if_neg h2] at h
        split
        · rfl
        · next h3 =>
          rw [if_neg h3] at h
          exact parsN_err l f _ _ h
theorem parsN_go (l : List UInt8) : ∀ f ps k, k ≤ l.length → (parsN l f ps k).2.2 = 0 → ∃ i : Nat, (parsN l f ps k).2.1 = i ∧ k ≤ i ∧ i ≤ l.length
  | 0, ps, k, hk, h => ⟨k, rfl, Nat.le_refl _, hk⟩
  | f + 1, ps, k, hk, h => by
    rw [parsN] at h ⊢
    split
    · exact ⟨k, rfl, Nat.le_refl _, hk⟩
    · next h1 =>
      rw [if_neg h1] at h
      split
      · next h2 => rw [if_pos h2] at h; exact absurd h h2
      · next h2 =>
        rw [if_neg h2] at h
        split
        · next h3 => rw [if_pos h3] at h; exact absurd h (by show (12 : Int) ≠ 0; omega)
        · next h3 =>
          rw [if_neg h3] at h
          have hb := blkN_le l l.length k hk
          obtain ⟨s, v, b, hp, h4, h5, _, _⟩ := pair_go hb.2 (by simpa using h2)
          rw [hp] at h ⊢
          simp only [Int.toNat_natCast] at h ⊢
          obtain ⟨i, h6, h7, h8⟩ := parsN_go l f _ b h5 h
          exact ⟨i, h6, by omega, h8⟩
theorem parsT_err (l : List UInt8) (k : Int) (h : (parsT l k).2.2 ≠ 0) : parsT l k = ([], 0, (parsT l k).2.2) := by
  unfold parsT at h ⊢
  split
  · rfl
  · next h1 => rw [if_neg h1] at h; exact parsN_err _ _ _ _ h
theorem parsT_go {l : List UInt8} {k : Nat} (hk : k ≤ l.length) (h : (parsT l (k : Int)).2.2 = 0) : ∃ (ps : Prs) (i : Nat), parsT l (k : Int) = (ps, (i : Int), 0) ∧ k ≤ i ∧ i ≤ l.length := by
  unfold parsT at h ⊢
  rw [if_neg (by omega), Int.toNat_natCast] at h ⊢
  obtain ⟨i, h1, h2, h3⟩ := parsN_go l (l.length + 1) [] k hk h
  refine ⟨(parsN l (l.length + 1) [] k).1, i, ?_, h2, h3⟩
  rw [← h1, ← h]
/-- A name, attributes, whether nothing is inside, the place behind, an error. -/
abbrev Tagg := List UInt8 × Prs × Bool × Int × Int
def noG (e : Int) : Tagg := ([], [], false, 0, e)
/-- A tag that begins an element, its name and its attributes read. -/
def tailT (l : List UInt8) (s : List UInt8) (ps : Prs) (q : Nat) : Tagg :=
  if atB l (q : Int) [47, 62] then (s, ps, true, (q : Int) + 2, 0) else if atB l (q : Int) [62] then (s, ps, false, (q : Int) + 1, 0) else noG 7
def openT (l : List UInt8) (k : Int) : Tagg :=
  if (begT l k [60]).2.2 ≠ 0 then noG (begT l k [60]).2.2
  else if (parsT l (begT l k [60]).2.1).2.2 ≠ 0 then noG (parsT l (begT l k [60]).2.1).2.2
  else tailT l (begT l k [60]).1 (parsT l (begT l k [60]).2.1).1 (blkN l l.length (parsT l (begT l k [60]).2.1).2.1.toNat)
/-- What Open tells. -/
def OpenPost (x : Tagg) (W : World) (e : Ending) (w' : World) : Prop :=
  ∃ v, e = .returned (.tuple #[.agg #[strV x.1, v, .bool x.2.2.1], .int .i64 x.2.2.2.1, .int .i64 x.2.2.2.2]) ∧ w'.ownsRow W.heap.size 74 2 v x.2.1.length (vQ x.2.1) ∧ Below W.heap.size W w'
theorem row_slice {w : World} {base : Nat} {e : TypeId} {size n : Nat} {v : Value} {xs : List Value} (h : w.ownsRow base e size v n xs) : ∃ A c, v = .slice A n c := by
  rcases h.2 with ⟨h1, h2⟩ | ⟨g, cap, _, h1, _⟩
  · exact ⟨none, 0, by rw [h1, h2]⟩
  · exact ⟨_, _, h1⟩
theorem three_cells {W : World} {b : Nat} {s0 s1 s2 : Value} (v0 v1 v2 : Value) (x0 : W.cell? ⟨b, 0, none⟩ = some s0) (x1 : W.cell? ⟨b, 1, none⟩ = some s1) (x2 : W.cell? ⟨b, 2, none⟩ = some s2) :
    (((W.setCell ⟨b, 0, none⟩ v0).setCell ⟨b, 1, none⟩ v1).setCell ⟨b, 2, none⟩ v2).cell? ⟨b, 0, none⟩ = some v0 ∧ (((W.setCell ⟨b, 0, none⟩ v0).setCell ⟨b, 1, none⟩ v1).setCell ⟨b, 2, none⟩ v2).cell? ⟨b, 1, none⟩ = some v1 ∧
    (((W.setCell ⟨b, 0, none⟩ v0).setCell ⟨b, 1, none⟩ v1).setCell ⟨b, 2, none⟩ v2).cell? ⟨b, 2, none⟩ = some v2 := by
  obtain ⟨c0, c1⟩ := two_cells v0 v1 x0 x1
  have x2' : ((W.setCell ⟨b, 0, none⟩ v0).setCell ⟨b, 1, none⟩ v1).cell? ⟨b, 2, none⟩ = some s2 := by
    rw [World.cell?_setCell_other (h := by simp), World.cell?_setCell_other (h := by simp)]; exact x2
  refine ⟨?_, ?_, World.cell?_setCell_same' _ ⟨b, 2, none⟩ v2 (by rw [x2']; rfl)⟩
  · rw [World.cell?_setCell_other (h := by simp)]; exact c0
  · rw [World.cell?_setCell_other (h := by simp)]; exact c1
end Go.Proofs.YtcpdllghlbdhiaaDoor
namespace Go.Proofs.YtcpdllghlbdhiaaDoor
open Go.ChangeShapes Go.WideShapes Go.ChangeAt Go.RowKit Go.Maps
set_option linter.unusedVariables false
set_option maxRecDepth 100000

theorem own_set {w : World} {b0 : Nat} {e : TypeId} {size n o : Nat} {v : Value} {xs : List Value} (h : w.ownsRow (b0 + 1) e size v n xs) (u : Value) : (w.setCell ⟨b0, o, none⟩ u).ownsRow (b0 + 1) e size v n xs := by
  refine ⟨h.1, ?_⟩
  rcases h.2 with hn | ⟨g, cap, cur, e1, h1, h2, h3⟩
  · exact .inl hn
  · exact .inr ⟨g, cap, cur, e1, h1, by rw [Below.heap_setCell _ _ _ _ (by simp; omega)]; exact h2, h3⟩
/-- A new tag's cells, as every later world shows them. -/
def NewTagR (w W : World) : Prop := ∀ w', Below W.heap.size W w' →
  w'.cell? ⟨w.heap.size, 0, none⟩ = some (.string ⟨#[]⟩) ∧ w'.cell? ⟨w.heap.size, 1, none⟩ = some (.slice none 0 0) ∧ w'.cell? ⟨w.heap.size, 2, none⟩ = some (.bool false) ∧ w'.frozen? ⟨w.heap.size, 0, none⟩ = false ∧ w'.frozen? ⟨w.heap.size, 1, none⟩ = false ∧ w'.frozen? ⟨w.heap.size, 2, none⟩ = false ∧ Below w.heap.size w w'
theorem newTagR (w : World) : NewTagR w (w.alloc (.cells #[.string ⟨#[]⟩, .slice none 0 0, .bool false] 66)) := by
  intro w' hb
  have B0 := (Below.refl w.heap.size w).alloc (Nat.le_refl _) (.cells #[.string ⟨#[]⟩, .slice none 0 0, .bool false] 66)
  refine ⟨(hb.cell (by simp)).trans (by simp [World.cell?_alloc_new]), (hb.cell (by simp)).trans (by simp [World.cell?_alloc_new]), (hb.cell (by simp)).trans (by simp [World.cell?_alloc_new]), (hb.frozen (by simp)).trans (World.frozen?_alloc_new ..), (hb.frozen (by simp)).trans (World.frozen?_alloc_new ..), (hb.frozen (by simp)).trans (World.frozen?_alloc_new ..), B0.trans (hb.mono B0.size)⟩
set_option maxHeartbeats 4000000 in
theorem ropen_any (l : List UInt8) (A : Option Addr) (n c : Nat) (k : Int) (w : World) (hn : l.length = n) (hnc : n ≤ c) (hm : c ≤ 9223372036854775807) (hn9 : n ≤ 1000000) (hk : I64 k) (hs : Sees w A (vB l)) (ht : TabN w) :
    Calls Tryd.prog 43 #[.slice A n c, .int .i64 k] w (OpenPost (openT l k) w) := by
  have hkl := hk.1
  have hkh := hk.2
  have B0 := (Below.refl w.heap.size w).alloc (Nat.le_refl _) (.cells #[.string ⟨#[]⟩, .slice none 0 0, .bool false] 66)
  have NP := Lib.hid (newTagR w)
  by_cases hout : k < 0 ∨ (n : Int) < k
  · have hv : openT l k = noG 3 := by
      have hb : begT l k [60] = noT 3 := by unfold begT; rw [if_pos (by rw [hn]; exact hout)]
      unfold openT
      rw [hb, if_pos (by show (3 : Int) ≠ 0; omega)]
      rfl
    rw [hv]
    clear hv hs
    rcases hout with h0 | h0
    all_goals
      go_enter Tryd.func43, Tryd.ntmps43
      go_wp2_with fail
      go_returns
      exact ⟨_, rfl, World.ownsRow_nil _ _ _ _, B0⟩
  · obtain ⟨j, rfl⟩ : ∃ j : Nat, k = j := ⟨k.toNat, by omega⟩
    have hj : j ≤ n := by omega
    have HA := fun (w' : World) (hb : Below w.heap.size w w') => rat_any l [60] A n c (j : Int) w' hn hnc hm hn9 hk (by simp) (by simp) (hs.below hb)
    cases hq : atB l (j : Int) [60] with
    | false =>
      have hv : openT l (j : Int) = noG 7 := by
        have hb : begT l (j : Int) [60] = noT 7 := by unfold begT; rw [if_neg (by rw [hn]; exact hout), if_pos hq]
        unfold openT
        rw [hb, if_pos (by show (7 : Int) ≠ 0; omega)]
        rfl
      rw [hv]
      rw [hq] at HA
      have KA := Lib.hid HA
      clear hv hs HA hq hn
      go_enter Tryd.func43, Tryd.ntmps43
      go_wp2_with fail
      refine (KA.out _ B0).mono ?_
      rintro e w1 ⟨rfl, rfl⟩
      go_wp2_with fail
      go_returns
      exact ⟨_, rfl, World.ownsRow_nil _ _ _ _, B0⟩
    | true =>
      rw [hq] at HA
      have KA := Lib.hid HA
      have hb : begT l (j : Int) [60] = nmT l ((j : Int) + 1) := by unfold begT; rw [if_neg (by rw [hn]; exact hout), if_neg (by rw [hq]; simp)]; rfl
      have hf := atB_fit hq (by simp)
      have H3 := fun (w' : World) (hb : Below w.heap.size w w') => rread_any l A n c ((j : Int) + 1) w' false hn hnc (by omega) ⟨by omega, by omega⟩ (hs.below hb)
      rw [show kindP false startN = startN from rfl, show kindP false charN = charN from rfl, readV_tr] at H3
      unfold openT
      rw [hb]
      clear HA hb
      by_cases h0 : (nmT l ((j : Int) + 1)).2.2 = 0
      rotate_left
      · rw [if_pos h0]
        rw [nmT_err l _ h0] at H3
        obtain ⟨e0, he0⟩ : ∃ e0, (nmT l ((j : Int) + 1)).2.2 = e0 := ⟨_, rfl⟩
        rw [he0] at h0 H3 ⊢
        rw [trV_no] at H3
        have K3 := Lib.hid H3
        have t1 : (e0 != 0) = true := by simpa using h0
        clear H3 h0 he0 hs ht hq hn
        go_enter Tryd.func43, Tryd.ntmps43
        go_wp2_with fail
        refine (KA.out _ B0).mono ?_
        rintro e w0 ⟨rfl, rfl⟩
        go_wp2_with fail
        refine (K3.out _ B0).mono ?_
        rintro e w1 ⟨rfl, hb1⟩
        obtain ⟨x0, x1, x2, v0, v1, v2, B1⟩ := NP.out w1 hb1
        go_wp2_with fail
        (try simp only [Exit.inBlock, Exit.then])
        obtain ⟨c0, c1, c2⟩ := three_cells (.string ⟨#[]⟩) (.slice none 0 0) (.bool false) x0 x1 x2
        refine bodyPost_ret (by simp [results, Tryd.results43, go_sem, c0, c1, c2]; first | rfl | done) rfl ?_
        refine ⟨_, rfl, ?_, ((B1.setCell (Nat.le_refl _) _).setCell (Nat.le_refl _) _).setCell (Nat.le_refl _) _⟩
        exact World.ownsRow_nil _ _ _ _
      have e2 : (j : Int) + 1 = ((j + 1 : Nat) : Int) := by omega
      obtain ⟨z, hz, hz1, hzl, _⟩ := nmT_go (l := l) (k := j + 1) (by simpa using hf) (by rw [← e2]; exact h0)
      rw [← e2] at hz
      obtain ⟨s, hsv⟩ : ∃ s, (l.drop (j + 1)).take (z - (j + 1)) = s := ⟨_, rfl⟩
      rw [hsv] at hz
      rw [hz] at H3 ⊢
      rw [if_neg (by simp)]
      unfold trV at H3
      have K3 := Lib.hid H3
      simp only
      have H4 := fun (w' : World) (hb : Below w.heap.size w w') => rpairs_any l A n c (z : Int) w' hn hnc hm hn9 ⟨by omega, by omega⟩ (hs.below hb) (ht.below hb)
      clear H3 hz hsv h0 e2 hf hq
      by_cases h5 : (parsT l (z : Int)).2.2 = 0
      rotate_left
      · rw [if_pos h5]
        rw [parsT_err _ _ h5] at H4
        obtain ⟨e0, he0⟩ : ∃ e0, (parsT l (z : Int)).2.2 = e0 := ⟨_, rfl⟩
        rw [he0] at h5 H4 ⊢
        have K4 := Lib.hid H4
        have t1 : (e0 != 0) = true := by simpa using h5
        clear H4 h5 he0 hs ht hn
        go_enter Tryd.func43, Tryd.ntmps43
        go_wp2_with fail
        refine (KA.out _ B0).mono ?_
        rintro e w0 ⟨rfl, rfl⟩
        go_wp2_with fail
        refine (K3.out _ B0).mono ?_
        rintro e w1 ⟨rfl, hb1⟩
        obtain ⟨x0, x1, x2, v0, v1, v2, B1⟩ := NP.out w1 hb1
        go_wp2_with fail
        refine (K4.out w1 B1).mono ?_
        rintro e w2 ⟨v, rfl, hown, hb2⟩
        obtain ⟨A', c', rfl⟩ := row_slice hown
        clear x0 x1 x2 v0 v1 v2 B1
        obtain ⟨x0, x1, x2, v0, v1, v2, B1⟩ := NP.out w2 (hb1.trans (hb2.mono hb1.size))
        clear hb1 hb2 hown
        go_wp2_with fail
        (try simp only [Exit.inBlock, Exit.then])
        obtain ⟨c0, c1, c2⟩ := three_cells (.string ⟨#[]⟩) (.slice none 0 0) (.bool false) x0 x1 x2
        refine bodyPost_ret (by simp [results, Tryd.results43, go_sem, c0, c1, c2]; first | rfl | done) rfl ?_
        refine ⟨_, rfl, ?_, ((B1.setCell (Nat.le_refl _) _).setCell (Nat.le_refl _) _).setCell (Nat.le_refl _) _⟩
        exact World.ownsRow_nil _ _ _ _
      obtain ⟨ps, i, hp, hzi, hil⟩ := parsT_go hzl h5
      rw [hp] at H4 ⊢
      rw [if_neg (by simp)]
      simp only [Int.toNat_natCast]
      have hbl := blkN_le l l.length i hil
      have H5 := fun (w' : World) (hb : Below w.heap.size w w') => rblanks_any l A n c (i : Int) w' hn hnc (by omega) ⟨by omega, by omega⟩ (hs.below hb)
      rw [blkV_in hil] at H5
      obtain ⟨q, hqq⟩ : ∃ q, blkN l l.length i = q := ⟨_, rfl⟩
      rw [hqq] at H5 hbl ⊢
      have hqn : q ≤ n := by omega
      have K4 := Lib.hid H4
      have K5 := Lib.hid H5
      have H6 := fun (w' : World) (hb : Below w.heap.size w w') => rat_any l [47, 62] A n c (q : Int) w' hn hnc hm hn9 ⟨by omega, by omega⟩ (by simp) (by simp) (hs.below hb)
      have H7 := fun (w' : World) (hb : Below w.heap.size w w') => rat_any l [62] A n c (q : Int) w' hn hnc hm hn9 ⟨by omega, by omega⟩ (by simp) (by simp) (hs.below hb)
      unfold tailT
      clear H4 H5 hp h5 hqq hbl hs ht hn hzi hil hzl
      cases h6 : atB l (q : Int) [47, 62] with
      | true =>
        rw [h6] at H6
        have K6 := Lib.hid H6
        rw [if_pos rfl]
        clear H6 H7 h6
        go_enter Tryd.func43, Tryd.ntmps43
        go_wp2_with fail
        refine (KA.out _ B0).mono ?_
        rintro e w0 ⟨rfl, rfl⟩
        go_wp2_with fail
        refine (K3.out _ B0).mono ?_
        rintro e w1 ⟨rfl, hb1⟩
        obtain ⟨x0, x1, x2, v0, v1, v2, B1⟩ := NP.out w1 hb1
        go_wp2_with fail
        refine (K4.out w1 B1).mono ?_
        rintro e w2 ⟨v, rfl, hown, hb2⟩
        obtain ⟨A', c', rfl⟩ := row_slice hown
        have hw1 : w.heap.size + 1 ≤ w1.heap.size := by have h9 := hb1.size; simp at h9; omega
        have HO := Lib.hid (q_base hown hw1)
        clear x0 x1 x2 v0 v1 v2 B1
        obtain ⟨x0, x1, x2, v0, v1, v2, B1⟩ := NP.out w2 (hb1.trans (hb2.mono hb1.size))
        have HB2 := Lib.hid B1
        clear hb1 hb2 hown
        go_wp2_with fail
        refine (K5.out w2 B1).mono ?_
        rintro e w3 ⟨rfl, rfl⟩
        go_wp2_with fail
        refine (K6.out w2 B1).mono ?_
        rintro e w3 ⟨rfl, rfl⟩
        go_wp2_with fail
        have hwne := HB2.out.size
        (try simp only [Exit.inBlock, Exit.then])
        obtain ⟨c0, c1, c2⟩ := three_cells (strV s) (.slice A' ps.length c') (.bool true) x0 x1 x2
        refine bodyPost_ret (by simp [results, Tryd.results43, go_sem, c0, c1, c2]; first | rfl | done) rfl ?_
        refine ⟨_, rfl, ?_, ((B1.setCell (Nat.le_refl _) _).setCell (Nat.le_refl _) _).setCell (Nat.le_refl _) _⟩
        exact q_base (own_set (own_set (own_set HO.out _) _) _) (Nat.le_succ _)
      | false =>
        rw [h6] at H6
        have K6 := Lib.hid H6
        rw [if_neg (by simp)]
        cases h7 : atB l (q : Int) [62] with
        | true =>
          rw [h7] at H7
          have K7 := Lib.hid H7
          rw [if_pos rfl]
          clear H6 H7 h6 h7
          go_enter Tryd.func43, Tryd.ntmps43
          go_wp2_with fail
          refine (KA.out _ B0).mono ?_
          rintro e w0 ⟨rfl, rfl⟩
          go_wp2_with fail
          refine (K3.out _ B0).mono ?_
          rintro e w1 ⟨rfl, hb1⟩
          obtain ⟨x0, x1, x2, v0, v1, v2, B1⟩ := NP.out w1 hb1
          go_wp2_with fail
          refine (K4.out w1 B1).mono ?_
          rintro e w2 ⟨v, rfl, hown, hb2⟩
          obtain ⟨A', c', rfl⟩ := row_slice hown
          have hw1 : w.heap.size + 1 ≤ w1.heap.size := by have h9 := hb1.size; simp at h9; omega
          have HO := Lib.hid (q_base hown hw1)
          clear x0 x1 x2 v0 v1 v2 B1
          obtain ⟨x0, x1, x2, v0, v1, v2, B1⟩ := NP.out w2 (hb1.trans (hb2.mono hb1.size))
          have HB2 := Lib.hid B1
          clear hb1 hb2 hown
          go_wp2_with fail
          refine (K5.out w2 B1).mono ?_
          rintro e w3 ⟨rfl, rfl⟩
          go_wp2_with fail
          refine (K6.out w2 B1).mono ?_
          rintro e w3 ⟨rfl, rfl⟩
          go_wp2_with fail
          refine (K7.out w2 HB2.out).mono ?_
          rintro e w4 ⟨rfl, rfl⟩
          go_wp2_with fail
          have hwne := HB2.out.size
          (try simp only [Exit.inBlock, Exit.then])
          obtain ⟨c0, c1, c2⟩ := three_cells (strV s) (.slice A' ps.length c') (.bool false) x0 x1 x2
          refine bodyPost_ret (by simp [results, Tryd.results43, go_sem, c0, c1, c2]; first | rfl | done) rfl ?_
          refine ⟨_, rfl, ?_, ((B1.setCell (Nat.le_refl _) _).setCell (Nat.le_refl _) _).setCell (Nat.le_refl _) _⟩
          exact q_base (own_set (own_set (own_set HO.out _) _) _) (Nat.le_succ _)
        | false =>
          rw [h7] at H7
          have K7 := Lib.hid H7
          rw [if_neg (by simp)]
          clear H6 H7 h6 h7
          go_enter Tryd.func43, Tryd.ntmps43
          go_wp2_with fail
          refine (KA.out _ B0).mono ?_
          rintro e w0 ⟨rfl, rfl⟩
          go_wp2_with fail
          refine (K3.out _ B0).mono ?_
          rintro e w1 ⟨rfl, hb1⟩
          obtain ⟨x0, x1, x2, v0, v1, v2, B1⟩ := NP.out w1 hb1
          go_wp2_with fail
          refine (K4.out w1 B1).mono ?_
          rintro e w2 ⟨v, rfl, hown, hb2⟩
          obtain ⟨A', c', rfl⟩ := row_slice hown
          have hw1 : w.heap.size + 1 ≤ w1.heap.size := by have h9 := hb1.size; simp at h9; omega
          have HO := Lib.hid (q_base hown hw1)
          clear x0 x1 x2 v0 v1 v2 B1
          obtain ⟨x0, x1, x2, v0, v1, v2, B1⟩ := NP.out w2 (hb1.trans (hb2.mono hb1.size))
          have HB2 := Lib.hid B1
          clear hb1 hb2 hown
          go_wp2_with fail
          refine (K5.out w2 B1).mono ?_
          rintro e w3 ⟨rfl, rfl⟩
          go_wp2_with fail
          refine (K6.out w2 B1).mono ?_
          rintro e w3 ⟨rfl, rfl⟩
          go_wp2_with fail
          refine (K7.out w2 HB2.out).mono ?_
          rintro e w4 ⟨rfl, rfl⟩
          go_wp2_with fail
          (try simp only [Exit.inBlock, Exit.then])
          obtain ⟨c0, c1, c2⟩ := three_cells (.string ⟨#[]⟩) (.slice none 0 0) (.bool false) x0 x1 x2
          refine bodyPost_ret (by simp [results, Tryd.results43, go_sem, c0, c1, c2]; first | rfl | done) rfl ?_
          refine ⟨_, rfl, ?_, ((B1.setCell (Nat.le_refl _) _).setCell (Nat.le_refl _) _).setCell (Nat.le_refl _) _⟩
          exact World.ownsRow_nil _ _ _ _
end Go.Proofs.YtcpdllghlbdhiaaDoor
namespace Go.Proofs.YtcpdllghlbdhiaaDoor
open Go.ChangeShapes Go.WideShapes Go.ChangeAt Go.RowKit Go.Maps
set_option linter.unusedVariables false
set_option maxRecDepth 100000

/-- Where the rest of a row begins. -/
def tailA (A : Option Addr) (c q : Nat) : Option Addr := if c = q then A else A.map (·.add q)
theorem slice_from (W : World) (A : Option Addr) (n c q : Nat) (hq : q ≤ n) : (Instr.slice 22 (.slice A n c) (some (.int .i64 (q : Int))) none none).run Tryd.prog W = .ok (.slice (tailA A c q) (n - q) (c - q)) W := by
  have he : Tryd.prog.elem 22 = 5 := by simp [Program.elem, Tryd.underlying22]
  have hz : ∀ w, (Go.sizeOf 5).run Tryd.prog w = .ok 1 w := fun w => by kernel_rfl
  rw [run_slice_l W 22 _ _ _ (by rw [he]; exact Tryd.underlying22) .i64 _ (by omega) (by omega), he, hz]
  simp [Result.andThen, sliced, tailA]
theorem sees_tail {w : World} {A : Option Addr} {l : List UInt8} {c : Nat} (hs : Sees w A (vB l)) (hl : l.length ≤ c) (q : Nat) : Sees w (tailA A c q) (vB (l.drop q)) := by
  unfold tailA
  rw [vB_drop]
  exact hs.drop (by rw [vB_len]; omega)
/-- A constant's bytes, as a new row shows them. -/
theorem pre_const (l m : List UInt8) (A : Option Addr) (n c k : Nat) (w : World) (B : Nat) (f : Nat × Nat) (hn : l.length = n) (hnc : n ≤ c) (h9 : n ≤ 1000000) (hk : m.length = k) (h0 : 0 < k) (h8 : k ≤ 1000000) (hB : w.heap.size = B) (hs : Sees w A (vB l)) :
    Calls Tryd.prog 68 #[.slice A n c, .slice (some ⟨B, 0, none⟩) k k] (w.alloc (.cells (vB m).toArray 5 f)) fun e w' => e = .returned (.bool (l.take k == m)) ∧ w.alloc (.cells (vB m).toArray 5 f) = w' := by
  subst hB
  exact hasPre_any l m A _ n k c k _ hn hnc h9 hk h0 h8 (hs.below ((Below.refl _ w).alloc (Nat.le_refl _) _)) (sees_lit w (vB m) _ _)
theorem atB_take (l m : List UInt8) (q : Nat) : atB l (q : Int) m = ((l.drop q).take m.length == m) := by
  unfold atB; rw [decide_eq_true (by omega), Int.toNat_natCast]; rfl

/-- A new tag's cells, as every later world shows them. -/
def NewTagP (w W : World) : Prop := ∀ w', Below W.heap.size W w' →
  w'.cell? ⟨w.heap.size, 0, none⟩ = some (.string ⟨#[]⟩) ∧ w'.cell? ⟨w.heap.size, 1, none⟩ = some (.slice none 0 0) ∧ w'.cell? ⟨w.heap.size, 2, none⟩ = some (.bool false) ∧ w'.frozen? ⟨w.heap.size, 0, none⟩ = false ∧ w'.frozen? ⟨w.heap.size, 1, none⟩ = false ∧ w'.frozen? ⟨w.heap.size, 2, none⟩ = false ∧ Below w.heap.size w w'
theorem newTagP (w : World) : NewTagP w (w.alloc (.cells #[.string ⟨#[]⟩, .slice none 0 0, .bool false] 63)) := by
  intro w' hb
  have B0 := (Below.refl w.heap.size w).alloc (Nat.le_refl _) (.cells #[.string ⟨#[]⟩, .slice none 0 0, .bool false] 63)
  refine ⟨(hb.cell (by simp)).trans (by simp [World.cell?_alloc_new]), (hb.cell (by simp)).trans (by simp [World.cell?_alloc_new]), (hb.cell (by simp)).trans (by simp [World.cell?_alloc_new]), (hb.frozen (by simp)).trans (World.frozen?_alloc_new ..), (hb.frozen (by simp)).trans (World.frozen?_alloc_new ..), (hb.frozen (by simp)).trans (World.frozen?_alloc_new ..), B0.trans (hb.mono B0.size)⟩
theorem own_set1 {w : World} {b0 : Nat} {e : TypeId} {size n o : Nat} {v : Value} {xs : List Value} (h : w.ownsRow (b0 + 1) e size v n xs) (u : Value) : (w.setCell ⟨b0, o, none⟩ u).ownsRow (b0 + 1) e size v n xs := by
  refine ⟨h.1, ?_⟩
  rcases h.2 with hn | ⟨g, cap, cur, e1, h1, h2, h3⟩
  · exact .inl hn
  · exact .inr ⟨g, cap, cur, e1, h1, by rw [Below.heap_setCell _ _ _ _ (by simp; omega)]; exact h2, h3⟩

set_option maxHeartbeats 4000000 in
theorem open_any (l : List UInt8) (A : Option Addr) (n c : Nat) (k : Int) (w : World) (hn : l.length = n) (hnc : n ≤ c) (hm : c ≤ 9223372036854775807) (hn9 : n ≤ 1000000) (hk : I64 k) (hs : Sees w A (vB l)) (ht : TabC w) :
    Calls Tryd.prog 42 #[.slice A n c, .int .i64 k] w (OpenPost (openT l k) w) := by
  have hkl := hk.1
  have hkh := hk.2
  have B0 := (Below.refl w.heap.size w).alloc (Nat.le_refl _) (.cells #[.string ⟨#[]⟩, .slice none 0 0, .bool false] 63)
  have NP := Lib.hid (newTagP w)
  have H1 := fun (w' : World) (hb : Below w.heap.size w w') => begin_any l [60] A n c k w' hn hnc hm hn9 hk (by simp) (by simp) (hs.below hb) (ht.toN.below hb)
  -- what an error leaves
  have fin : ∀ (e0 : Int) (W : World), Below w.heap.size w W → W.cell? ⟨w.heap.size, 0, none⟩ = some (.string ⟨#[]⟩) → OpenPost (noG e0) w (.returned (.tuple #[.agg #[.string ⟨#[]⟩, .slice none 0 0, .bool false], .int .i64 0, .int .i64 e0]))
      (((W.setCell ⟨w.heap.size, 0, none⟩ (.string ⟨#[]⟩)).setCell ⟨w.heap.size, 1, none⟩ (.slice none 0 0)).setCell ⟨w.heap.size, 2, none⟩ (.bool false)) := fun e0 W hB _ =>
    ⟨_, rfl, World.ownsRow_nil _ _ _ _, ((hB.setCell (Nat.le_refl _) _).setCell (Nat.le_refl _) _).setCell (Nat.le_refl _) _⟩
  have FIN := Lib.hid fin
  clear fin
  by_cases h0 : (begT l k [60]).2.2 = 0
  rotate_left
  · have hv : openT l k = noG (begT l k [60]).2.2 := by unfold openT; rw [if_pos h0]
    rw [hv]
    rw [begT_err l k _ h0] at H1
    obtain ⟨e0, he0⟩ : ∃ e0, (begT l k [60]).2.2 = e0 := ⟨_, rfl⟩
    rw [he0] at h0 H1 ⊢
    rw [trV_no] at H1
    have K1 := Lib.hid H1
    have t1 : (e0 != 0) = true := by simpa using h0
    clear H1 h0 he0 hs ht hn hv
    go_enter Tryd.func42, Tryd.ntmps42
    go_wp2_with fail
    refine (K1.out _ B0).mono ?_
    rintro e w1 ⟨rfl, hb1⟩
    obtain ⟨x0, x1, x2, v0, v1, v2, B1⟩ := NP.out w1 hb1
    go_wp2_with fail
    (try simp only [Exit.inBlock, Exit.then])
    obtain ⟨c0, c1, c2⟩ := three_cells (.string ⟨#[]⟩) (.slice none 0 0) (.bool false) x0 x1 x2
    refine bodyPost_ret (by simp [results, Tryd.results42, go_sem, c0, c1, c2]; first | rfl | done) rfl (FIN.out e0 w1 B1 x0)
  obtain ⟨s, z, hb, hzl, hsl⟩ := begT_go (by simp) h0
  rw [hb] at H1
  unfold openT
  rw [hb, if_neg (by simp)]
  simp only
  unfold trV at H1
  have K1 := Lib.hid H1
  have H4 := fun (w' : World) (hb : Below w.heap.size w w') => pairs_any l A n c (z : Int) w' hn hnc hm hn9 ⟨by omega, by omega⟩ (hs.below hb) (ht.below hb)
  clear H1 hb h0
  by_cases h5 : (parsT l (z : Int)).2.2 = 0
  rotate_left
  · rw [if_pos h5]
    rw [parsT_err _ _ h5] at H4
    obtain ⟨e0, he0⟩ : ∃ e0, (parsT l (z : Int)).2.2 = e0 := ⟨_, rfl⟩
    rw [he0] at h5 H4 ⊢
    have K4 := Lib.hid H4
    have t1 : (e0 != 0) = true := by simpa using h5
    clear H4 h5 he0 hs ht hn
    go_enter Tryd.func42, Tryd.ntmps42
    go_wp2_with fail
    refine (K1.out _ B0).mono ?_
    rintro e w1 ⟨rfl, hb1⟩
    obtain ⟨x0, x1, x2, v0, v1, v2, B1⟩ := NP.out w1 hb1
    go_wp2_with fail
    refine (K4.out w1 B1).mono ?_
    rintro e w2 ⟨v, rfl, hown, hb2⟩
    obtain ⟨A', c', rfl⟩ := row_slice hown
    clear x0 x1 x2 v0 v1 v2 B1
    obtain ⟨x0, x1, x2, v0, v1, v2, B1⟩ := NP.out w2 (hb1.trans (hb2.mono hb1.size))
    clear hb1 hb2 hown
    go_wp2_with fail
    (try simp only [Exit.inBlock, Exit.then])
    obtain ⟨c0, c1, c2⟩ := three_cells (.string ⟨#[]⟩) (.slice none 0 0) (.bool false) x0 x1 x2
    refine bodyPost_ret (by simp [results, Tryd.results42, go_sem, c0, c1, c2]; first | rfl | done) rfl (FIN.out e0 w2 B1 x0)
  obtain ⟨ps, i, hp, hzi, hil⟩ := parsT_go hzl h5
  rw [hp] at H4 ⊢
  rw [if_neg (by simp)]
  simp only [Int.toNat_natCast]
  have hbl := blkN_le l l.length i hil
  have H5 := fun (w' : World) (hb : Below w.heap.size w w') => blanks_any l A n c (i : Int) w' hn hnc (by omega) ⟨by omega, by omega⟩ (hs.below hb)
  rw [blkV_in hil] at H5
  obtain ⟨q, hqq⟩ : ∃ q, blkN l l.length i = q := ⟨_, rfl⟩
  rw [hqq] at H5 hbl ⊢
  have hqn : q ≤ n := by omega
  have K4 := Lib.hid H4
  have K5 := Lib.hid H5
  have HSL := fun (W : World) => slice_from W A n c q hqn
  obtain ⟨A2, hA2⟩ : ∃ A2, tailA A c q = A2 := ⟨_, rfl⟩
  rw [hA2] at HSL
  have H6 := fun (w' : World) (hb : Below w.heap.size w w') (B : Nat) (hB : w'.heap.size = B) => pre_const (l.drop q) [47, 62] A2 (n - q) (c - q) 2 w' B (2, 3) (by rw [List.length_drop, hn]) (by omega) (by omega) rfl (by omega) (by omega) hB (hA2 ▸ sees_tail (hs.below hb) (by omega) q)
  have H7 := fun (w' : World) (hb : Below w.heap.size w w') (B : Nat) (hB : w'.heap.size = B) => pre_const (l.drop q) [62] A2 (n - q) (c - q) 1 w' B (1, 2) (by rw [List.length_drop, hn]) (by omega) (by omega) rfl (by omega) (by omega) hB (hA2 ▸ sees_tail (hs.below hb) (by omega) q)
  have kc := fun (w : World) (C : Array Value) (n c : Nat) => Lib.run_convert_bytes_const (P := Tryd.prog) w 22 5 C n c Tryd.underlying22 Tryd.underlying5
  have e6 := atB_take l [47, 62] q
  have e7 := atB_take l [62] q
  rw [show ([47, 62] : List UInt8).length = 2 from rfl] at e6
  rw [show ([62] : List UInt8).length = 1 from rfl] at e7
  rw [← e6] at H6
  rw [← e7] at H7
  unfold tailT
  clear H4 H5 hp h5 hqq hbl hs ht hn hzi hil hzl hA2 e6 e7
  have NAL : ∀ (W : World) (o : Obj), Below w.heap.size w W → Below w.heap.size w (W.alloc o) := fun W o h => h.alloc h.size o
  cases h6 : atB l (q : Int) [47, 62] with
  | true =>
    rw [h6] at H6
    have K6 := Lib.hid H6
    rw [if_pos rfl]
    clear H6 H7 h6
    go_enter Tryd.func42, Tryd.ntmps42
    go_wp2_with fail
    refine (K1.out _ B0).mono ?_
    rintro e w1 ⟨rfl, hb1⟩
    obtain ⟨x0, x1, x2, v0, v1, v2, B1⟩ := NP.out w1 hb1
    go_wp2_with fail
    refine (K4.out w1 B1).mono ?_
    rintro e w2 ⟨v, rfl, hown, hb2⟩
    obtain ⟨A', c', rfl⟩ := row_slice hown
    have hw1 : w.heap.size + 1 ≤ w1.heap.size := by have h9 := hb1.size; simp at h9; omega
    have HO := Lib.hid (q_base hown hw1)
    clear x0 x1 x2 v0 v1 v2 B1
    have hb12 := hb1.trans (hb2.mono hb1.size)
    obtain ⟨x0, x1, x2, v0, v1, v2, B1⟩ := NP.out w2 hb12
    clear hb1 hb2 hown
    go_wp2_with fail
    refine (K5.out w2 B1).mono ?_
    rintro e w3 ⟨rfl, rfl⟩
    go_wp2_with fail
    have hb13 := hb12.alloc hb12.size (.cells (vB [47, 62]).toArray 5 (2, 3))
    clear x0 x1 x2 v0 v1 v2
    refine (K6.out w2 B1 _ rfl).mono ?_
    rintro e w3 ⟨rfl, rfl⟩
    obtain ⟨x0, x1, x2, v0, v1, v2, B3⟩ := NP.out _ hb13
    go_wp2_with fail
    (try simp only [Exit.inBlock, Exit.then])
    obtain ⟨c0, c1, c2⟩ := three_cells (strV s) (.slice A' ps.length c') (.bool true) x0 x1 x2
    refine bodyPost_ret (by simp [results, Tryd.results42, go_sem, c0, c1, c2]; first | rfl | done) rfl ?_
    refine ⟨_, rfl, ?_, ((B3.setCell (Nat.le_refl _) _).setCell (Nat.le_refl _) _).setCell (Nat.le_refl _) _⟩
    exact q_base (own_set1 (own_set1 (own_set1 (HO.out.alloc _) _) _) _) (Nat.le_succ _)
  | false =>
    rw [h6] at H6
    have K6 := Lib.hid H6
    rw [if_neg (by simp)]
    cases h7 : atB l (q : Int) [62] with
    | true =>
      rw [h7] at H7
      have K7 := Lib.hid H7
      rw [if_pos rfl]
      clear H6 H7 h6 h7
      go_enter Tryd.func42, Tryd.ntmps42
      go_wp2_with fail
      refine (K1.out _ B0).mono ?_
      rintro e w1 ⟨rfl, hb1⟩
      obtain ⟨x0, x1, x2, v0, v1, v2, B1⟩ := NP.out w1 hb1
      go_wp2_with fail
      refine (K4.out w1 B1).mono ?_
      rintro e w2 ⟨v, rfl, hown, hb2⟩
      obtain ⟨A', c', rfl⟩ := row_slice hown
      have hw1 : w.heap.size + 1 ≤ w1.heap.size := by have h9 := hb1.size; simp at h9; omega
      have HO := Lib.hid (q_base hown hw1)
      clear x0 x1 x2 v0 v1 v2 B1
      have hb12 := hb1.trans (hb2.mono hb1.size)
      obtain ⟨x0, x1, x2, v0, v1, v2, B1⟩ := NP.out w2 hb12
      clear hb1 hb2 hown
      go_wp2_with fail
      refine (K5.out w2 B1).mono ?_
      rintro e w3 ⟨rfl, rfl⟩
      go_wp2_with fail
      have hb13 := hb12.alloc hb12.size (.cells (vB [47, 62]).toArray 5 (2, 3))
      have C3 := NAL _ (.cells (vB [47, 62]).toArray 5 (2, 3)) B1
      have HO3 := HO.out.alloc (.cells (vB [47, 62]).toArray 5 (2, 3))
      clear x0 x1 x2 v0 v1 v2
      refine (K6.out w2 B1 _ rfl).mono ?_
      rintro e w3 ⟨rfl, hw3⟩
      rw [hw3] at hb13 C3 HO3
      have hb14 := hb13.alloc hb13.size (.cells (vB [62]).toArray 5 (1, 2))
      have HO4 := Lib.hid HO3
      clear hw3 HO3
      go_wp2_with fail
      refine (K7.out w3 C3 _ rfl).mono ?_
      rintro e w4 ⟨rfl, rfl⟩
      obtain ⟨x0, x1, x2, v0, v1, v2, B3⟩ := NP.out _ hb14
      go_wp2_with fail
      (try simp only [Exit.inBlock, Exit.then])
      obtain ⟨c0, c1, c2⟩ := three_cells (strV s) (.slice A' ps.length c') (.bool false) x0 x1 x2
      refine bodyPost_ret (by simp [results, Tryd.results42, go_sem, c0, c1, c2]; first | rfl | done) rfl ?_
      refine ⟨_, rfl, ?_, ((B3.setCell (Nat.le_refl _) _).setCell (Nat.le_refl _) _).setCell (Nat.le_refl _) _⟩
      exact q_base (own_set1 (own_set1 (own_set1 (HO4.out.alloc _) _) _) _) (Nat.le_succ _)
    | false =>
      rw [h7] at H7
      have K7 := Lib.hid H7
      rw [if_neg (by simp)]
      clear H6 H7 h6 h7
      go_enter Tryd.func42, Tryd.ntmps42
      go_wp2_with fail
      refine (K1.out _ B0).mono ?_
      rintro e w1 ⟨rfl, hb1⟩
      obtain ⟨x0, x1, x2, v0, v1, v2, B1⟩ := NP.out w1 hb1
      go_wp2_with fail
      refine (K4.out w1 B1).mono ?_
      rintro e w2 ⟨v, rfl, hown, hb2⟩
      obtain ⟨A', c', rfl⟩ := row_slice hown
      clear x0 x1 x2 v0 v1 v2 B1
      have hb12 := hb1.trans (hb2.mono hb1.size)
      obtain ⟨x0, x1, x2, v0, v1, v2, B1⟩ := NP.out w2 hb12
      clear hb1 hb2 hown
      go_wp2_with fail
      refine (K5.out w2 B1).mono ?_
      rintro e w3 ⟨rfl, rfl⟩
      go_wp2_with fail
      have hb13 := hb12.alloc hb12.size (.cells (vB [47, 62]).toArray 5 (2, 3))
      have C3 := NAL _ (.cells (vB [47, 62]).toArray 5 (2, 3)) B1
      clear x0 x1 x2 v0 v1 v2
      refine (K6.out w2 B1 _ rfl).mono ?_
      rintro e w3 ⟨rfl, hw3⟩
      rw [hw3] at hb13 C3
      have hb14 := hb13.alloc hb13.size (.cells (vB [62]).toArray 5 (1, 2))
      clear hw3
      go_wp2_with fail
      refine (K7.out w3 C3 _ rfl).mono ?_
      rintro e w4 ⟨rfl, rfl⟩
      obtain ⟨x0, x1, x2, v0, v1, v2, B3⟩ := NP.out _ hb14
      go_wp2_with fail
      (try simp only [Exit.inBlock, Exit.then])
      obtain ⟨c0, c1, c2⟩ := three_cells (.string ⟨#[]⟩) (.slice none 0 0) (.bool false) x0 x1 x2
      refine bodyPost_ret (by simp [results, Tryd.results42, go_sem, c0, c1, c2]; first | rfl | done) rfl (FIN.out 7 _ B3 x0)
end Go.Proofs.YtcpdllghlbdhiaaDoor
namespace Go.Proofs.YtcpdllghlbdhiaaDoor
open Go.ChangeShapes Go.WideShapes Go.ChangeAt Go.RowKit Go.Maps
set_option linter.unusedVariables false
set_option maxRecDepth 100000

theorem parsN_len (l : List UInt8) : ∀ f ps k, k ≤ l.length → ps.length ≤ k → (parsN l f ps k).1.length ≤ l.length
  | 0, ps, k, hk, h => Nat.le_trans h hk
  | f + 1, ps, k, hk, h => by
    rw [parsN]
    split
    · exact Nat.le_trans h hk
    · next h1 =>
      split
      · simp
      · next h2 =>
        split
        · simp
        · next h3 =>
          have hb := blkN_le l l.length k hk
          obtain ⟨s, v, b, hp, h4, h5, _, _⟩ := pair_go hb.2 (by simpa using h2)
          rw [hp]
          simp only [Int.toNat_natCast]
          exact parsN_len l f _ b h5 (by rw [List.length_append]; simp; omega)
theorem parsT_len (l : List UInt8) (k : Int) : (parsT l k).1.length ≤ l.length := by
  unfold parsT
  split
  · simp
  · exact parsN_len l _ [] _ (by omega) (by simp)
theorem openT_len (l : List UInt8) (k : Int) : (openT l k).2.1.length ≤ l.length := by
  have := parsT_len l (begT l k [60]).2.1
  unfold openT
  split
  · simp [noG]
  · split
    · simp [noG]
    · unfold tailT
      split
      · exact this
      · split
        · exact this
        · simp [noG]
theorem ot1 : openT [60, 97, 32, 98, 61, 39, 99, 39, 32, 47, 62] 0 = ([97], [([98], [99])], true, 11, 0) := by kernel_rfl
theorem ot2 : openT [60, 97, 32, 98, 61, 39, 49, 39, 32, 98, 61, 39, 50, 39, 62] 0 = ([], [], false, 0, 12) := by kernel_rfl
theorem pair_lit (w : World) (s v : List UInt8) (t : TypeId) : ∀ k p, ([(s, v)] : Prs)[k]? = some p → (w.alloc (.cells #[strV s, strV v] t)).cell? ⟨w.heap.size, k * 2, none⟩ = some (strV p.1) ∧ (w.alloc (.cells #[strV s, strV v] t)).cell? ⟨w.heap.size, k * 2 + 1, none⟩ = some (strV p.2) := by
  intro k p h
  cases k with
  | zero =>
    obtain rfl : (s, v) = p := by simpa using h
    exact ⟨by simp [World.cell?_alloc_new], by simp [World.cell?_alloc_new]⟩
  | succ k => simp at h

theorem const_at2 (w : World) (o : Obj) (C : Array Value) (n c : Nat) : (convert 22 22 (.slice (some ⟨w.heap.size + 1, 0, none⟩) n c)).run Tryd.prog ((w.alloc o).alloc (.cells C 5)) = .ok (.slice (some ⟨w.heap.size + 1, 0, none⟩) n c) ((w.alloc o).alloc (.cells C 5 (C.size, C.size + 1))) := by
  have h := Lib.run_convert_bytes_const (P := Tryd.prog) (w.alloc o) 22 5 C n c Tryd.underlying22 Tryd.underlying5
  rwa [World.size_alloc] at h
set_option maxHeartbeats 2000000 in
theorem live10_any (w : World) (ht : TabC w) : Calls Tryd.prog 38 #[] w fun e w' => e = .returned (.bool true) ∧ Below w.heap.size w w' := by
  have H1 := open_any [60, 97, 32, 98, 61, 39, 99, 39, 32, 47, 62] (some ⟨w.heap.size, 0, none⟩) 11 11 0 (w.alloc (.cells (vB [60, 97, 32, 98, 61, 39, 99, 39, 32, 47, 62]).toArray 5 (11, 12))) rfl (by omega) (by omega) (by omega) ⟨by omega, by omega⟩
    (sees_lit w _ _ _) (ht.below ((Below.refl _ w).alloc (Nat.le_refl _) _))
  have kc2 := const_at2
  have H2 := fun (w' : World) (B : Nat) (hB : w'.heap.size = B) (hb : Below w.heap.size w w') => open_any [60, 97, 32, 98, 61, 39, 49, 39, 32, 98, 61, 39, 50, 39, 62] (some ⟨B, 0, none⟩) 15 15 0 (w'.alloc (.cells (vB [60, 97, 32, 98, 61, 39, 49, 39, 32, 98, 61, 39, 50, 39, 62]).toArray 5 (15, 16))) rfl (by omega) (by omega) (by omega) ⟨by omega, by omega⟩
    (hB ▸ sees_lit w' _ _ _) (ht.below (hb.alloc hb.size _))
  rw [ot1] at H1
  rw [ot2] at H2
  have K1 := Lib.hid H1
  have K2 := Lib.hid H2
  have hb0 : Below w.heap.size w (w.alloc (.cells (vB [60, 97, 32, 98, 61, 39, 99, 39, 32, 47, 62]).toArray 5 (11, 12))) := (Below.refl _ w).alloc (Nat.le_refl _) _
  have kc := fun (w : World) (C : Array Value) (n c : Nat) => Lib.run_convert_bytes_const (P := Tryd.prog) w 22 5 C n c Tryd.underlying22 Tryd.underlying5
  clear H1 H2 ht
  go_enter Tryd.func38, Tryd.ntmps38
  go_wp2_with fail
  refine K1.out.mono ?_
  rintro e w1 ⟨v, rfl, hown, hb1⟩
  have hb1' := hb0.trans (hb1.mono (by simp))
  rcases q_form hown rfl with ⟨_, h0⟩ | ⟨g1, c1, rfl, hg1, _, hc1⟩
  · exact absurd h0 (by simp)
  have HC1 := Lib.hid hc1
  clear hown hc1
  go_wp2_with fail
  have hbT := hb1'.alloc hb1'.size (.cells #[strV [97], .slice (some ⟨g1, 0, none⟩) 1 c1, .bool true] 63)
  have hcell : ∀ w', Below (w1.heap.size + 1) (w1.alloc (.cells #[strV [97], .slice (some ⟨g1, 0, none⟩) 1 c1, .bool true] 63)) w' → w'.cell? ⟨w1.heap.size, 0, none⟩ = some (strV [97]) ∧ w'.cell? ⟨w1.heap.size, 1, none⟩ = some (.slice (some ⟨g1, 0, none⟩) 1 c1) ∧ w'.cell? ⟨w1.heap.size, 2, none⟩ = some (.bool true) := fun w' h =>
    ⟨(h.cell (by simp)).trans (by simp [World.cell?_alloc_new]), (h.cell (by simp)).trans (by simp [World.cell?_alloc_new]), (h.cell (by simp)).trans (by simp [World.cell?_alloc_new])⟩
  have HCELL := Lib.hid hcell
  clear hcell
  refine (K2.out _ (w1.heap.size + 1) (by simp) hbT).mono ?_
  rintro e w2 ⟨v2, rfl, hown2, hb2⟩
  have hbU : Below (w1.heap.size + 1) (w1.alloc (.cells #[strV [97], .slice (some ⟨g1, 0, none⟩) 1 c1, .bool true] 63)) w2 := ((Below.refl _ _).alloc (by simp) _).trans (hb2.mono (by simp))
  have hb2' : Below w.heap.size w w2 := hbT.trans (hbU.mono (by have := hb1'.size; omega))
  obtain ⟨A2, c2, rfl⟩ := row_slice hown2
  have hb3 := hb2'.alloc hb2'.size (.cells #[.string ⟨#[]⟩, .slice A2 0 c2, .bool false] 63)
  have hb4 := hb3.alloc hb3.size (.cells #[strV [98], strV [99]] 74)
  have hsz2 : w1.heap.size + 1 ≤ w2.heap.size := by have h9 := hb2.size; simp at h9; omega
  have hU3 := hbU.alloc hsz2 (.cells #[.string ⟨#[]⟩, .slice A2 0 c2, .bool false] 63)
  obtain ⟨x0, x1, x2⟩ := HCELL.out _ hU3
  have hU4 := hU3.alloc (Nat.le_trans hsz2 (by simp)) (.cells #[strV [98], strV [99]] 74)
  have hV4 : Below w1.heap.size w1 _ := ((Below.refl w1.heap.size w1).alloc (Nat.le_refl _) (.cells #[strV [97], .slice (some ⟨g1, 0, none⟩) 1 c1, .bool true] 63)).trans (hU4.mono (Nat.le_succ _))
  have hlit := pair_lit (w2.alloc (.cells #[.string ⟨#[]⟩, .slice A2 0 c2, .bool false] 63)) [98] [99] 74
  rw [World.size_alloc] at hlit
  have HSM := Lib.hid (rsameP_some [([98], [99])] 1 g1 (w2.heap.size + 1) c1 1 _ rfl (by omega) (fun k p hp => ⟨cell_later hV4 (HC1.out k p hp).1, cell_later hV4 (HC1.out k p hp).2⟩) hlit)
  have hsz4 := hU4.size
  clear hlit hV4
  go_wp2_with fail
  refine HSM.out.mono ?_
  rintro e w4 ⟨rfl, hb5⟩
  obtain ⟨y0, y1, y2⟩ := HCELL.out _ (hU4.trans (hb5.mono (by simp; omega)))
  clear x0 x1 x2
  go_wp2_with fail
  go_ret
  exact ⟨rfl, hb4.trans (hb5.mono hb4.size)⟩
end Go.Proofs.YtcpdllghlbdhiaaDoor
namespace Go.Proofs.YtcpdllghlbdhiaaDoor
open Go.ChangeShapes Go.WideShapes Go.ChangeAt Go.RowKit
set_option linter.unusedVariables false

theorem sees_row8 {w : World} {x : Addr} {len cap : Nat} {zs : List Int} (hz : zs.length = cap) (hl : len ≤ cap) (hc : ∀ i, i < zs.length → w.cell? (x.add i) = some (.int .u8 (zs.getD i 0)))
    (hw : ∀ n ∈ zs, (Lit.int .u8 n).wf = true) : ∃ l : List UInt8, l.length = len ∧ Sees w (some x) (vB l) := by
  obtain ⟨h1, h2⟩ := sees_row hz hl hc
  refine ⟨(zs.take len).map fun z => UInt8.ofNat z.toNat, by rw [List.length_map, h1], ?_⟩
  have e : vB ((zs.take len).map fun z => UInt8.ofNat z.toNat) = (zs.take len).map (Value.int .u8) := by
    unfold vB
    rw [List.map_map]
    apply List.map_congr_left
    intro z hz
    have := bounds_u8 (hw z (List.mem_of_mem_take hz))
    show Value.int .u8 _ = _
    rw [ofNat_toNat (by omega), Int.toNat_of_nonneg this.1]
  rw [e]
  exact h2

end Go.Proofs.YtcpdllghlbdhiaaDoor
