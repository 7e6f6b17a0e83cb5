/- Tags that end an element, by the program and by the document. One attribute of a tag: a name, a sign and a value. Attributes, one behind the other: the pure part. What attributes bind (pure). What may be bound, by the program and by the document; the attribute that binds. -/
import Derived.Test.YtdmfladcldkmeaaDoorPkaf
import Derived.Test.YtdmfladcldkmeaaDoorPkaj
namespace Go.Proofs.YtdmfladcldkmeaaDoor
open Go.ChangeShapes Go.WideShapes Go.ChangeAt Go.RowKit
set_option linter.unusedVariables false
set_option maxRecDepth 100000

theorem begT_err (l : List UInt8) (k : Int) (m : List UInt8) (h : (begT l k m).2.2 ≠ 0) : begT l k m = noT (begT l k m).2.2 := by
  unfold begT at h ⊢
  split
  · rfl
  · next h1 =>
    rw [if_neg h1] at h
    split
    · rfl
    · next h2 => rw [if_neg h2] at h; exact nmT_err _ _ h
theorem begT_go {l : List UInt8} {k : Int} {m : List UInt8} (hm : m ≠ []) (h : (begT l k m).2.2 = 0) : ∃ (s : List UInt8) (z : Nat), begT l k m = (s, (z : Int), 0) ∧ z ≤ l.length ∧ s.length ≤ 1024 := by
  unfold begT at h ⊢
  split
  · next h1 => rw [if_pos h1] at h; exact absurd h (by show (3 : Int) ≠ 0; omega)
  · next h1 =>
    rw [if_neg h1] at h
    split
    · next h2 => rw [if_pos h2] at h; exact absurd h (by show (7 : Int) ≠ 0; omega)
    · next h2 =>
      rw [if_neg h2] at h
      obtain ⟨j, rfl⟩ : ∃ j : Nat, k = j := ⟨k.toNat, by omega⟩
      have hf := atB_fit (by simpa using h2) hm
      have e : (j : Int) + (m.length : Int) = ((j + m.length : Nat) : Int) := by omega
      rw [e] at h ⊢
      obtain ⟨z, hz, h3, h4, h5⟩ := nmT_go hf h
      exact ⟨_, z, hz, h4, by rw [List.length_take]; omega⟩
theorem blkN_le (l : List UInt8) : ∀ f k, k ≤ l.length → k ≤ blkN l f k ∧ blkN l f k ≤ l.length
  | 0, k, h => ⟨Nat.le_refl _, h⟩
  | f + 1, k, h => by
    rw [blkN]
    split
    · next h1 => have := blkN_le l f (k + 1) (by omega); exact ⟨by omega, this.2⟩
    · exact ⟨Nat.le_refl _, h⟩
/-- A tag that ends an element. -/
def closeT (l : List UInt8) (k : Int) : Trip :=
  if (begT l k [60, 47]).2.2 ≠ 0 then noT (begT l k [60, 47]).2.2
  else if blkN l l.length (begT l k [60, 47]).2.1.toNat = l.length ∨ byteAt l (blkN l l.length (begT l k [60, 47]).2.1.toNat) ≠ 62 then noT 7
  else ((begT l k [60, 47]).1, ((blkN l l.length (begT l k [60, 47]).2.1.toNat + 1 : Nat) : Int), 0)
theorem at_one {l : List UInt8} {z b : Nat} (hb : b < 256) (hz : z ≤ l.length) : atB l (z : Int) [UInt8.ofNat b] = decide (z < l.length ∧ byteAt l z = b) := by
  rw [Bool.eq_iff_iff, decide_eq_true_eq]
  unfold atB
  rw [Bool.and_eq_true, beq_iff_eq, Int.toNat_natCast, decide_eq_true_eq]
  constructor
  · rintro ⟨_, h⟩
    have hlt : z < l.length := by
      rcases Nat.lt_or_ge z l.length with h1 | h1
      · exact h1
      · rw [List.drop_eq_nil_of_le h1] at h; simp at h
    refine ⟨hlt, ?_⟩
    rw [List.drop_eq_getElem_cons hlt] at h
    simp only [List.length_cons, List.length_nil, List.take_succ_cons, List.take_zero, List.cons.injEq, and_true] at h
    unfold byteAt
    rw [List.getElem?_eq_getElem hlt, Option.getD_some, h]
    exact ofNat_toNat hb
  · rintro ⟨hlt, h⟩
    refine ⟨by omega, ?_⟩
    rw [List.drop_eq_getElem_cons hlt]
    unfold byteAt at h
    rw [List.getElem?_eq_getElem hlt, Option.getD_some] at h
    simp only [List.length_cons, List.length_nil, List.take_succ_cons, List.take_zero]
    rw [← h]
    simp

set_option maxHeartbeats 2000000 in
theorem close_any (l : List UInt8) (A : Option Addr) (n c : Nat) (k : Int) (w : World) (hn : l.length = n) (hnc : n ≤ c) (hm : c ≤ 9223372036854775807) (hn9 : n ≤ 1000000) (hk : I64 k) (hs : Sees w A (vB l)) (ht : TabN w) :
    Calls Tryd.prog 22 #[.slice A n c, .int .i64 k] w fun e w' => e = .returned (trV (closeT l k)) ∧ Below w.heap.size w w' := by
  have HB := begin_any l [60, 47] A n c k w hn hnc hm hn9 hk (by simp) (by simp) hs ht
  have hbe := begT_err l k [60, 47]
  have hbg := begT_go (l := l) (k := k) (m := [60, 47]) (by simp)
  unfold closeT
  by_cases h0 : (begT l k [60, 47]).2.2 = 0
  · obtain ⟨s, z, hz, hzl, _⟩ := hbg h0
    rw [hz] at HB ⊢
    rw [if_neg (by simp)]
    simp only [Int.toNat_natCast]
    have hbl := blkN_le l l.length z hzl
    have H2 := fun (w' : World) (hb : Below w.heap.size w w') => blanks_any l A n c (z : Int) w' hn hnc (by omega) ⟨by omega, by omega⟩ (hs.below hb)
    rw [blkV_in hzl] at H2
    obtain ⟨q, hq⟩ : ∃ q, blkN l l.length z = q := ⟨_, rfl⟩
    rw [hq] at H2 hbl ⊢
    have K2 := Lib.hid H2
    unfold trV at HB
    have KB := Lib.hid HB
    by_cases hqn : q = l.length
    · rw [if_pos (.inl hqn), trV_no]
      rw [hn] at hqn
      subst hqn
      clear hs HB H2 hbe hbg h0 hz hq hbl hzl hn
      go_enter Tryd.func22, Tryd.ntmps22
      go_wp2_with fail
      refine KB.out.mono ?_
      rintro e w1 ⟨rfl, hb1⟩
      go_wp2_with fail
      refine (K2.out w1 hb1).mono ?_
      rintro e w2 ⟨rfl, rfl⟩
      go_wp2_with fail
      go_ret3
      exact ⟨rfl, hb1⟩
    · obtain ⟨ad, rfl, hcell⟩ := hs.byte (k := q) (by omega)
      obtain ⟨d, hd⟩ : ∃ d, byteAt l q = d := ⟨_, rfl⟩
      have hd9 := byteAt_lt l q
      rw [hd] at hcell hd9 ⊢
      have hqn' : q ≠ n := by omega
      have hql : q < n := by omega
      have hC := fun (w' : World) (hb : Below w.heap.size w w') => cell_later hb hcell
      have KC := Lib.hid hC
      by_cases h62 : d = 62
      · rw [if_neg (by omega)]
        subst h62
        unfold trV
        clear hs HB H2 hbe hbg h0 hz hq hbl hzl hn hcell hd hC hqn
        go_enter Tryd.func22, Tryd.ntmps22
        go_wp2_with fail
        refine KB.out.mono ?_
        rintro e w1 ⟨rfl, hb1⟩
        have hcell1 := KC.out w1 hb1
        go_wp2_with fail
        refine (K2.out w1 hb1).mono ?_
        rintro e w2 ⟨rfl, rfl⟩
        go_wp2_with fail
        go_ret3
        exact ⟨ret_t3 (by omega), hb1⟩
      · rw [if_pos (.inr h62), trV_no]
        have t1 : ((d : Int) != 62) = true := by simp; omega
        clear hs HB H2 hbe hbg h0 hz hq hbl hzl hn hcell hd hC hqn h62
        go_enter Tryd.func22, Tryd.ntmps22
        go_wp2_with fail
        refine KB.out.mono ?_
        rintro e w1 ⟨rfl, hb1⟩
        have hcell1 := KC.out w1 hb1
        go_wp2_with fail
        refine (K2.out w1 hb1).mono ?_
        rintro e w2 ⟨rfl, rfl⟩
        go_wp2_with fail
        go_ret3
        exact ⟨rfl, hb1⟩
  · rw [if_pos h0]
    rw [hbe h0] at HB
    obtain ⟨e0, he0⟩ : ∃ e0, (begT l k [60, 47]).2.2 = e0 := ⟨_, rfl⟩
    rw [he0] at HB h0 ⊢
    rw [trV_no] at HB ⊢
    have t1 : (e0 != 0) = true := by simpa using h0
    have KB := Lib.hid HB
    clear hs HB hbe hbg h0 he0 hn
    go_enter Tryd.func22, Tryd.ntmps22
    go_wp2_with fail
    refine KB.out.mono ?_
    rintro e w1 ⟨rfl, hb1⟩
    go_wp2_with fail
    go_ret3
    exact ⟨rfl, hb1⟩
end Go.Proofs.YtdmfladcldkmeaaDoor
namespace Go.Proofs.YtdmfladcldkmeaaDoor
open Go.ChangeShapes Go.WideShapes Go.ChangeAt Go.RowKit
set_option linter.unusedVariables false
set_option maxRecDepth 100000

/-- A name, a value, the place behind, an error. -/
abbrev Quad := List UInt8 × List UInt8 × Int × Int
def noQ (e : Int) : Quad := ([], [], 0, e)
def quV (x : Quad) : Value := .tuple #[.agg #[strV x.1, strV x.2.1], .int .i64 x.2.2.1, .int .i64 x.2.2.2]
/-- One attribute. -/
def pairT (l : List UInt8) (k : Int) : Quad :=
  if (nmT l k).2.2 ≠ 0 then noQ (nmT l k).2.2
  else if blkN l l.length (nmT l k).2.1.toNat = l.length ∨ byteAt l (blkN l l.length (nmT l k).2.1.toNat) ≠ 61 then noQ 7
  else if (strT 60 l (blkN l l.length (blkN l l.length (nmT l k).2.1.toNat + 1) : Nat)).2.2 ≠ 0 then noQ (strT 60 l (blkN l l.length (blkN l l.length (nmT l k).2.1.toNat + 1) : Nat)).2.2
  else ((nmT l k).1, (strT 60 l (blkN l l.length (blkN l l.length (nmT l k).2.1.toNat + 1) : Nat)).1, (strT 60 l (blkN l l.length (blkN l l.length (nmT l k).2.1.toNat + 1) : Nat)).2.1, 0)
theorem quV_no (e : Int) : quV (noQ e) = .tuple #[.agg #[.string ⟨#[]⟩, .string ⟨#[]⟩], .int .i64 0, .int .i64 e] := rfl

theorem two_cells {W : World} {b : Nat} {s0 s1 : Value} (v0 v1 : Value) (x0 : W.cell? ⟨b, 0, none⟩ = some s0) (x1 : W.cell? ⟨b, 1, none⟩ = some s1) :
    ((W.setCell ⟨b, 0, none⟩ v0).setCell ⟨b, 1, none⟩ v1).cell? ⟨b, 0, none⟩ = some v0 ∧ ((W.setCell ⟨b, 0, none⟩ v0).setCell ⟨b, 1, none⟩ v1).cell? ⟨b, 1, none⟩ = some v1 := by
  have c0 := World.cell?_setCell_same' W ⟨b, 0, none⟩ v0 (by rw [x0]; rfl)
  have x1' : (W.setCell ⟨b, 0, none⟩ v0).cell? ⟨b, 1, none⟩ = some s1 := by rw [World.cell?_setCell_other (h := by simp)]; exact x1
  have c1 := World.cell?_setCell_same' (W.setCell ⟨b, 0, none⟩ v0) ⟨b, 1, none⟩ v1 (by rw [x1']; rfl)
  exact ⟨by rw [World.cell?_setCell_other (h := by simp)]; exact c0, c1⟩
theorem strT_err (d : Nat) (l : List UInt8) (k : Int) (h : (strT d l k).2.2 ≠ 0) : strT d l k = noT (strT d l k).2.2 := by
  unfold strT chkT at h ⊢
  split
  · rfl
  · next h1 =>
    rw [if_neg h1] at h
    split
    · rfl
    · next h2 => rw [if_neg h2] at h; exact absurd rfl h
/-- A new pair's cells, as every later world shows them. -/
def NewPair (w W : World) : Prop := ∀ w', Below W.heap.size W w' →
  w'.cell? ⟨w.heap.size, 0, none⟩ = some (.string ⟨#[]⟩) ∧ w'.cell? ⟨w.heap.size, 1, none⟩ = some (.string ⟨#[]⟩) ∧ w'.frozen? ⟨w.heap.size, 0, none⟩ = false ∧ w'.frozen? ⟨w.heap.size, 1, none⟩ = false ∧ Below w.heap.size w w'
theorem newPair (w : World) : NewPair w (w.alloc (.cells #[.string ⟨#[]⟩, .string ⟨#[]⟩] 41)) := by
  intro w' hb
  have B0 := (Below.refl w.heap.size w).alloc (Nat.le_refl _) (.cells #[.string ⟨#[]⟩, .string ⟨#[]⟩] 41)
  refine ⟨(hb.cell (by simp)).trans (by simp [World.cell?_alloc_new]), (hb.cell (by simp)).trans (by simp [World.cell?_alloc_new]), (hb.frozen (by simp)).trans (World.frozen?_alloc_new ..), (hb.frozen (by simp)).trans (World.frozen?_alloc_new ..), B0.trans (hb.mono B0.size)⟩

set_option maxHeartbeats 2000000 in
theorem pair_bad (l : List UInt8) (A : Option Addr) (n c : Nat) (k : Int) (w : World) (hn : l.length = n) (hnc : n ≤ c) (hm : c ≤ 9223372036854775807) (hn9 : n ≤ 1000000) (hk : I64 k) (hs : Sees w A (vB l)) (ht : TabC w) (h0 : (nmT l k).2.2 ≠ 0) :
    Calls Tryd.prog 107 #[.slice A n c, .int .i64 k] w fun e w' => e = .returned (quV (pairT l k)) ∧ Below w.heap.size w w' := by
  have HN := fun (w' : World) (hb : Below w.heap.size w w') => name_any l A n c k w' hn hnc hm hk (hs.below hb) (ht.below hb).toN
  have hv : pairT l k = noQ (nmT l k).2.2 := by unfold pairT; rw [if_pos h0]
  rw [readV_tr, nmT_err l k h0] at HN
  rw [hv]
  obtain ⟨e0, he0⟩ : ∃ e0, (nmT l k).2.2 = e0 := ⟨_, rfl⟩
  rw [he0] at HN h0 ⊢
  rw [trV_no] at HN
  rw [quV_no]
  have t1 : (e0 != 0) = true := by simpa using h0
  have KN := Lib.hid HN
  clear hs HN h0 he0 hn hv ht
  have B0 := (Below.refl w.heap.size w).alloc (Nat.le_refl _) (.cells #[.string ⟨#[]⟩, .string ⟨#[]⟩] 41)
  have NP := Lib.hid (newPair w)
  go_enter Tryd.func107, Tryd.ntmps107
  go_wp2_with fail
  refine (KN.out _ B0).mono ?_
  rintro e w1 ⟨rfl, hb1⟩
  obtain ⟨x0, x1, v0, v1, B1⟩ := NP.out w1 hb1
  clear hb1 B0
  go_wp2_with fail
  (try simp only [Exit.inBlock, Exit.then])
  obtain ⟨c0, c1⟩ := two_cells (.string ⟨#[]⟩) (.string ⟨#[]⟩) x0 x1
  refine bodyPost_ret (by simp [results, Tryd.results107, go_sem, c0, c1]; first | rfl | done) rfl ⟨rfl, (B1.setCell (Nat.le_refl _) _).setCell (Nat.le_refl _) _⟩
set_option maxHeartbeats 4000000 in
theorem pair_any (l : List UInt8) (A : Option Addr) (n c : Nat) (k : Int) (w : World) (hn : l.length = n) (hnc : n ≤ c) (hm : c ≤ 9223372036854775807) (hn9 : n ≤ 1000000) (hk : I64 k) (hs : Sees w A (vB l)) (ht : TabC w) (hk0 : 0 ≤ k) (hkn : k ≤ (n : Int)) :
    Calls Tryd.prog 107 #[.slice A n c, .int .i64 k] w fun e w' => e = .returned (quV (pairT l k)) ∧ Below w.heap.size w w' := by
  by_cases h0 : (nmT l k).2.2 = 0
  rotate_left
  · exact pair_bad l A n c k w hn hnc hm hn9 hk hs ht h0
  obtain ⟨j, rfl⟩ : ∃ j : Nat, k = j := ⟨k.toNat, by omega⟩
  have HN := fun (w' : World) (hb : Below w.heap.size w w') => name_any l A n c (j : Int) w' hn hnc hm hk (hs.below hb) (ht.below hb).toN
  obtain ⟨z, hz, hjz, hzl, _⟩ := nmT_go (by omega) h0
  obtain ⟨s, hsd⟩ : ∃ s, (l.drop j).take (z - j) = s := ⟨_, rfl⟩
  rw [hsd] at hz
  rw [readV_tr, hz] at HN
  unfold pairT
  rw [hz, if_neg (by simp)]
  simp only [Int.toNat_natCast]
  have hbl := blkN_le l l.length z hzl
  have H2 := fun (w' : World) (hb : Below w.heap.size w w') => blanks_any l A n c (z : Int) w' hn hnc (by omega) ⟨by omega, by omega⟩ (hs.below hb)
  rw [blkV_in hzl] at H2
  obtain ⟨q, hq⟩ : ∃ q, blkN l l.length z = q := ⟨_, rfl⟩
  rw [hq] at H2 hbl ⊢
  have K2 := Lib.hid H2
  unfold trV at HN
  have KN := Lib.hid HN
  by_cases hqn : q = l.length
  · rw [if_pos (.inl hqn), quV_no]
    rw [hn] at hqn
    subst hqn
    clear hs HN H2 h0 hz hq hbl hzl hn hsd ht hk0 hkn hjz
    have B0 := (Below.refl w.heap.size w).alloc (Nat.le_refl _) (.cells #[.string ⟨#[]⟩, .string ⟨#[]⟩] 41)
    have NP := Lib.hid (newPair w)
    go_enter Tryd.func107, Tryd.ntmps107
    go_wp2_with fail
    refine (KN.out _ B0).mono ?_
    rintro e w1 ⟨rfl, hb1⟩
    obtain ⟨x0, x1, v0, v1, B1⟩ := NP.out w1 hb1
    clear hb1 B0
    go_wp2_with fail
    refine (K2.out w1 B1).mono ?_
    rintro e w2 ⟨rfl, rfl⟩
    go_wp2_with fail
    (try simp only [Exit.inBlock, Exit.then])
    obtain ⟨c0, c1⟩ := two_cells (.string ⟨#[]⟩) (.string ⟨#[]⟩) x0 x1
    refine bodyPost_ret (by simp [results, Tryd.results107, go_sem, c0, c1]; first | rfl | done) rfl ⟨rfl, (B1.setCell (Nat.le_refl _) _).setCell (Nat.le_refl _) _⟩
  obtain ⟨ad, rfl, hcell⟩ := hs.byte (k := q) (by omega)
  obtain ⟨d, hd⟩ : ∃ d, byteAt l q = d := ⟨_, rfl⟩
  have hd9 := byteAt_lt l q
  rw [hd] at hcell hd9 ⊢
  have hqn' : q ≠ n := by omega
  have hql : q < n := by omega
  have hC := fun (w' : World) (hb : Below w.heap.size w w') => cell_later hb hcell
  have KC := Lib.hid hC
  by_cases h61 : d = 61
  rotate_left
  · rw [if_pos (.inr h61), quV_no]
    have t1 : ((d : Int) != 61) = true := by simp; omega
    clear hs HN H2 h0 hz hq hbl hzl hn hsd ht hcell hd hC hqn h61 hk0 hkn hjz
    have B0 := (Below.refl w.heap.size w).alloc (Nat.le_refl _) (.cells #[.string ⟨#[]⟩, .string ⟨#[]⟩] 41)
    have NP := Lib.hid (newPair w)
    go_enter Tryd.func107, Tryd.ntmps107
    go_wp2_with fail
    refine (KN.out _ B0).mono ?_
    rintro e w1 ⟨rfl, hb1⟩
    obtain ⟨x0, x1, v0, v1, B1⟩ := NP.out w1 hb1
    have hcell1 := KC.out w1 B1
    clear hb1 B0
    go_wp2_with fail
    refine (K2.out w1 B1).mono ?_
    rintro e w2 ⟨rfl, rfl⟩
    go_wp2_with fail
    (try simp only [Exit.inBlock, Exit.then])
    obtain ⟨c0, c1⟩ := two_cells (.string ⟨#[]⟩) (.string ⟨#[]⟩) x0 x1
    refine bodyPost_ret (by simp [results, Tryd.results107, go_sem, c0, c1]; first | rfl | done) rfl ⟨rfl, (B1.setCell (Nat.le_refl _) _).setCell (Nat.le_refl _) _⟩
  rw [if_neg (by omega)]
  subst h61
  have H3 := fun (w' : World) (hb : Below w.heap.size w w') => blanks_any l (some ad) n c ((q : Int) + 1) w' hn hnc (by omega) ⟨by omega, by omega⟩ (hs.below hb)
  have e1 : (q : Int) + 1 = ((q + 1 : Nat) : Int) := by omega
  have H3' : ∀ w', Below w.heap.size w w' → _ := H3
  rw [show blkV l ((q : Int) + 1) = (blkN l l.length (q + 1) : Nat) from by rw [e1, blkV_in (by omega)]] at H3
  have hbp := blkN_le l l.length (q + 1) (by omega)
  obtain ⟨p, hp⟩ : ∃ p, blkN l l.length (q + 1) = p := ⟨_, rfl⟩
  rw [hp] at H3 hbp ⊢
  have H4 := fun (w' : World) (hb : Below w.heap.size w w') => litValue_any l (some ad) n c (p : Int) w' hn hnc hm ⟨by omega, by omega⟩ hn9 (hs.below hb) (ht.below hb)
  have K3 := Lib.hid H3
  clear H3'
  by_cases h4 : (strT 60 l (p : Int)).2.2 = 0
  rotate_left
  · rw [if_pos h4, quV_no]
    rw [strT_err _ _ _ h4] at H4
    obtain ⟨e0, he0⟩ : ∃ e0, (strT 60 l (p : Int)).2.2 = e0 := ⟨_, rfl⟩
    rw [he0] at H4 h4 ⊢
    rw [trV_no] at H4
    have t1 : (e0 != 0) = true := by simpa using h4
    have K4 := Lib.hid H4
    clear hs HN H2 h0 hz hq hbl hzl hn hsd ht hcell hd hC hqn hk0 hkn hjz H3 H4 hbp hp e1 h4 he0
    have B0 := (Below.refl w.heap.size w).alloc (Nat.le_refl _) (.cells #[.string ⟨#[]⟩, .string ⟨#[]⟩] 41)
    have NP := Lib.hid (newPair w)
    go_enter Tryd.func107, Tryd.ntmps107
    go_wp2_with fail
    refine (KN.out _ B0).mono ?_
    rintro e w1 ⟨rfl, hb1⟩
    obtain ⟨x0, x1, v0, v1, B1⟩ := NP.out w1 hb1
    have hcell1 := KC.out w1 B1
    clear B0
    go_wp2_with fail
    refine (K2.out w1 B1).mono ?_
    rintro e w2 ⟨rfl, rfl⟩
    go_wp2_with fail
    refine (K3.out w1 B1).mono ?_
    rintro e w2 ⟨rfl, rfl⟩
    go_wp2_with fail
    refine (K4.out w1 B1).mono ?_
    rintro e w2 ⟨rfl, hb2⟩
    clear x0 x1 v0 v1 B1 hcell1
    obtain ⟨x0, x1, v0, v1, B1⟩ := NP.out w2 (hb1.trans (hb2.mono hb1.size))
    clear hb1 hb2
    go_wp2_with fail
    (try simp only [Exit.inBlock, Exit.then])
    obtain ⟨c0, c1⟩ := two_cells (.string ⟨#[]⟩) (.string ⟨#[]⟩) x0 x1
    refine bodyPost_ret (by simp [results, Tryd.results107, go_sem, c0, c1]; first | rfl | done) rfl ⟨rfl, (B1.setCell (Nat.le_refl _) _).setCell (Nat.le_refl _) _⟩
  rw [if_neg (by simpa using h4)]
  obtain ⟨T, hT⟩ : ∃ T, strT 60 l (p : Int) = T := ⟨_, rfl⟩
  obtain ⟨v, y, e0⟩ := T
  rw [hT] at H4 h4 ⊢
  unfold trV at H4
  simp only at h4
  subst h4
  have K4 := Lib.hid H4
  clear hs HN H2 h0 hz hq hbl hzl hn hsd ht hcell hd hC hqn hk0 hkn hjz H3 H4 hbp hp e1 hT
  have B0 := (Below.refl w.heap.size w).alloc (Nat.le_refl _) (.cells #[.string ⟨#[]⟩, .string ⟨#[]⟩] 41)
  have NP := Lib.hid (newPair w)
  go_enter Tryd.func107, Tryd.ntmps107
  go_wp2_with fail
  refine (KN.out _ B0).mono ?_
  rintro e w1 ⟨rfl, hb1⟩
  obtain ⟨x0, x1, v0, v1, B1⟩ := NP.out w1 hb1
  have hcell1 := KC.out w1 B1
  clear B0
  go_wp2_with fail
  refine (K2.out w1 B1).mono ?_
  rintro e w2 ⟨rfl, rfl⟩
  go_wp2_with fail
  refine (K3.out w1 B1).mono ?_
  rintro e w2 ⟨rfl, rfl⟩
  go_wp2_with fail
  refine (K4.out w1 B1).mono ?_
  rintro e w2 ⟨rfl, hb2⟩
  clear x0 x1 v0 v1 B1 hcell1
  obtain ⟨x0, x1, v0, v1, B1⟩ := NP.out w2 (hb1.trans (hb2.mono hb1.size))
  clear hb1 hb2
  go_wp2_with fail
  (try simp only [Exit.inBlock, Exit.then])
  obtain ⟨c0, c1⟩ := two_cells (strV s) (strV v) x0 x1
  refine bodyPost_ret (by simp [results, Tryd.results107, go_sem, c0, c1]; first | rfl | done) rfl ⟨rfl, (B1.setCell (Nat.le_refl _) _).setCell (Nat.le_refl _) _⟩
end Go.Proofs.YtdmfladcldkmeaaDoor
namespace Go.Proofs.YtdmfladcldkmeaaDoor
open Go.ChangeShapes Go.WideShapes Go.ChangeAt Go.RowKit
set_option linter.unusedVariables false
set_option maxRecDepth 100000

theorem quoT_go {l : List UInt8} {k : Nat} (hk : k ≤ l.length) (h : (quoT l (k : Int)).2.2 = 0) : ∃ b : Nat, (quoT l (k : Int)).2.1 = b ∧ k < b ∧ b ≤ l.length := by
  unfold quoT at h ⊢
  rw [if_neg (by omega), Int.toNat_natCast] at h ⊢
  split
  · next h2 => rw [if_pos h2] at h; exact absurd h (by show (7 : Int) ≠ 0; omega)
  · next h2 =>
    rw [if_neg h2] at h
    split
    · next h3 => rw [if_pos h3] at h; exact absurd h (by show (7 : Int) ≠ 0; omega)
    · next h3 =>
      refine ⟨_, rfl, by omega, ?_⟩
      rcases index_cases (l.drop (k + 1)) (UInt8.ofNat (byteAt l k)) with ⟨h4, _⟩ | ⟨i, h4, h5, _⟩
      · omega
      · rw [h4, Int.toNat_natCast]
        rw [List.length_drop] at h5
        omega
theorem strT_go {d : Nat} {l : List UInt8} {k : Nat} (hk : k ≤ l.length) (h : (strT d l (k : Int)).2.2 = 0) : ∃ b : Nat, (strT d l (k : Int)).2.1 = b ∧ k < b ∧ b ≤ l.length ∧ (strT d l (k : Int)).1.length ≤ l.length := by
  have hq := quoT_len l (k : Int)
  unfold strT chkT at h ⊢
  split
  · next h1 => rw [if_pos h1] at h; exact absurd h h1
  · next h1 =>
    rw [if_neg h1] at h
    split
    · next h2 => rw [if_pos h2] at h; exact absurd h h2
    · next h2 =>
      obtain ⟨b, h3, h4, h5⟩ := quoT_go hk (by simpa using h1)
      exact ⟨b, h3, h4, h5, hq⟩
theorem pair_err (l : List UInt8) (k : Int) (h : (pairT l k).2.2.2 ≠ 0) : pairT l k = noQ (pairT l k).2.2.2 := by
  unfold pairT at h ⊢
  split
  · rfl
  · next h1 =>
    rw [if_neg h1] at h
    split
    · rfl
    · next h2 =>
      rw [if_neg h2] at h
      split
      · rfl
      · next h3 => rw [if_neg h3] at h; exact absurd rfl h
theorem pair_go {l : List UInt8} {k : Nat} (hk : k ≤ l.length) (h : (pairT l (k : Int)).2.2.2 = 0) :
    ∃ (s v : List UInt8) (b : Nat), pairT l (k : Int) = (s, v, (b : Int), 0) ∧ k < b ∧ b ≤ l.length ∧ s.length ≤ 1024 ∧ v.length ≤ l.length := by
  unfold pairT at h ⊢
  split
  · next h1 => rw [if_pos h1] at h; exact absurd h h1
  · next h1 =>
    rw [if_neg h1] at h
    obtain ⟨z, hz, h4, h5, h6⟩ := nmT_go hk (by simpa using h1)
    rw [hz] at h ⊢
    simp only [Int.toNat_natCast] at h ⊢
    split
    · next h2 => rw [if_pos h2] at h; exact absurd h (by show (7 : Int) ≠ 0; omega)
    · next h2 =>
      rw [if_neg h2] at h
      split
      · next h3 => rw [if_pos h3] at h; exact absurd h h3
      · next h3 =>
        have hb1 := blkN_le l l.length z h5
        have hb2 := blkN_le l l.length (blkN l l.length z + 1) (by omega)
        obtain ⟨b, h7, h8, h9, h10⟩ := strT_go hb2.2 (by simpa using h3)
        rw [h7]
        exact ⟨_, _, b, rfl, by omega, h9, by rw [List.length_take]; omega, h10⟩
/-- Names with values. -/
abbrev Prs := List (List UInt8 × List UInt8)
def hasN (ps : Prs) (s : List UInt8) : Bool := ps.any (fun p => p.1 == s)
/-- Attributes from place k on, behind those read. -/
def parsN (l : List UInt8) : Nat → Prs → Nat → Prs × Int × Int
  | 0, ps, k => (ps, (k : Int), 0)
  | f + 1, ps, k =>
    if blkN l l.length k = k ∨ blkN l l.length k = l.length ∨ byteAt l (blkN l l.length k) = 47 ∨ byteAt l (blkN l l.length k) = 62 then (ps, (k : Int), 0)
    else if (pairT l (blkN l l.length k : Nat)).2.2.2 ≠ 0 then ([], 0, (pairT l (blkN l l.length k : Nat)).2.2.2)
    else if hasN ps (pairT l (blkN l l.length k : Nat)).1 then ([], 0, 12)
    else parsN l f (ps ++ [((pairT l (blkN l l.length k : Nat)).1, (pairT l (blkN l l.length k : Nat)).2.1)]) (pairT l (blkN l l.length k : Nat)).2.2.1.toNat
def parsT (l : List UInt8) (k : Int) : Prs × Int × Int :=
  if k < 0 ∨ (l.length : Int) < k then ([], 0, 3) else parsN l (l.length + 1) [] k.toNat
theorem pars_stop {l : List UInt8} {ps : Prs} {k q : Nat} (f : Nat) (hq : blkN l l.length k = q) (h : q = k ∨ q = l.length ∨ byteAt l q = 47 ∨ byteAt l q = 62) : parsN l f ps k = (ps, (k : Int), 0) := by
  cases f with
  | zero => rfl
  | succ f => rw [parsN, hq, if_pos h]
theorem pars_bad {l : List UInt8} {ps : Prs} {k q : Nat} {e : Int} (f : Nat) (hq : blkN l l.length k = q) (h : ¬ (q = k ∨ q = l.length ∨ byteAt l q = 47 ∨ byteAt l q = 62)) (hp : pairT l (q : Int) = noQ e) (he : e ≠ 0) : parsN l (f + 1) ps k = ([], 0, e) := by
  rw [parsN, hq, if_neg h, hp, if_pos (by exact he)]; rfl
theorem pars_twice {l : List UInt8} {ps : Prs} {k q : Nat} {s v : List UInt8} {b : Nat} (f : Nat) (hq : blkN l l.length k = q) (h : ¬ (q = k ∨ q = l.length ∨ byteAt l q = 47 ∨ byteAt l q = 62)) (hp : pairT l (q : Int) = (s, v, (b : Int), 0)) (ht : hasN ps s = true) : parsN l (f + 1) ps k = ([], 0, 12) := by
  rw [parsN, hq, if_neg h, hp, if_neg (by simp), if_pos ht]
theorem pars_on {l : List UInt8} {ps : Prs} {k q : Nat} {s v : List UInt8} {b : Nat} (f : Nat) (hq : blkN l l.length k = q) (h : ¬ (q = k ∨ q = l.length ∨ byteAt l q = 47 ∨ byteAt l q = 62)) (hp : pairT l (q : Int) = (s, v, (b : Int), 0)) (ht : hasN ps s = false) : parsN l (f + 1) ps k = parsN l f (ps ++ [(s, v)]) b := by
  rw [parsN, hq, if_neg h, hp, if_neg (by simp), if_neg (by simp [ht]), Int.toNat_natCast]
/-- Pairs as cells. -/
def vQ : Prs → List Value
  | [] => []
  | p :: ps => strV p.1 :: strV p.2 :: vQ ps
theorem vQ_len : ∀ ps : Prs, (vQ ps).length = ps.length * 2
  | [] => rfl
  | p :: ps => by simp [vQ, vQ_len ps]; omega
theorem vQ_append : ∀ a b : Prs, vQ (a ++ b) = vQ a ++ vQ b
  | [], _ => rfl
  | p :: a, b => by simp [vQ, vQ_append a b]
theorem vQ_one : ∀ ps : Prs, ∀ u ∈ vQ ps, u.oneCell' = true
  | [] => by simp [vQ]
  | p :: ps => by
    intro u hu
    simp only [vQ, List.mem_cons] at hu
    rcases hu with rfl | rfl | hu
    · rfl
    · rfl
    · exact vQ_one ps u hu
theorem vQ_at : ∀ (ps : Prs) (i : Nat) (p : List UInt8 × List UInt8), ps[i]? = some p → (vQ ps)[2 * i]? = some (strV p.1) ∧ (vQ ps)[2 * i + 1]? = some (strV p.2)
  | [], _, _, h => by simp at h
  | x :: ps, 0, p, h => by simp at h; subst h; exact ⟨rfl, rfl⟩
  | x :: ps, i + 1, p, h => by
    have h1 := vQ_at ps i p (by simpa using h)
    have e : 2 * (i + 1) = 2 * i + 2 := by omega
    rw [e]
    exact ⟨by simpa [vQ] using h1.1, by simpa [vQ] using h1.2⟩
end Go.Proofs.YtdmfladcldkmeaaDoor
namespace Go.Proofs.YtdmfladcldkmeaaDoor
open Go.ChangeShapes Go.WideShapes Go.ChangeAt Go.RowKit
set_option linter.unusedVariables false
set_option maxRecDepth 100000

def nsB : List UInt8 := [120, 109, 108, 110, 115]
def xmB : List UInt8 := [120, 109, 108]
def spX : List UInt8 := 104 :: 116 :: 116 :: 112 :: 58 :: 47 :: 47 :: 119 :: 119 :: 119 :: 46 :: 119 :: 51 :: 46 :: 111 :: 114 :: 103 :: 47 :: 88 :: 77 :: 76 :: 47 :: 49 :: 57 :: 57 :: 56 :: 47 :: 110 :: 97 :: 109 :: 101 :: 115 :: 112 :: 97 :: 99 :: 101 :: []
def spN : List UInt8 := 104 :: 116 :: 116 :: 112 :: 58 :: 47 :: 47 :: 119 :: 119 :: 119 :: 46 :: 119 :: 51 :: 46 :: 111 :: 114 :: 103 :: 47 :: 50 :: 48 :: 48 :: 48 :: 47 :: 120 :: 109 :: 108 :: 110 :: 115 :: 47 :: []
/-- May a prefix be bound so? -/
def mayB (p s : List UInt8) : Bool := if (p == nsB) || (s == spN) then false else if s == [] then p == [] else ((s == spX) == (p == xmB))
/-- A name's parts. -/
def prT (l : List UInt8) : List UInt8 × List UInt8 × Int :=
  if wholeB l startN charN = false then ([], [], 7)
  else if colI l < 0 then ([], l, 0)
  else if (colI l).toNat = 0 ∨ wholeB (l.drop ((colI l).toNat + 1)) (plainP startN) (plainP charN) = false then ([], [], 9)
  else (l.take (colI l).toNat, l.drop ((colI l).toNat + 1), 0)
def prV (x : List UInt8 × List UInt8 × Int) : Value := .tuple #[strV x.1, strV x.2.1, .int .i64 x.2.2]
theorem partV_pr (l : List UInt8) : partV l = prV (prT l) := by
  unfold partV prT
  split
  · rfl
  · split
    · rfl
    · split <;> rfl
theorem prT_len (l : List UInt8) : (prT l).1.length ≤ l.length ∧ (prT l).2.1.length ≤ l.length := by
  unfold prT
  split
  · simp
  · split
    · simp
    · split
      · simp
      · simp only [List.length_take, List.length_drop]; omega
/-- What attributes bind, and the rest. -/
def bnN : Prs → Prs → Prs → Prs × Prs × Int
  | [], a, b => (a, b, 0)
  | p :: ps, a, b =>
    if (prT p.1).2.2 ≠ 0 then ([], [], (prT p.1).2.2)
    else if p.1 == nsB then (if mayB [] p.2 then bnN ps (a ++ [([], p.2)]) b else ([], [], 9))
    else if (prT p.1).1 == nsB then (if mayB (prT p.1).2.1 p.2 then bnN ps (a ++ [((prT p.1).2.1, p.2)]) b else ([], [], 9))
    else bnN ps a (b ++ [p])
theorem bn_end (a b : Prs) : bnN [] a b = (a, b, 0) := rfl
theorem bn_err (p : List UInt8 × List UInt8) (ps a b : Prs) {e : Int} (h : (prT p.1).2.2 = e) (h0 : e ≠ 0) : bnN (p :: ps) a b = ([], [], e) := by rw [bnN, if_pos (by rw [h]; exact h0), h]
theorem bn_own (p : List UInt8 × List UInt8) (ps a b : Prs) (h : (prT p.1).2.2 = 0) (h1 : (p.1 == nsB) = true) : bnN (p :: ps) a b = if mayB [] p.2 then bnN ps (a ++ [([], p.2)]) b else ([], [], 9) := by rw [bnN, if_neg (by rw [h]; simp), if_pos h1]
theorem bn_pre (p : List UInt8 × List UInt8) (ps a b : Prs) (h : (prT p.1).2.2 = 0) (h1 : (p.1 == nsB) = false) (h2 : ((prT p.1).1 == nsB) = true) : bnN (p :: ps) a b = if mayB (prT p.1).2.1 p.2 then bnN ps (a ++ [((prT p.1).2.1, p.2)]) b else ([], [], 9) := by rw [bnN, if_neg (by rw [h]; simp), if_neg (by rw [h1]; simp), if_pos h2]
theorem bn_rest (p : List UInt8 × List UInt8) (ps a b : Prs) (h : (prT p.1).2.2 = 0) (h1 : (p.1 == nsB) = false) (h2 : ((prT p.1).1 == nsB) = false) : bnN (p :: ps) a b = bnN ps a (b ++ [p]) := by rw [bnN, if_neg (by rw [h]; simp), if_neg (by rw [h1]; simp), if_neg (by rw [h2]; simp)]
theorem bn_len : ∀ (ps a b : Prs), (bnN ps a b).2.2 = 0 → (bnN ps a b).1.length + (bnN ps a b).2.1.length = a.length + b.length + ps.length
  | [], a, b, _ => by simp [bnN]
  | p :: ps, a, b, h => by
    rw [bnN] at h ⊢
    split
    · next h1 => rw [if_pos h1] at h; exact absurd h h1
    · next h1 =>
      rw [if_neg h1] at h
      split
      · next h2 =>
        rw [if_pos h2] at h
        split
        · next h3 => rw [if_pos h3] at h; rw [bn_len _ _ _ h]; simp; omega
        · next h3 => rw [if_neg h3] at h; exact absurd h (by show (9 : Int) ≠ 0; omega)
      · next h2 =>
        rw [if_neg h2] at h
        split
        · next h3 =>
          rw [if_pos h3] at h
          split
          · next h4 => rw [if_pos h4] at h; rw [bn_len _ _ _ h]; simp; omega
          · next h4 => rw [if_neg h4] at h; exact absurd h (by show (9 : Int) ≠ 0; omega)
        · next h3 => rw [if_neg h3] at h; rw [bn_len _ _ _ h]; simp; omega
theorem bn_err_form : ∀ (ps a b : Prs), (bnN ps a b).2.2 ≠ 0 → bnN ps a b = ([], [], (bnN ps a b).2.2)
  | [], a, b, h => absurd rfl h
  | p :: ps, a, b, h => by
    rw [bnN] at h ⊢
    split
    · rfl
    · next h1 =>
      rw [if_neg h1] at h
      split
      · next h2 =>
        rw [if_pos h2] at h
        split
        · next h3 => rw [if_pos h3] at h; exact bn_err_form _ _ _ h
        · rfl
      · next h2 =>
        rw [if_neg h2] at h
        split
        · next h3 =>
          rw [if_pos h3] at h
          split
          · next h4 => rw [if_pos h4] at h; exact bn_err_form _ _ _ h
          · rfl
        · next h3 => rw [if_neg h3] at h; exact bn_err_form _ _ _ h
/-- A row within a text goes on by weaker tests. -/
theorem en_up (A T : List UInt8) {p' q q' : Int → Bool} (hq : ∀ r, q r = true → q' r = true) (f : Nat) : ∀ (g : Nat) (p p' : Int → Bool) (k : Nat), (∀ r, p r = true → p' r = true) → k ≤ T.length → endN T q f p k = T.length → T.length ≤ k + g → endN (A ++ T) q' g p' (A.length + k) = A.length + T.length := by
  induction f with
  | zero =>
    intro g p p' k hp hk he _
    rw [endN] at he
    exact (endN_out _ _ (.inl (by simp; omega))).trans (by omega)
  | succ f ih =>
    intro g p p' k hp hk he hg
    rcases Nat.lt_or_ge k T.length with hlt | hge
    · rw [endN] at he
      split at he
      · next h =>
        obtain ⟨_, h0, h1⟩ := h
        obtain ⟨r, m, hrm⟩ : ∃ r m, chrAt T k = (r, m) := ⟨_, _, rfl⟩
        rw [hrm] at he h0 h1
        have hkm : k + m ≤ T.length := by
          rcases Nat.lt_or_ge T.length (k + m) with h2 | h2
          · rw [endN_out _ _ (.inl (by simp only; omega))] at he; simp only at he; omega
          · exact h2
        obtain ⟨g, rfl⟩ : ∃ g', g = g' + 1 := ⟨g - 1, by omega⟩
        have hc := xch_mid A T [] hrm h0 hlt
        rw [List.append_nil] at hc
        rw [endN_on g (A.length + k) (by simp; omega) hc h0 (hp _ h1), show A.length + k + m = A.length + (k + m) by omega]
        simp only at h0
        exact ih g q q' (k + m) hq hkm he (by omega)
      · omega
    · obtain rfl : k = T.length := by omega
      exact endN_out _ _ (.inl (by simp))
theorem plain_weak {f : Int → Bool} {r : Int} (h : plainP f r = true) : f r = true := by
  unfold plainP at h; rw [Bool.and_eq_true] at h; exact h.2
theorem char_start {r : Int} (h : startN r = true) : charN r = true := by unfold charN; unfold startN at h; rw [h]; simp
def nsC : List UInt8 := [120, 109, 108, 110, 115, 58]
theorem ns_byte (t : List UInt8) {j : Nat} (h : j < 6) : byteAt (nsC ++ t) j = byteAt nsC j := by
  unfold byteAt; rw [List.getElem?_append_left h]
theorem ns_step (t : List UInt8) (f : Nat) (p : Int → Bool) {j : Nat} (h : j < 6) {b : Nat} (hb : byteAt nsC j = b) (h8 : b < 128) (hp : p (b : Int) = true) : endN (nsC ++ t) charN (f + 1) p j = endN (nsC ++ t) charN f charN (j + 1) :=
  endN_on f j (by simp [nsC]; omega) (xch_asc (by rw [ns_byte t h]; exact hb) h8) (by omega) hp
theorem ns_whole {t : List UInt8} (h : wholeB t (plainP startN) (plainP charN) = true) : wholeB (nsC ++ t) startN charN = true := by
  obtain ⟨h1, h2⟩ := whole_iff.1 h
  refine whole_iff.2 ⟨by simp [nsC], ?_⟩
  have e : (nsC ++ t).length = t.length + 6 := by simp [nsC]
  rw [e, ns_step t (t.length + 5) startN (j := 0) (by omega) (b := 120) rfl (by omega) (by decide), ns_step t (t.length + 4) charN (j := 1) (by omega) (b := 109) rfl (by omega) (by decide), ns_step t (t.length + 3) charN (j := 2) (by omega) (b := 108) rfl (by omega) (by decide),
    ns_step t (t.length + 2) charN (j := 3) (by omega) (b := 110) rfl (by omega) (by decide), ns_step t (t.length + 1) charN (j := 4) (by omega) (b := 115) rfl (by omega) (by decide), ns_step t t.length charN (j := 5) (by omega) (b := 58) rfl (by omega) (by decide)]
  have := en_up nsC t (p' := charN) (q := plainP charN) (q' := charN) (fun r => plain_weak) t.length t.length (plainP startN) charN 0 (fun r h => char_start (plain_weak h)) (Nat.zero_le _) h2 (by omega)
  rw [show nsC.length + 0 = 6 from rfl] at this
  rw [this]
  simp [nsC]
  omega
theorem ns_col (t : List UInt8) : colI (nsC ++ t) = (5 : Nat) := by
  rcases colI_cases (nsC ++ t) with ⟨_, h⟩ | ⟨i, h, h1, h2⟩
  · exact absurd (by rfl) (h 5)
  · rw [h]
    have hi : ¬ 5 < i := fun h5 => h2 5 h5 rfl
    have : i ≤ 5 := by omega
    match i, this, h1 with
    | 0, _, h1 => cases h1
    | 1, _, h1 => cases h1
    | 2, _, h1 => cases h1
    | 3, _, h1 => cases h1
    | 4, _, h1 => cases h1
    | 5, _, _ => rfl
theorem pr_ns {t : List UInt8} (h : wholeB t (plainP startN) (plainP charN) = true) : prT (nsC ++ t) = (nsB, t, 0) := by
  unfold prT
  have hd : (nsC ++ t).drop (5 + 1) = t := rfl
  rw [if_neg (by rw [ns_whole h]; simp), ns_col, if_neg (by omega), Int.toNat_natCast, hd, if_neg (by rw [h]; simp)]
  rfl
theorem pr_own : prT nsB = ([], nsB, 0) := by kernel_rfl
theorem ns_ne (t : List UInt8) : ((nsC ++ t) == nsB) = false := by
  rw [beq_eq_false_iff_ne]
  intro e
  have := congrArg List.length e
  simp [nsC, nsB] at this
/-- What is put is bound. -/
theorem put_own (s : List UInt8) : bnN [(nsB, s)] [] [] = if mayB [] s then ([([], s)], [], 0) else ([], [], 9) := bn_own (nsB, s) [] [] [] (by rw [pr_own]) (by simp)
theorem put_pre {t : List UInt8} (s : List UInt8) (h : wholeB t (plainP startN) (plainP charN) = true) : bnN [(nsC ++ t, s)] [] [] = if mayB t s then ([(t, s)], [], 0) else ([], [], 9) := by
  have hp := pr_ns h
  rw [bn_pre (nsC ++ t, s) [] [] [] (by rw [hp]) (ns_ne t) (by rw [hp]; simp)]
  simp only [hp, List.nil_append]
  rfl
end Go.Proofs.YtdmfladcldkmeaaDoor
namespace Go.Proofs.YtdmfladcldkmeaaDoor
open Go.ChangeShapes Go.WideShapes Go.ChangeAt Go.RowKit
set_option linter.unusedVariables false
set_option maxRecDepth 100000

theorem may_any (p s : List UInt8) (w : World) : Calls Tryd.prog 49 #[strV p, strV s] w fun e w' => e = .returned (.bool (mayB p s)) ∧ w = w' := by
  obtain ⟨b1, h1⟩ : ∃ b, (p == nsB) = b := ⟨_, rfl⟩
  obtain ⟨b2, h2⟩ : ∃ b, (s == spN) = b := ⟨_, rfl⟩
  obtain ⟨b3, h3⟩ : ∃ b, (s == []) = b := ⟨_, rfl⟩
  obtain ⟨b4, h4⟩ : ∃ b, (p == []) = b := ⟨_, rfl⟩
  obtain ⟨b5, h5⟩ : ∃ b, (s == spX) = b := ⟨_, rfl⟩
  obtain ⟨b6, h6⟩ : ∃ b, (p == xmB) = b := ⟨_, rfl⟩
  unfold mayB
  rw [h1, h2, h3, h4, h5, h6]
  unfold nsB at h1
  unfold spN at h2
  unfold spX at h5
  unfold xmB at h6
  go_enter Tryd.func49, Tryd.ntmps49
  cases b1
  · cases b2
    · cases b3
      · cases b5
        all_goals
          cases b6
          all_goals
            go_wp2_with fail
            go_ret
            exact ⟨rfl, rfl⟩
      · cases b4
        all_goals
          go_wp2_with fail
          go_ret
          exact ⟨rfl, rfl⟩
    · go_wp2_with fail
      go_ret
      exact ⟨rfl, rfl⟩
  · go_wp2_with fail
    go_ret
    exact ⟨rfl, rfl⟩
set_option maxHeartbeats 4000000 in
theorem rmay_any (p s : List UInt8) (w : World) : Calls Tryd.prog 50 #[strV p, strV s] w fun e w' => e = .returned (.bool (mayB p s)) ∧ w = w' := by
  obtain ⟨b1, h1⟩ : ∃ b, (p == nsB) = b := ⟨_, rfl⟩
  obtain ⟨b2, h2⟩ : ∃ b, (s == spN) = b := ⟨_, rfl⟩
  obtain ⟨b3, h3⟩ : ∃ b, (s == []) = b := ⟨_, rfl⟩
  obtain ⟨b4, h4⟩ : ∃ b, (p == []) = b := ⟨_, rfl⟩
  obtain ⟨b5, h5⟩ : ∃ b, (s == spX) = b := ⟨_, rfl⟩
  obtain ⟨b6, h6⟩ : ∃ b, (p == xmB) = b := ⟨_, rfl⟩
  unfold mayB
  rw [h1, h2, h3, h4, h5, h6]
  unfold nsB at h1
  unfold spN at h2
  unfold spX at h5
  unfold xmB at h6
  have n36 : b3 = true → b5 = false := by rintro rfl; rw [← h5]; rw [beq_iff_eq] at h3; rw [h3]; rfl
  have n46 : b4 = true → b6 = false := by rintro rfl; rw [← h6]; rw [beq_iff_eq] at h4; rw [h4]; rfl
  have n16 : b1 = true → b6 = false := by rintro rfl; rw [← h6]; rw [beq_iff_eq] at h1; rw [h1]; rfl
  have n25 : b2 = true → b5 = false := by rintro rfl; rw [← h5]; rw [beq_iff_eq] at h2; rw [h2]; rfl
  have n14 : b1 = true → b4 = false := by rintro rfl; rw [← h4]; rw [beq_iff_eq] at h1; rw [h1]; rfl
  have n23 : b2 = true → b3 = false := by rintro rfl; rw [← h3]; rw [beq_iff_eq] at h2; rw [h2]; rfl
  cases b1 <;> cases b2 <;> cases b3 <;> cases b4 <;> cases b5 <;> cases b6
  all_goals (first | exact Bool.noConfusion (n36 rfl) | exact Bool.noConfusion (n46 rfl) | exact Bool.noConfusion (n16 rfl) | exact Bool.noConfusion (n25 rfl) | exact Bool.noConfusion (n14 rfl) | exact Bool.noConfusion (n23 rfl) | (
    clear n36 n46 n16 n25 n14 n23
    go_enter Tryd.func50, Tryd.ntmps50
    go_wp2_with fail
    go_ret
    exact ⟨rfl, rfl⟩))
end Go.Proofs.YtdmfladcldkmeaaDoor
