/- Tags that end an element, by the program and by the document. One attribute of a tag: a name, a sign and a value. Attributes, one behind the other: the pure part. Attributes, one behind the other, by the program. Has some attribute a name? As the document asks it. Attributes, one behind the other, as the document has them. Two rows of the same attributes are the same, as the document compares them. -/
import Derived.Maps.OwnSet
import Derived.Deep.QuietTactic
import Derived.BigQuiet
import Derived.Test.YtdmfladcldkmeaaDoorPtaa
namespace Go.Proofs.YtdmfladcldkmeaaDoor
open Go.ChangeShapes Go.WideShapes Go.ChangeAt Go.RowKit
set_option linter.unusedVariables false
set_option maxRecDepth 100000

theorem begT_err (l : List UInt8) (k : Int) (m : List UInt8) (h : (begT l k m).2.2 ≠ 0) : begT l k m = noT (begT l k m).2.2 := by
  unfold begT at h ⊢
  split
  · rfl
  · next h1 =>
    rw [if_neg h1] at h
    split
    · rfl
    · next h2 => rw [if_neg h2] at h; exact nmT_err _ _ h
theorem begT_go {l : List UInt8} {k : Int} {m : List UInt8} (hm : m ≠ []) (h : (begT l k m).2.2 = 0) : ∃ (s : List UInt8) (z : Nat), begT l k m = (s, (z : Int), 0) ∧ z ≤ l.length ∧ s.length ≤ 1024 := by
  unfold begT at h ⊢
  split
  · next h1 => rw [if_pos h1] at h; exact absurd h (by show (3 : Int) ≠ 0; omega)
  · next h1 =>
    rw [if_neg h1] at h
    split
    · next h2 => rw [if_pos h2] at h; exact absurd h (by show (7 : Int) ≠ 0; omega)
    · next h2 =>
      rw [if_neg h2] at h
      obtain ⟨j, rfl⟩ : ∃ j : Nat, k = j := ⟨k.toNat, by omega⟩
      have hf := atB_fit (by simpa using h2) hm
      have e : (j : Int) + (m.length : Int) = ((j + m.length : Nat) : Int) := by omega
      rw [e] at h ⊢
      obtain ⟨z, hz, h3, h4, h5⟩ := nmT_go hf h
      exact ⟨_, z, hz, h4, by rw [List.length_take]; omega⟩
theorem blkN_le (l : List UInt8) : ∀ f k, k ≤ l.length → k ≤ blkN l f k ∧ blkN l f k ≤ l.length
  | 0, k, h => ⟨Nat.le_refl _, h⟩
  | f + 1, k, h => by
    rw [blkN]
    split
    · next h1 => have := blkN_le l f (k + 1) (by omega); exact ⟨by omega, this.2⟩
    · exact ⟨Nat.le_refl _, h⟩
/-- A tag that ends an element. -/
def closeT (l : List UInt8) (k : Int) : Trip :=
  if (begT l k [60, 47]).2.2 ≠ 0 then noT (begT l k [60, 47]).2.2
  else if blkN l l.length (begT l k [60, 47]).2.1.toNat = l.length ∨ byteAt l (blkN l l.length (begT l k [60, 47]).2.1.toNat) ≠ 62 then noT 7
  else ((begT l k [60, 47]).1, ((blkN l l.length (begT l k [60, 47]).2.1.toNat + 1 : Nat) : Int), 0)
theorem at_one {l : List UInt8} {z b : Nat} (hb : b < 256) (hz : z ≤ l.length) : atB l (z : Int) [UInt8.ofNat b] = decide (z < l.length ∧ byteAt l z = b) := by
  rw [Bool.eq_iff_iff, decide_eq_true_eq]
  unfold atB
  rw [Bool.and_eq_true, beq_iff_eq, Int.toNat_natCast, decide_eq_true_eq]
  constructor
  · rintro ⟨_, h⟩
    have hlt : z < l.length := by
      rcases Nat.lt_or_ge z l.length with h1 | h1
      · exact h1
      · rw [List.drop_eq_nil_of_le h1] at h; simp at h
    refine ⟨hlt, ?_⟩
    rw [List.drop_eq_getElem_cons hlt] at h
    simp only [List.length_cons, List.length_nil, List.take_succ_cons, List.take_zero, List.cons.injEq, and_true] at h
    unfold byteAt
    rw [List.getElem?_eq_getElem hlt, Option.getD_some, h]
    exact ofNat_toNat hb
  · rintro ⟨hlt, h⟩
    refine ⟨by omega, ?_⟩
    rw [List.drop_eq_getElem_cons hlt]
    unfold byteAt at h
    rw [List.getElem?_eq_getElem hlt, Option.getD_some] at h
    simp only [List.length_cons, List.length_nil, List.take_succ_cons, List.take_zero]
    rw [← h]
    simp

set_option maxHeartbeats 2000000 in
theorem close_any (l : List UInt8) (A : Option Addr) (n c : Nat) (k : Int) (w : World) (hn : l.length = n) (hnc : n ≤ c) (hm : c ≤ 9223372036854775807) (hn9 : n ≤ 1000000) (hk : I64 k) (hs : Sees w A (vB l)) (ht : TabN w) :
    Calls Tryd.prog 22 #[.slice A n c, .int .i64 k] w fun e w' => e = .returned (trV (closeT l k)) ∧ Below w.heap.size w w' := by
  have HB := begin_any l [60, 47] A n c k w hn hnc hm hn9 hk (by simp) (by simp) hs ht
  have hbe := begT_err l k [60, 47]
  have hbg := begT_go (l := l) (k := k) (m := [60, 47]) (by simp)
  unfold closeT
  by_cases h0 : (begT l k [60, 47]).2.2 = 0
  · obtain ⟨s, z, hz, hzl, _⟩ := hbg h0
    rw [hz] at HB ⊢
    rw [if_neg (by simp)]
    simp only [Int.toNat_natCast]
    have hbl := blkN_le l l.length z hzl
    have H2 := fun (w' : World) (hb : Below w.heap.size w w') => blanks_any l A n c (z : Int) w' hn hnc (by omega) ⟨by omega, by omega⟩ (hs.below hb)
    rw [blkV_in hzl] at H2
    obtain ⟨q, hq⟩ : ∃ q, blkN l l.length z = q := ⟨_, rfl⟩
    rw [hq] at H2 hbl ⊢
    have K2 := Lib.hid H2
    unfold trV at HB
    have KB := Lib.hid HB
    by_cases hqn : q = l.length
    · rw [if_pos (.inl hqn), trV_no]
      rw [hn] at hqn
      subst hqn
      clear hs HB H2 hbe hbg h0 hz hq hbl hzl hn
      go_enter Tryd.func22, Tryd.ntmps22
      go_wp2_with fail
      refine KB.out.mono ?_
      rintro e w1 ⟨rfl, hb1⟩
      go_wp2_with fail
      refine (K2.out w1 hb1).mono ?_
      rintro e w2 ⟨rfl, rfl⟩
      go_wp2_with fail
      go_ret3
      exact ⟨rfl, hb1⟩
    · obtain ⟨ad, rfl, hcell⟩ := hs.byte (k := q) (by omega)
      obtain ⟨d, hd⟩ : ∃ d, byteAt l q = d := ⟨_, rfl⟩
      have hd9 := byteAt_lt l q
      rw [hd] at hcell hd9 ⊢
      have hqn' : q ≠ n := by omega
      have hql : q < n := by omega
      have hC := fun (w' : World) (hb : Below w.heap.size w w') => cell_later hb hcell
      have KC := Lib.hid hC
      by_cases h62 : d = 62
      · rw [if_neg (by omega)]
        subst h62
        unfold trV
        clear hs HB H2 hbe hbg h0 hz hq hbl hzl hn hcell hd hC hqn
        go_enter Tryd.func22, Tryd.ntmps22
        go_wp2_with fail
        refine KB.out.mono ?_
        rintro e w1 ⟨rfl, hb1⟩
        have hcell1 := KC.out w1 hb1
        go_wp2_with fail
        refine (K2.out w1 hb1).mono ?_
        rintro e w2 ⟨rfl, rfl⟩
        go_wp2_with fail
        go_ret3
        exact ⟨ret_t3 (by omega), hb1⟩
      · rw [if_pos (.inr h62), trV_no]
        have t1 : ((d : Int) != 62) = true := by simp; omega
        clear hs HB H2 hbe hbg h0 hz hq hbl hzl hn hcell hd hC hqn h62
        go_enter Tryd.func22, Tryd.ntmps22
        go_wp2_with fail
        refine KB.out.mono ?_
        rintro e w1 ⟨rfl, hb1⟩
        have hcell1 := KC.out w1 hb1
        go_wp2_with fail
        refine (K2.out w1 hb1).mono ?_
        rintro e w2 ⟨rfl, rfl⟩
        go_wp2_with fail
        go_ret3
        exact ⟨rfl, hb1⟩
  · rw [if_pos h0]
    rw [hbe h0] at HB
    obtain ⟨e0, he0⟩ : ∃ e0, (begT l k [60, 47]).2.2 = e0 := ⟨_, rfl⟩
    rw [he0] at HB h0 ⊢
    rw [trV_no] at HB ⊢
    have t1 : (e0 != 0) = true := by simpa using h0
    have KB := Lib.hid HB
    clear hs HB hbe hbg h0 he0 hn
    go_enter Tryd.func22, Tryd.ntmps22
    go_wp2_with fail
    refine KB.out.mono ?_
    rintro e w1 ⟨rfl, hb1⟩
    go_wp2_with fail
    go_ret3
    exact ⟨rfl, hb1⟩
end Go.Proofs.YtdmfladcldkmeaaDoor
namespace Go.Proofs.YtdmfladcldkmeaaDoor
open Go.ChangeShapes Go.WideShapes Go.ChangeAt Go.RowKit
set_option linter.unusedVariables false
set_option maxRecDepth 100000

/-- A name, a value, the place behind, an error. -/
abbrev Quad := List UInt8 × List UInt8 × Int × Int
def noQ (e : Int) : Quad := ([], [], 0, e)
def quV (x : Quad) : Value := .tuple #[.agg #[strV x.1, strV x.2.1], .int .i64 x.2.2.1, .int .i64 x.2.2.2]
/-- One attribute. -/
def pairT (l : List UInt8) (k : Int) : Quad :=
  if (nmT l k).2.2 ≠ 0 then noQ (nmT l k).2.2
  else if blkN l l.length (nmT l k).2.1.toNat = l.length ∨ byteAt l (blkN l l.length (nmT l k).2.1.toNat) ≠ 61 then noQ 7
  else if (strT 60 l (blkN l l.length (blkN l l.length (nmT l k).2.1.toNat + 1) : Nat)).2.2 ≠ 0 then noQ (strT 60 l (blkN l l.length (blkN l l.length (nmT l k).2.1.toNat + 1) : Nat)).2.2
  else ((nmT l k).1, (strT 60 l (blkN l l.length (blkN l l.length (nmT l k).2.1.toNat + 1) : Nat)).1, (strT 60 l (blkN l l.length (blkN l l.length (nmT l k).2.1.toNat + 1) : Nat)).2.1, 0)
theorem quV_no (e : Int) : quV (noQ e) = .tuple #[.agg #[.string ⟨#[]⟩, .string ⟨#[]⟩], .int .i64 0, .int .i64 e] := rfl

theorem two_cells {W : World} {b : Nat} {s0 s1 : Value} (v0 v1 : Value) (x0 : W.cell? ⟨b, 0, none⟩ = some s0) (x1 : W.cell? ⟨b, 1, none⟩ = some s1) :
    ((W.setCell ⟨b, 0, none⟩ v0).setCell ⟨b, 1, none⟩ v1).cell? ⟨b, 0, none⟩ = some v0 ∧ ((W.setCell ⟨b, 0, none⟩ v0).setCell ⟨b, 1, none⟩ v1).cell? ⟨b, 1, none⟩ = some v1 := by
  have c0 := World.cell?_setCell_same' W ⟨b, 0, none⟩ v0 (by rw [x0]; rfl)
  have x1' : (W.setCell ⟨b, 0, none⟩ v0).cell? ⟨b, 1, none⟩ = some s1 := by rw [World.cell?_setCell_other (h := by simp)]; exact x1
  have c1 := World.cell?_setCell_same' (W.setCell ⟨b, 0, none⟩ v0) ⟨b, 1, none⟩ v1 (by rw [x1']; rfl)
  exact ⟨by rw [World.cell?_setCell_other (h := by simp)]; exact c0, c1⟩
theorem strT_err (d : Nat) (l : List UInt8) (k : Int) (h : (strT d l k).2.2 ≠ 0) : strT d l k = noT (strT d l k).2.2 := by
  unfold strT chkT at h ⊢
  split
  · rfl
  · next h1 =>
    rw [if_neg h1] at h
    split
    · rfl
    · next h2 => rw [if_neg h2] at h; exact absurd rfl h
/-- A new pair's cells, as every later world shows them. -/
def NewPair (w W : World) : Prop := ∀ w', Below W.heap.size W w' →
  w'.cell? ⟨w.heap.size, 0, none⟩ = some (.string ⟨#[]⟩) ∧ w'.cell? ⟨w.heap.size, 1, none⟩ = some (.string ⟨#[]⟩) ∧ w'.frozen? ⟨w.heap.size, 0, none⟩ = false ∧ w'.frozen? ⟨w.heap.size, 1, none⟩ = false ∧ Below w.heap.size w w'
theorem newPair (w : World) : NewPair w (w.alloc (.cells #[.string ⟨#[]⟩, .string ⟨#[]⟩] 41)) := by
  intro w' hb
  have B0 := (Below.refl w.heap.size w).alloc (Nat.le_refl _) (.cells #[.string ⟨#[]⟩, .string ⟨#[]⟩] 41)
  refine ⟨(hb.cell (by simp)).trans (by simp [World.cell?_alloc_new]), (hb.cell (by simp)).trans (by simp [World.cell?_alloc_new]), (hb.frozen (by simp)).trans (World.frozen?_alloc_new ..), (hb.frozen (by simp)).trans (World.frozen?_alloc_new ..), B0.trans (hb.mono B0.size)⟩

set_option maxHeartbeats 2000000 in
theorem pair_bad (l : List UInt8) (A : Option Addr) (n c : Nat) (k : Int) (w : World) (hn : l.length = n) (hnc : n ≤ c) (hm : c ≤ 9223372036854775807) (hn9 : n ≤ 1000000) (hk : I64 k) (hs : Sees w A (vB l)) (ht : TabC w) (h0 : (nmT l k).2.2 ≠ 0) :
    Calls Tryd.prog 107 #[.slice A n c, .int .i64 k] w fun e w' => e = .returned (quV (pairT l k)) ∧ Below w.heap.size w w' := by
  have HN := fun (w' : World) (hb : Below w.heap.size w w') => name_any l A n c k w' hn hnc hm hk (hs.below hb) (ht.below hb).toN
  have hv : pairT l k = noQ (nmT l k).2.2 := by unfold pairT; rw [if_pos h0]
  rw [readV_tr, nmT_err l k h0] at HN
  rw [hv]
  obtain ⟨e0, he0⟩ : ∃ e0, (nmT l k).2.2 = e0 := ⟨_, rfl⟩
  rw [he0] at HN h0 ⊢
  rw [trV_no] at HN
  rw [quV_no]
  have t1 : (e0 != 0) = true := by simpa using h0
  have KN := Lib.hid HN
  clear hs HN h0 he0 hn hv ht
  have B0 := (Below.refl w.heap.size w).alloc (Nat.le_refl _) (.cells #[.string ⟨#[]⟩, .string ⟨#[]⟩] 41)
  have NP := Lib.hid (newPair w)
  go_enter Tryd.func107, Tryd.ntmps107
  go_wp2_with fail
  refine (KN.out _ B0).mono ?_
  rintro e w1 ⟨rfl, hb1⟩
  obtain ⟨x0, x1, v0, v1, B1⟩ := NP.out w1 hb1
  clear hb1 B0
  go_wp2_with fail
  (try simp only [Exit.inBlock, Exit.then])
  obtain ⟨c0, c1⟩ := two_cells (.string ⟨#[]⟩) (.string ⟨#[]⟩) x0 x1
  refine bodyPost_ret (by simp [results, Tryd.results107, go_sem, c0, c1]; first | rfl | done) rfl ⟨rfl, (B1.setCell (Nat.le_refl _) _).setCell (Nat.le_refl _) _⟩
set_option maxHeartbeats 4000000 in
theorem pair_any (l : List UInt8) (A : Option Addr) (n c : Nat) (k : Int) (w : World) (hn : l.length = n) (hnc : n ≤ c) (hm : c ≤ 9223372036854775807) (hn9 : n ≤ 1000000) (hk : I64 k) (hs : Sees w A (vB l)) (ht : TabC w) (hk0 : 0 ≤ k) (hkn : k ≤ (n : Int)) :
    Calls Tryd.prog 107 #[.slice A n c, .int .i64 k] w fun e w' => e = .returned (quV (pairT l k)) ∧ Below w.heap.size w w' := by
  by_cases h0 : (nmT l k).2.2 = 0
  rotate_left
  · exact pair_bad l A n c k w hn hnc hm hn9 hk hs ht h0
  obtain ⟨j, rfl⟩ : ∃ j : Nat, k = j := ⟨k.toNat, by omega⟩
  have HN := fun (w' : World) (hb : Below w.heap.size w w') => name_any l A n c (j : Int) w' hn hnc hm hk (hs.below hb) (ht.below hb).toN
  obtain ⟨z, hz, hjz, hzl, _⟩ := nmT_go (by omega) h0
  obtain ⟨s, hsd⟩ : ∃ s, (l.drop j).take (z - j) = s := ⟨_, rfl⟩
  rw [hsd] at hz
  rw [readV_tr, hz] at HN
  unfold pairT
  rw [hz, if_neg (by simp)]
  simp only [Int.toNat_natCast]
  have hbl := blkN_le l l.length z hzl
  have H2 := fun (w' : World) (hb : Below w.heap.size w w') => blanks_any l A n c (z : Int) w' hn hnc (by omega) ⟨by omega, by omega⟩ (hs.below hb)
  rw [blkV_in hzl] at H2
  obtain ⟨q, hq⟩ : ∃ q, blkN l l.length z = q := ⟨_, rfl⟩
  rw [hq] at H2 hbl ⊢
  have K2 := Lib.hid H2
  unfold trV at HN
  have KN := Lib.hid HN
  by_cases hqn : q = l.length
  · rw [if_pos (.inl hqn), quV_no]
    rw [hn] at hqn
    subst hqn
    clear hs HN H2 h0 hz hq hbl hzl hn hsd ht hk0 hkn hjz
    have B0 := (Below.refl w.heap.size w).alloc (Nat.le_refl _) (.cells #[.string ⟨#[]⟩, .string ⟨#[]⟩] 41)
    have NP := Lib.hid (newPair w)
    go_enter Tryd.func107, Tryd.ntmps107
    go_wp2_with fail
    refine (KN.out _ B0).mono ?_
    rintro e w1 ⟨rfl, hb1⟩
    obtain ⟨x0, x1, v0, v1, B1⟩ := NP.out w1 hb1
    clear hb1 B0
    go_wp2_with fail
    refine (K2.out w1 B1).mono ?_
    rintro e w2 ⟨rfl, rfl⟩
    go_wp2_with fail
    (try simp only [Exit.inBlock, Exit.then])
    obtain ⟨c0, c1⟩ := two_cells (.string ⟨#[]⟩) (.string ⟨#[]⟩) x0 x1
    refine bodyPost_ret (by simp [results, Tryd.results107, go_sem, c0, c1]; first | rfl | done) rfl ⟨rfl, (B1.setCell (Nat.le_refl _) _).setCell (Nat.le_refl _) _⟩
  obtain ⟨ad, rfl, hcell⟩ := hs.byte (k := q) (by omega)
  obtain ⟨d, hd⟩ : ∃ d, byteAt l q = d := ⟨_, rfl⟩
  have hd9 := byteAt_lt l q
  rw [hd] at hcell hd9 ⊢
  have hqn' : q ≠ n := by omega
  have hql : q < n := by omega
  have hC := fun (w' : World) (hb : Below w.heap.size w w') => cell_later hb hcell
  have KC := Lib.hid hC
  by_cases h61 : d = 61
  rotate_left
  · rw [if_pos (.inr h61), quV_no]
    have t1 : ((d : Int) != 61) = true := by simp; omega
    clear hs HN H2 h0 hz hq hbl hzl hn hsd ht hcell hd hC hqn h61 hk0 hkn hjz
    have B0 := (Below.refl w.heap.size w).alloc (Nat.le_refl _) (.cells #[.string ⟨#[]⟩, .string ⟨#[]⟩] 41)
    have NP := Lib.hid (newPair w)
    go_enter Tryd.func107, Tryd.ntmps107
    go_wp2_with fail
    refine (KN.out _ B0).mono ?_
    rintro e w1 ⟨rfl, hb1⟩
    obtain ⟨x0, x1, v0, v1, B1⟩ := NP.out w1 hb1
    have hcell1 := KC.out w1 B1
    clear hb1 B0
    go_wp2_with fail
    refine (K2.out w1 B1).mono ?_
    rintro e w2 ⟨rfl, rfl⟩
    go_wp2_with fail
    (try simp only [Exit.inBlock, Exit.then])
    obtain ⟨c0, c1⟩ := two_cells (.string ⟨#[]⟩) (.string ⟨#[]⟩) x0 x1
    refine bodyPost_ret (by simp [results, Tryd.results107, go_sem, c0, c1]; first | rfl | done) rfl ⟨rfl, (B1.setCell (Nat.le_refl _) _).setCell (Nat.le_refl _) _⟩
  rw [if_neg (by omega)]
  subst h61
  have H3 := fun (w' : World) (hb : Below w.heap.size w w') => blanks_any l (some ad) n c ((q : Int) + 1) w' hn hnc (by omega) ⟨by omega, by omega⟩ (hs.below hb)
  have e1 : (q : Int) + 1 = ((q + 1 : Nat) : Int) := by omega
  have H3' : ∀ w', Below w.heap.size w w' → _ := H3
  rw [show blkV l ((q : Int) + 1) = (blkN l l.length (q + 1) : Nat) from by rw [e1, blkV_in (by omega)]] at H3
  have hbp := blkN_le l l.length (q + 1) (by omega)
  obtain ⟨p, hp⟩ : ∃ p, blkN l l.length (q + 1) = p := ⟨_, rfl⟩
  rw [hp] at H3 hbp ⊢
  have H4 := fun (w' : World) (hb : Below w.heap.size w w') => litValue_any l (some ad) n c (p : Int) w' hn hnc hm ⟨by omega, by omega⟩ hn9 (hs.below hb) (ht.below hb)
  have K3 := Lib.hid H3
  clear H3'
  by_cases h4 : (strT 60 l (p : Int)).2.2 = 0
  rotate_left
  · rw [if_pos h4, quV_no]
    rw [strT_err _ _ _ h4] at H4
    obtain ⟨e0, he0⟩ : ∃ e0, (strT 60 l (p : Int)).2.2 = e0 := ⟨_, rfl⟩
    rw [he0] at H4 h4 ⊢
    rw [trV_no] at H4
    have t1 : (e0 != 0) = true := by simpa using h4
    have K4 := Lib.hid H4
    clear hs HN H2 h0 hz hq hbl hzl hn hsd ht hcell hd hC hqn hk0 hkn hjz H3 H4 hbp hp e1 h4 he0
    have B0 := (Below.refl w.heap.size w).alloc (Nat.le_refl _) (.cells #[.string ⟨#[]⟩, .string ⟨#[]⟩] 41)
    have NP := Lib.hid (newPair w)
    go_enter Tryd.func107, Tryd.ntmps107
    go_wp2_with fail
    refine (KN.out _ B0).mono ?_
    rintro e w1 ⟨rfl, hb1⟩
    obtain ⟨x0, x1, v0, v1, B1⟩ := NP.out w1 hb1
    have hcell1 := KC.out w1 B1
    clear B0
    go_wp2_with fail
    refine (K2.out w1 B1).mono ?_
    rintro e w2 ⟨rfl, rfl⟩
    go_wp2_with fail
    refine (K3.out w1 B1).mono ?_
    rintro e w2 ⟨rfl, rfl⟩
    go_wp2_with fail
    refine (K4.out w1 B1).mono ?_
    rintro e w2 ⟨rfl, hb2⟩
    clear x0 x1 v0 v1 B1 hcell1
    obtain ⟨x0, x1, v0, v1, B1⟩ := NP.out w2 (hb1.trans (hb2.mono hb1.size))
    clear hb1 hb2
    go_wp2_with fail
    (try simp only [Exit.inBlock, Exit.then])
    obtain ⟨c0, c1⟩ := two_cells (.string ⟨#[]⟩) (.string ⟨#[]⟩) x0 x1
    refine bodyPost_ret (by simp [results, Tryd.results107, go_sem, c0, c1]; first | rfl | done) rfl ⟨rfl, (B1.setCell (Nat.le_refl _) _).setCell (Nat.le_refl _) _⟩
  rw [if_neg (by simpa using h4)]
  obtain ⟨T, hT⟩ : ∃ T, strT 60 l (p : Int) = T := ⟨_, rfl⟩
  obtain ⟨v, y, e0⟩ := T
  rw [hT] at H4 h4 ⊢
  unfold trV at H4
  simp only at h4
  subst h4
  have K4 := Lib.hid H4
  clear hs HN H2 h0 hz hq hbl hzl hn hsd ht hcell hd hC hqn hk0 hkn hjz H3 H4 hbp hp e1 hT
  have B0 := (Below.refl w.heap.size w).alloc (Nat.le_refl _) (.cells #[.string ⟨#[]⟩, .string ⟨#[]⟩] 41)
  have NP := Lib.hid (newPair w)
  go_enter Tryd.func107, Tryd.ntmps107
  go_wp2_with fail
  refine (KN.out _ B0).mono ?_
  rintro e w1 ⟨rfl, hb1⟩
  obtain ⟨x0, x1, v0, v1, B1⟩ := NP.out w1 hb1
  have hcell1 := KC.out w1 B1
  clear B0
  go_wp2_with fail
  refine (K2.out w1 B1).mono ?_
  rintro e w2 ⟨rfl, rfl⟩
  go_wp2_with fail
  refine (K3.out w1 B1).mono ?_
  rintro e w2 ⟨rfl, rfl⟩
  go_wp2_with fail
  refine (K4.out w1 B1).mono ?_
  rintro e w2 ⟨rfl, hb2⟩
  clear x0 x1 v0 v1 B1 hcell1
  obtain ⟨x0, x1, v0, v1, B1⟩ := NP.out w2 (hb1.trans (hb2.mono hb1.size))
  clear hb1 hb2
  go_wp2_with fail
  (try simp only [Exit.inBlock, Exit.then])
  obtain ⟨c0, c1⟩ := two_cells (strV s) (strV v) x0 x1
  refine bodyPost_ret (by simp [results, Tryd.results107, go_sem, c0, c1]; first | rfl | done) rfl ⟨rfl, (B1.setCell (Nat.le_refl _) _).setCell (Nat.le_refl _) _⟩
end Go.Proofs.YtdmfladcldkmeaaDoor
namespace Go.Proofs.YtdmfladcldkmeaaDoor
open Go.ChangeShapes Go.WideShapes Go.ChangeAt Go.RowKit
set_option linter.unusedVariables false
set_option maxRecDepth 100000

theorem quoT_go {l : List UInt8} {k : Nat} (hk : k ≤ l.length) (h : (quoT l (k : Int)).2.2 = 0) : ∃ b : Nat, (quoT l (k : Int)).2.1 = b ∧ k < b ∧ b ≤ l.length := by
  unfold quoT at h ⊢
  rw [if_neg (by omega), Int.toNat_natCast] at h ⊢
  split
  · next h2 => rw [if_pos h2] at h; exact absurd h (by show (7 : Int) ≠ 0; omega)
  · next h2 =>
    rw [if_neg h2] at h
    split
    · next h3 => rw [if_pos h3] at h; exact absurd h (by show (7 : Int) ≠ 0; omega)
    · next h3 =>
      refine ⟨_, rfl, by omega, ?_⟩
      rcases index_cases (l.drop (k + 1)) (UInt8.ofNat (byteAt l k)) with ⟨h4, _⟩ | ⟨i, h4, h5, _⟩
      · omega
      · rw [h4, Int.toNat_natCast]
        rw [List.length_drop] at h5
        omega
theorem strT_go {d : Nat} {l : List UInt8} {k : Nat} (hk : k ≤ l.length) (h : (strT d l (k : Int)).2.2 = 0) : ∃ b : Nat, (strT d l (k : Int)).2.1 = b ∧ k < b ∧ b ≤ l.length ∧ (strT d l (k : Int)).1.length ≤ l.length := by
  have hq := quoT_len l (k : Int)
  unfold strT chkT at h ⊢
  split
  · next h1 => rw [if_pos h1] at h; exact absurd h h1
  · next h1 =>
    rw [if_neg h1] at h
    split
    · next h2 => rw [if_pos h2] at h; exact absurd h h2
    · next h2 =>
      obtain ⟨b, h3, h4, h5⟩ := quoT_go hk (by simpa using h1)
      exact ⟨b, h3, h4, h5, hq⟩
theorem pair_err (l : List UInt8) (k : Int) (h : (pairT l k).2.2.2 ≠ 0) : pairT l k = noQ (pairT l k).2.2.2 := by
  unfold pairT at h ⊢
  split
  · rfl
  · next h1 =>
    rw [if_neg h1] at h
    split
    · rfl
    · next h2 =>
      rw [if_neg h2] at h
      split
      · rfl
      · next h3 => rw [if_neg h3] at h; exact absurd rfl h
theorem pair_go {l : List UInt8} {k : Nat} (hk : k ≤ l.length) (h : (pairT l (k : Int)).2.2.2 = 0) :
    ∃ (s v : List UInt8) (b : Nat), pairT l (k : Int) = (s, v, (b : Int), 0) ∧ k < b ∧ b ≤ l.length ∧ s.length ≤ 1024 ∧ v.length ≤ l.length := by
  unfold pairT at h ⊢
  split
  · next h1 => rw [if_pos h1] at h; exact absurd h h1
  · next h1 =>
    rw [if_neg h1] at h
    obtain ⟨z, hz, h4, h5, h6⟩ := nmT_go hk (by simpa using h1)
    rw [hz] at h ⊢
    simp only [Int.toNat_natCast] at h ⊢
    split
    · next h2 => rw [if_pos h2] at h; exact absurd h (by show (7 : Int) ≠ 0; omega)
    · next h2 =>
      rw [if_neg h2] at h
      split
      · next h3 => rw [if_pos h3] at h; exact absurd h h3
      · next h3 =>
        have hb1 := blkN_le l l.length z h5
        have hb2 := blkN_le l l.length (blkN l l.length z + 1) (by omega)
        obtain ⟨b, h7, h8, h9, h10⟩ := strT_go hb2.2 (by simpa using h3)
        rw [h7]
        exact ⟨_, _, b, rfl, by omega, h9, by rw [List.length_take]; omega, h10⟩
/-- Names with values. -/
abbrev Prs := List (List UInt8 × List UInt8)
def hasN (ps : Prs) (s : List UInt8) : Bool := ps.any (fun p => p.1 == s)
/-- Attributes from place k on, behind those read. -/
def parsN (l : List UInt8) : Nat → Prs → Nat → Prs × Int × Int
  | 0, ps, k => (ps, (k : Int), 0)
  | f + 1, ps, k =>
    if blkN l l.length k = k ∨ blkN l l.length k = l.length ∨ byteAt l (blkN l l.length k) = 47 ∨ byteAt l (blkN l l.length k) = 62 then (ps, (k : Int), 0)
    else if (pairT l (blkN l l.length k : Nat)).2.2.2 ≠ 0 then ([], 0, (pairT l (blkN l l.length k : Nat)).2.2.2)
    else if hasN ps (pairT l (blkN l l.length k : Nat)).1 then ([], 0, 12)
    else parsN l f (ps ++ [((pairT l (blkN l l.length k : Nat)).1, (pairT l (blkN l l.length k : Nat)).2.1)]) (pairT l (blkN l l.length k : Nat)).2.2.1.toNat
def parsT (l : List UInt8) (k : Int) : Prs × Int × Int :=
  if k < 0 ∨ (l.length : Int) < k then ([], 0, 3) else parsN l (l.length + 1) [] k.toNat
theorem pars_stop {l : List UInt8} {ps : Prs} {k q : Nat} (f : Nat) (hq : blkN l l.length k = q) (h : q = k ∨ q = l.length ∨ byteAt l q = 47 ∨ byteAt l q = 62) : parsN l f ps k = (ps, (k : Int), 0) := by
  cases f with
  | zero => rfl
  | succ f => rw [parsN, hq, if_pos h]
theorem pars_bad {l : List UInt8} {ps : Prs} {k q : Nat} {e : Int} (f : Nat) (hq : blkN l l.length k = q) (h : ¬ (q = k ∨ q = l.length ∨ byteAt l q = 47 ∨ byteAt l q = 62)) (hp : pairT l (q : Int) = noQ e) (he : e ≠ 0) : parsN l (f + 1) ps k = ([], 0, e) := by
  rw [parsN, hq, if_neg h, hp, if_pos (by exact he)]; rfl
theorem pars_twice {l : List UInt8} {ps : Prs} {k q : Nat} {s v : List UInt8} {b : Nat} (f : Nat) (hq : blkN l l.length k = q) (h : ¬ (q = k ∨ q = l.length ∨ byteAt l q = 47 ∨ byteAt l q = 62)) (hp : pairT l (q : Int) = (s, v, (b : Int), 0)) (ht : hasN ps s = true) : parsN l (f + 1) ps k = ([], 0, 12) := by
  rw [parsN, hq, if_neg h, hp, if_neg (by simp), if_pos ht]
theorem pars_on {l : List UInt8} {ps : Prs} {k q : Nat} {s v : List UInt8} {b : Nat} (f : Nat) (hq : blkN l l.length k = q) (h : ¬ (q = k ∨ q = l.length ∨ byteAt l q = 47 ∨ byteAt l q = 62)) (hp : pairT l (q : Int) = (s, v, (b : Int), 0)) (ht : hasN ps s = false) : parsN l (f + 1) ps k = parsN l f (ps ++ [(s, v)]) b := by
  rw [parsN, hq, if_neg h, hp, if_neg (by simp), if_neg (by simp [ht]), Int.toNat_natCast]
/-- Pairs as cells. -/
def vQ : Prs → List Value
  | [] => []
  | p :: ps => strV p.1 :: strV p.2 :: vQ ps
theorem vQ_len : ∀ ps : Prs, (vQ ps).length = ps.length * 2
  | [] => rfl
  | p :: ps => by simp [vQ, vQ_len ps]; omega
theorem vQ_append : ∀ a b : Prs, vQ (a ++ b) = vQ a ++ vQ b
  | [], _ => rfl
  | p :: a, b => by simp [vQ, vQ_append a b]
theorem vQ_one : ∀ ps : Prs, ∀ u ∈ vQ ps, u.oneCell' = true
  | [] => by simp [vQ]
  | p :: ps => by
    intro u hu
    simp only [vQ, List.mem_cons] at hu
    rcases hu with rfl | rfl | hu
    · rfl
    · rfl
    · exact vQ_one ps u hu
theorem vQ_at : ∀ (ps : Prs) (i : Nat) (p : List UInt8 × List UInt8), ps[i]? = some p → (vQ ps)[2 * i]? = some (strV p.1) ∧ (vQ ps)[2 * i + 1]? = some (strV p.2)
  | [], _, _, h => by simp at h
  | x :: ps, 0, p, h => by simp at h; subst h; exact ⟨rfl, rfl⟩
  | x :: ps, i + 1, p, h => by
    have h1 := vQ_at ps i p (by simpa using h)
    have e : 2 * (i + 1) = 2 * i + 2 := by omega
    rw [e]
    exact ⟨by simpa [vQ] using h1.1, by simpa [vQ] using h1.2⟩
end Go.Proofs.YtdmfladcldkmeaaDoor
namespace Go.Proofs.YtdmfladcldkmeaaDoor
open Go.ChangeShapes Go.WideShapes Go.ChangeAt Go.RowKit Go.Maps
set_option linter.unusedVariables false
set_option maxRecDepth 100000

theorem pairInfo : (Tryd.prog.info? 41).map (fun i => (i.zero, i.size, i.bytes)) = some (some (.agg #[.string ⟨#[]⟩, .string ⟨#[]⟩]), 2, 32) := by kernel_rfl
theorem lawPlaces : Keyed Tryd.prog 9 := string_keyed Tryd.underlying9
theorem zeroPlace (w : World) : (zeroValue 3).run Tryd.prog w = .ok (.int .i64 0) w := by kernel_rfl
theorem q_cells (w : World) (l : List Value) (t : TypeId) : ∀ j u, l[j]? = some u → (w.alloc (.cells l.toArray t)).cell? ((⟨w.heap.size, 0, none⟩ : Addr).add j) = some u := by
  intro j u h
  have e : (⟨w.heap.size, 0, none⟩ : Addr).add j = ⟨w.heap.size, j, none⟩ := by
    unfold Addr.add; split
    · next h0 => rw [h0]
    · simp
  rw [e]
  simp [World.cell?_alloc_new, h]
theorem q_below {w w' : World} {base : Nat} {e : TypeId} {size n : Nat} {v : Value} {xs : List Value} (h : w.ownsRow base e size v n xs) (hb : Below w.heap.size w w') : w'.ownsRow base e size v n xs := by
  refine ⟨h.1, ?_⟩
  rcases h.2 with hn | ⟨g, cap, cur, e, h1, h2, h3⟩
  · exact .inl hn
  · exact .inr ⟨g, cap, cur, e, h1, (hb.block g (Array.getElem?_eq_some_iff.1 h2).1).trans h2, h3⟩
theorem q_base {w : World} {base base' : Nat} {e : TypeId} {size n : Nat} {v : Value} {xs : List Value} (h : w.ownsRow base e size v n xs) (hb : base' ≤ base) : w.ownsRow base' e size v n xs := by
  refine ⟨h.1, ?_⟩
  rcases h.2 with hn | ⟨g, cap, cur, e, h1, h2⟩
  · exact .inl hn
  · exact .inr ⟨g, cap, cur, e, Nat.le_trans hb h1, h2⟩
theorem m_below {H : Type} {w w' : World} {P : Program} {k : TypeId} {R : Value → Option (DataW H × List MemPlace)} {b n : Nat} {D : DataW H} (h : w.ownsMap P k R b n D) (hb : Below w.heap.size w w') : w'.ownsMap P k R b n D := by
  have hlt := h.lt
  obtain ⟨es, clock, h1, F, hs, hD⟩ := h
  exact ⟨es, clock, (hb.block b hlt).trans h1, F, hs, hD⟩
/-- The map's keys are the names read. -/
def HasIs (D : DataW Unit) (ps : Prs) : Prop := ∀ s : List UInt8, Maps.has D (.string s) = hasN ps s
theorem hasIs_nil : HasIs (.map []) [] := fun _ => rfl
theorem hasIs_put {D d : DataW Unit} {ps : Prs} (h : HasIs D ps) (hD : IsMap D) (s v : List UInt8) : HasIs (D.put (.string s) d) (ps ++ [(s, v)]) := by
  intro t
  unfold hasN
  rw [List.any_append]
  by_cases hst : t = s
  · subst hst
    rw [has_put_same hD (by trivial)]
    simp
  · rw [has_put_other (by simpa using hst), h t]
    have : (s == t) = false := by rw [beq_eq_false_iff_ne]; exact fun e => hst e.symm
    simp [hasN, this]
theorem key_str (s : List UInt8) (h : s.length ≤ 1024) : keyOf Tryd.prog 9 (strV s) = some (.string s) := Go.WideMaps.keyOf_string_mk (s := ⟨s.toArray⟩) Tryd.underlying9 (by have := str_size s; unfold maxLen; omega)
theorem own_ne {w : World} {B : Nat} {e : TypeId} {size n : Nat} {v : Value} {xs : List Value} (h : w.ownsRow (B + 1) e size v n xs) : v.ownBlock ≠ some B := fun hh => by have := (h.lt _ hh).1; omega
/-- What holds at the head of each round. -/
def PRel (l : List UInt8) (R : Prs × Int × Int) (B : Nat) (W : World) (v i : Value) (wr : World) : Prop :=
  ∃ (k f : Nat) (ps : Prs) (D : DataW Unit), i = .int .i64 k ∧ k ≤ l.length ∧ l.length < f + k ∧ parsN l f ps k = R ∧ ps.length ≤ k ∧ wr.ownsRow (B + 1) 41 2 v ps.length (vQ ps) ∧
    wr.ownsMap Tryd.prog 9 (plainElem Tryd.prog 3) B ps.length D ∧ HasIs D ps ∧ Below B W wr ∧ B + 1 ≤ wr.heap.size
theorem PRel_mk {l : List UInt8} {R : Prs × Int × Int} {B : Nat} {W : World} {v : Value} {wr : World} (k f : Nat) (ps : Prs) (D : DataW Unit) (h1 : k ≤ l.length) (h2 : l.length < f + k) (h3 : parsN l f ps k = R) (h4 : ps.length ≤ k) (h5 : wr.ownsRow (B + 1) 41 2 v ps.length (vQ ps))
    (h6 : wr.ownsMap Tryd.prog 9 (plainElem Tryd.prog 3) B ps.length D) (h7 : HasIs D ps) (h8 : Below B W wr) (h9 : B + 1 ≤ wr.heap.size) : PRel l R B W v (.int .i64 k) wr := ⟨k, f, ps, D, rfl, h1, h2, h3, h4, h5, h6, h7, h8, h9⟩
/-- What Pairs tells. -/
def PairsPost (x : Prs × Int × Int) (W : World) (e : Ending) (w' : World) : Prop :=
  ∃ v, e = .returned (.tuple #[v, .int .i64 x.2.1, .int .i64 x.2.2]) ∧ w'.ownsRow W.heap.size 41 2 v x.1.length (vQ x.1) ∧ Below W.heap.size W w'
theorem pairsPost_no {w w' : World} {e : Int} (hb : Below w.heap.size w w') : PairsPost ([], 0, e) w (.returned (.tuple #[.slice none 0 0, .int .i64 0, .int .i64 e])) w' := ⟨_, rfl, World.ownsRow_nil _ _ _ _, hb⟩

set_option maxHeartbeats 4000000 in
theorem pairs_any (l : List UInt8) (A : Option Addr) (n c : Nat) (k : Int) (w : World) (hn : l.length = n) (hnc : n ≤ c) (hm : c ≤ 9223372036854775807) (hn9 : n ≤ 1000000) (hk : I64 k) (hs : Sees w A (vB l)) (ht : TabC w) :
    Calls Tryd.prog 64 #[.slice A n c, .int .i64 k] w (PairsPost (parsT l k) w) := by
  have hkl := hk.1
  have hkh := hk.2
  by_cases hout : k < 0 ∨ (n : Int) < k
  · have hv : parsT l k = ([], 0, 3) := by unfold parsT; rw [if_pos (by rw [hn]; exact hout)]
    rw [hv]
    clear hv hs
    rcases hout with h0 | h0
    all_goals
      go_enter Tryd.func64, Tryd.ntmps64
      go_wp2_with fail
      go_step3
      go_wp2_with fail
      try rw [Exit.noGoto_ret]
      go_ret3
      exact pairsPost_no (Below.refl _ _)
  · obtain ⟨j, rfl⟩ : ∃ j : Nat, k = j := ⟨k.toNat, by omega⟩
    have hj : j ≤ n := by omega
    obtain ⟨R, hR⟩ : ∃ R, parsT l (j : Int) = R := ⟨_, rfl⟩
    have hR' : parsN l (l.length + 1) [] j = R := by rw [← hR]; unfold parsT; rw [if_neg (by omega), Int.toNat_natCast]
    rw [hR]
    clear hR
    obtain ⟨i0, hi0, hz0, hz1, hz2⟩ := info_parts pairInfo
    have hmm := @run_makeMap Tryd.prog
    have HR := Lib.hid hR'
    have HN := Lib.hid hn
    have KB := Lib.hid (fun (x : Int) (w' : World) (hx : I64 x) (hb : Below w.heap.size w w') => blanks_any l A n c x w' hn hnc (by omega) hx (hs.below hb))
    have KP := Lib.hid (fun (x : Int) (w' : World) (hx : I64 x) (h0 : 0 ≤ x) (h1 : x ≤ n) (hb : Below w.heap.size w w') => pair_any l A n c x w' hn hnc hm hn9 hx (hs.below hb) (ht.below hb) h0 h1)
    have KC := Lib.hid (fun (q : Nat) (hq : q < n) => hs.byte (k := q) (by omega))
    clear hs ht hR' hn
    go_enter Tryd.func64, Tryd.ntmps64
    go_wp2_with fail
    go_step3
    go_wp2_with fail
    (try go_step3)
    go_wp2_with fail
    have dj : decide ((j : Int) < 0) = false := by simp
    have dj2 : decide (n < j) = false := by simp; omega
    simp only [dj, dj2, Bool.or_self]
    clear dj dj2
    go_loopw [7, 9] (fun v i wr => PRel l R w.heap.size w v i wr) (fun _ i _ => n - (intOf i).toNat)
    case atStart =>
      exact PRel_mk j _ [] (.map []) (by rw [HN.out]; omega) (by omega) HR.out (Nat.zero_le _) (World.ownsRow_nil _ _ _ _) (World.ownsMap_made _ _ _ _) hasIs_nil ((Below.refl _ _).alloc (Nat.le_refl _) _) (by simp)
    case round =>
      obtain ⟨k, f, ps, D, rfl, hkn, hf, hrun, hps, hown, hmap, hD, hB, hB1⟩ := hrel
      have hbl := blkN_le l l.length k hkn
      have H2 := KB.out (k : Int) wr ⟨by omega, by rw [HN.out] at hkn; omega⟩ hB
      rw [blkV_in hkn] at H2
      obtain ⟨q, hq⟩ : ∃ q, blkN l l.length k = q := ⟨_, rfl⟩
      rw [hq] at H2 hbl
      have K2 := Lib.hid H2
      have HRUN := Lib.hid hrun
      have HQ := Lib.hid hq
      have HO := Lib.hid hown
      have HM := Lib.hid hmap
      have HD := Lib.hid hD
      rw [HN.out] at hkn hbl hf
      clear hrun hq hown hmap hD H2
      have HF0 : (q = k ∨ q = n ∨ byteAt l q = 47 ∨ byteAt l q = 62) → PairsPost R w (.returned (.tuple #[u7, .int .i64 k, .int .i64 0])) wr := by
        intro h
        have hR0 : R = (ps, (k : Int), 0) := by rw [← HRUN.out]; exact pars_stop f HQ.out (by rw [HN.out]; exact h)
        exact ⟨u7, by rw [hR0], by rw [hR0]; exact q_base HO.out (Nat.le_succ _), hB⟩
      have HF := Lib.hid HF0
      clear HF0
      by_cases hqk : q = k
      · subst hqk
        go_wp2_with fail
        refine K2.out.mono ?_
        rintro e w1 ⟨rfl, rfl⟩
        go_wp2_with fail
        try rw [Exit.noGoto_ret]
        go_ret3
        exact HF.out (.inl (by first | rfl | trivial))
      have tqk : ((q : Int) == (k : Int)) = false := by simp; omega
      by_cases hqn : q = n
      · subst hqn
        go_wp2_with fail
        refine K2.out.mono ?_
        rintro e w1 ⟨rfl, rfl⟩
        go_wp2_with fail
        try rw [Exit.noGoto_ret]
        go_ret3
        exact HF.out (.inr (.inl (by first | rfl | trivial)))
      have tqn : ((q : Int) == (n : Int)) = false := by simp; omega
      have hql : q < n := by omega
      obtain ⟨ad, rfl, hcell0⟩ := KC.out q hql
      have hcell := cell_later hB hcell0
      obtain ⟨d, hd⟩ : ∃ d, byteAt l q = d := ⟨_, rfl⟩
      have hd9 := byteAt_lt l q
      rw [hd] at hcell hd9
      have HDD := Lib.hid hd
      clear hcell0 hd
      by_cases h47 : d = 47
      · subst h47
        go_wp2_with fail
        refine K2.out.mono ?_
        rintro e w1 ⟨rfl, rfl⟩
        go_wp2_with fail
        try rw [Exit.noGoto_ret]
        go_ret3
        exact HF.out (.inr (.inr (.inl HDD.out)))
      by_cases h62 : d = 62
      · subst h62
        go_wp2_with fail
        refine K2.out.mono ?_
        rintro e w1 ⟨rfl, rfl⟩
        go_wp2_with fail
        try rw [Exit.noGoto_ret]
        go_ret3
        exact HF.out (.inr (.inr (.inr HDD.out)))
      have HNS := Lib.hid (show ¬ (q = k ∨ q = l.length ∨ byteAt l q = 47 ∨ byteAt l q = 62) by rw [HN.out, HDD.out]; omega)
      have H3 := KP.out (q : Int) wr ⟨by omega, by omega⟩ (by omega) (by omega) hB
      obtain ⟨f', rfl⟩ : ∃ f', f = f' + 1 := ⟨f - 1, by omega⟩
      clear HF
      by_cases he : (pairT l (q : Int)).2.2.2 = 0
      rotate_left
      · have hpe := pair_err l q he
        obtain ⟨e0, he0⟩ : ∃ e0, (pairT l (q : Int)).2.2.2 = e0 := ⟨_, rfl⟩
        rw [he0] at hpe he
        rw [hpe, quV_no] at H3
        have hR0 : R = ([], 0, e0) := by rw [← HRUN.out]; exact pars_bad f' HQ.out HNS.out hpe he
        subst hR0
        have K3 := Lib.hid H3
        have t1 : (e0 != 0) = true := by simpa using he
        have t47 : ((d : Int) == 47) = false := by simp; omega
        have t62 : ((d : Int) == 62) = false := by simp; omega
        clear H3 hpe he0 he HRUN HR
        go_wp2_with fail
        refine K2.out.mono ?_
        rintro e w1 ⟨rfl, rfl⟩
        go_wp2_with fail
        refine K3.out.mono ?_
        rintro e w1 ⟨rfl, hb1⟩
        have hB2 := Lib.hid (((hB.trans (hb1.mono hB.size)).alloc (hB.trans (hb1.mono hB.size)).size (.cells #[.string ⟨#[]⟩, .string ⟨#[]⟩] 41)))
        have hs2 := (hB.trans (hb1.mono hB.size)).size
        go_wp2_with fail
        try rw [Exit.noGoto_ret]
        go_ret3
        exact pairsPost_no hB2.out
      obtain ⟨s, v1, b, hp, hqb, hbl2, hsl, hvl⟩ := pair_go (by rw [HN.out]; omega) he
      rw [hp] at H3
      unfold quV at H3
      have K3 := Lib.hid H3
      have HP := Lib.hid hp
      have HKEY := Lib.hid (key_str s hsl)
      have t47 : ((d : Int) == 47) = false := by simp; omega
      have t62 : ((d : Int) == 62) = false := by simp; omega
      rw [HN.out] at hbl2 hvl
      have HHAS := Lib.hid (HD.out s)
      clear H3 hp he
      have NC : ∀ w1, Below wr.heap.size wr w1 → Below wr.heap.size wr (w1.alloc (.cells #[.string ⟨s.toArray⟩, .string ⟨v1.toArray⟩] 41)) :=
        fun w1 h => h.alloc h.size _
      have KNC := Lib.hid NC
      clear NC
      cases hh : hasN ps s with
      | true =>
        have hR0 : R = ([], 0, 12) := by rw [← HRUN.out]; exact pars_twice f' HQ.out HNS.out HP.out hh
        subst hR0
        rw [hh] at HHAS
        clear HRUN HR hh
        go_wp2_with fail
        refine K2.out.mono ?_
        rintro e w1 ⟨rfl, rfl⟩
        go_wp2_with fail
        refine K3.out.mono ?_
        rintro e w1 ⟨rfl, hb1⟩
        have c0 : (w1.alloc (.cells #[.string ⟨s.toArray⟩, .string ⟨v1.toArray⟩] 41)).cell? ⟨w1.heap.size, 0, none⟩ = some (.string ⟨s.toArray⟩) := by simp [World.cell?_alloc_new]
        have c1 : (w1.alloc (.cells #[.string ⟨s.toArray⟩, .string ⟨v1.toArray⟩] 41)).cell? ⟨w1.heap.size, 1, none⟩ = some (.string ⟨v1.toArray⟩) := by simp [World.cell?_alloc_new]
        have HB2 := Lib.hid (KNC.out w1 hb1)
        have HM2 := Lib.hid (m_below HM.out HB2.out)
        go_wp2_with (first | (at_lookup; refine wpList_lookup_own_ok_int _ rfl _ _ 148 rfl 9 3 .i64 lawPlaces Tryd.underlying148 Tryd.underlying3 (zeroPlace _) w.heap.size ps.length D rfl HM2.out _ _ rfl HKEY.out ?_; intro cc hat hwc; rw [HHAS.out]; clear hat))
        try rw [Exit.noGoto_ret]
        go_ret3
        exact pairsPost_no (hB.trans (HB2.out.mono hB.size))
      | false =>
        have hR1 : parsN l f' (ps ++ [(s, v1)]) b = R := by rw [← HRUN.out]; exact (pars_on f' HQ.out HNS.out HP.out hh).symm
        have HR1 := Lib.hid hR1
        have HWF := Lib.hid (show (Lit.int .i64 (q : Int)).wf = true from WalkArith.wf_i64 (by omega))
        rw [hh] at HHAS
        clear hR1 hh
        go_wp2_with fail
        refine K2.out.mono ?_
        rintro e w1 ⟨rfl, rfl⟩
        go_wp2_with fail
        refine K3.out.mono ?_
        rintro e w1 ⟨rfl, hb1⟩
        have c0 : (w1.alloc (.cells #[.string ⟨s.toArray⟩, .string ⟨v1.toArray⟩] 41)).cell? ⟨w1.heap.size, 0, none⟩ = some (.string ⟨s.toArray⟩) := by simp [World.cell?_alloc_new]
        have c1 : (w1.alloc (.cells #[.string ⟨s.toArray⟩, .string ⟨v1.toArray⟩] 41)).cell? ⟨w1.heap.size, 1, none⟩ = some (.string ⟨v1.toArray⟩) := by simp [World.cell?_alloc_new]
        have HB2 := Lib.hid (KNC.out w1 hb1)
        have HM2 := Lib.hid (m_below HM.out HB2.out)
        have HO2 := Lib.hid (q_below HO.out HB2.out)
        have hB3 := Lib.hid (hB.trans (HB2.out.mono hB.size))
        have hw1 := hb1.size
        have hne := Lib.hid (own_ne HO.out)
        go_wp2_with (first
          | (at_lookup; refine wpList_lookup_own_ok_int _ rfl _ _ 148 rfl 9 3 .i64 lawPlaces Tryd.underlying148 Tryd.underlying3 (zeroPlace _) w.heap.size ps.length D rfl HM2.out _ _ rfl HKEY.out ?_; intro cc hat hwc; rw [HHAS.out]; clear hat hwc)
          | (at_mapUpdate; refine wpList_mapUpdate_own _ rfl _ _ _ 148 rfl 9 3 lawPlaces Tryd.underlying148 _ w.heap.size ps.length D rfl HM2.out (by unfold maxLen; omega) _ _ _ rfl rfl HKEY.out _ [] (plainElem_int Tryd.underlying3 HWF.out) ?_; intro w3 hown3 hgrow3; have HM3 := Lib.hid hown3; have HO3 := Lib.hid (HO2.out.kept hgrow3 (.inr hne.out)); have HB4 := Lib.hid (hB3.out.grown hgrow3 hB3.out.size (fun j hj => by cases hj; exact Nat.le_refl _)); have hsz := hB3.out.size; have hsz2 := HB2.out.size; have hsz3 := hgrow3.size; have x0 := (World.cell?_of_block (hgrow3.block w1.heap.size (by simp) (by simp; omega)) : w3.cell? ⟨w1.heap.size, 0, none⟩ = _).trans c0; have x1 := (World.cell?_of_block (hgrow3.block w1.heap.size (by simp) (by simp; omega)) : w3.cell? ⟨w1.heap.size, 1, none⟩ = _).trans c1; clear hown3 hgrow3)
          | (at_builtin; refine wpList_append_own _ rfl _ _ 22 rfl (w.heap.size + 1) 41 i0 (.agg #[.string ⟨#[]⟩, .string ⟨#[]⟩]) 2 32 Tryd.underlying22 hi0 hz0 hz1 hz2 rfl (by decide) _ ps.length (vQ ps) rfl (HO3.out.alloc _) ⟨w3.heap.size, 0, none⟩ 1 1 (vQ [(s, v1)]) rfl rfl (q_cells w3 (vQ [(s, v1)]) _) (vQ_one _) (by unfold maxLen; omega) (by omega) (by simp; omega) ?_; intro v' w4 hown4 hgrow4 _; rw [← vQ_append] at hown4; have HO4 := Lib.hid hown4; have HM4 := Lib.hid ((HM3.out.alloc _).kept hgrow4 (fun e => hne.out e.symm)); have HB5 := Lib.hid ((HB4.out.alloc HB4.out.size _).grown hgrow4 (by simp; omega) (fun j hj => by have := (HO3.out.lt j hj).1; omega)); have hsz4 := hgrow4.size; clear hown4 hgrow4))
        go_roundw
        case rel => exact PRel_mk b f' (ps ++ [(s, v1)]) _ (by rw [HN.out]; omega) (by rw [HN.out]; omega) HR1.out (by rw [List.length_append]; simp; omega) (by rw [List.length_append]; exact HO4.out) (by rw [List.length_append]; exact HM4.out) (hasIs_put HD.out HM.out.isMap s v1) HB5.out (by simp at hsz4; omega)
        case measure => simp [intOf]; omega
end Go.Proofs.YtdmfladcldkmeaaDoor
namespace Go.Proofs.YtdmfladcldkmeaaDoor
open Go.ChangeShapes Go.WideShapes Go.ChangeAt Go.RowKit Go.Maps
set_option linter.unusedVariables false
set_option maxRecDepth 100000

theorem q_form {w : World} {base : Nat} {e : TypeId} {n : Nat} {v : Value} {ps : Prs} (h : w.ownsRow base e 2 v n (vQ ps)) (hn : ps.length = n) :
    (v = .slice none 0 0 ∧ n = 0) ∨ ∃ g cp, v = .slice (some ⟨g, 0, none⟩) n cp ∧ base ≤ g ∧ n ≤ cp ∧ ∀ k p, ps[k]? = some p → w.cell? ⟨g, k * 2, none⟩ = some (strV p.1) ∧ w.cell? ⟨g, k * 2 + 1, none⟩ = some (strV p.2) := by
  rcases h.2 with h1 | ⟨g, cap, cur, rfl, h2, _, h4, _⟩
  · exact .inl h1
  · refine .inr ⟨g, cap, rfl, h2, h4, fun k p hp => ?_⟩
    have hc := h.cells (g := g) rfl
    have ha : ∀ j, (⟨g, 0, none⟩ : Addr).add j = ⟨g, j, none⟩ := by
      intro j; unfold Addr.add; split
      · next h0 => rw [h0]
      · simp
    obtain ⟨q1, q2⟩ := vQ_at ps k p hp
    have e1 := hc _ _ q1
    have e2 := hc _ _ q2
    rw [ha] at e1 e2
    rw [Nat.mul_comm] at e1 e2
    exact ⟨e1, e2⟩
theorem hasN_take {ps : Prs} {s : List UInt8} {k : Nat} {p : List UInt8 × List UInt8} (hp : ps[k]? = some p) (h : hasN (ps.take k) s = false) : hasN (ps.take (k + 1)) s = (p.1 == s) := by
  unfold hasN at h ⊢
  rw [List.take_add_one, List.any_append, h, hp]
  simp
theorem hasN_yes {ps : Prs} {s : List UInt8} {k : Nat} (h : hasN (ps.take k) s = true) : hasN ps s = true := by
  unfold hasN at h ⊢
  rw [List.any_eq_true] at h ⊢
  obtain ⟨x, hx, h2⟩ := h
  exact ⟨x, List.mem_of_mem_take hx, h2⟩
set_option maxHeartbeats 2000000 in
theorem rhasP_any (ps : Prs) (s : List UInt8) (base : Nat) (v : Value) (n : Nat) (w : World) (hn : ps.length = n) (hn9 : n ≤ 1000000) (h : w.ownsRow base 41 2 v n (vQ ps)) :
    Calls Tryd.prog 61 #[v, strV s] w fun e w' => e = .returned (.bool (hasN ps s)) ∧ w = w' := by
  rcases q_form h hn with ⟨rfl, rfl⟩ | ⟨g, cp, rfl, _, hcp, hc⟩
  · have hv : hasN ps s = false := by rw [List.eq_nil_of_length_eq_zero hn]; rfl
    rw [hv]
    clear h hv hn
    go_enter Tryd.func61, Tryd.ntmps61
    go_wp2_with fail
    go_loopw [5] (fun i wr => i = .int .i64 0 ∧ wr = w) (fun _ _ => 0)
    case atStart => exact ⟨rfl, rfl⟩
    case round =>
      obtain ⟨rfl, rfl⟩ := hrel
      go_wp2_with fail
      go_ret
      exact ⟨rfl, rfl⟩
  · have HC := Lib.hid hc
    have HN := Lib.hid hn
    clear h hc hn
    go_enter Tryd.func61, Tryd.ntmps61
    go_wp2_with fail
    go_loopw [5] (fun i wr => ∃ k : Nat, i = .int .i64 k ∧ k ≤ n ∧ Hid (hasN (ps.take k) s = false) ∧ wr = w) (fun i _ => n - (intOf i).toNat)
    case atStart => exact ⟨0, rfl, Nat.zero_le _, Lib.hid rfl, rfl⟩
    case round =>
      obtain ⟨k, rfl, hk, hno, rfl⟩ := hrel
      by_cases hlt : k < n
      · obtain ⟨p, hp⟩ : ∃ p, ps[k]? = some p := ⟨_, List.getElem?_eq_getElem (by rw [HN.out]; exact hlt)⟩
        have hcell := (HC.out k p hp).1
        have HT := Lib.hid (hasN_take hp hno.out)
        clear hp
        cases hpq : (p.1 == s) with
        | true =>
          rw [hpq] at HT
          have HV := Lib.hid (hasN_yes HT.out)
          unfold strV at hcell
          go_wp2_with fail
          go_ret
          exact ⟨by rw [HV.out]; rfl, rfl⟩
        | false =>
          rw [hpq] at HT
          unfold strV at hcell
          go_wp2_with fail
          go_roundw
          case rel => exact ⟨k + 1, by go_num, by omega, HT, trivial⟩
          case measure => simp [intOf]; omega
      · have hv : hasN ps s = false := by
          have h1 := hno.out
          rwa [List.take_of_length_le (by rw [HN.out]; omega)] at h1
        have HV := Lib.hid hv
        clear hv
        go_wp2_with fail
        go_ret
        exact ⟨by rw [HV.out]; rfl, rfl⟩
end Go.Proofs.YtdmfladcldkmeaaDoor
namespace Go.Proofs.YtdmfladcldkmeaaDoor
open Go.ChangeShapes Go.WideShapes Go.ChangeAt Go.RowKit Go.Maps
set_option linter.unusedVariables false
set_option maxRecDepth 100000


end Go.Proofs.YtdmfladcldkmeaaDoor
namespace Go.Proofs.YtdmfladcldkmeaaDoor
open Go.ChangeShapes Go.WideShapes Go.ChangeAt Go.RowKit Go.Maps
set_option linter.unusedVariables false
set_option maxRecDepth 100000

set_option maxHeartbeats 1000000 in
theorem rsameP_none (A B : Option Addr) (c1 c2 : Nat) (w : World) :
    Calls Tryd.prog 23 #[.slice A 0 c1, .slice B 0 c2] w fun e w' => e = .returned (.bool true) ∧ Below w.heap.size w w' := by
  go_enter Tryd.func23, Tryd.ntmps23
  go_wp2_with fail
  go_loopw [5] (fun i wr => i = .int .i64 0 ∧ wr = w) (fun _ _ => 0)
  case atStart => exact ⟨rfl, rfl⟩
  case round =>
    obtain ⟨rfl, rfl⟩ := hrel
    go_wp2_with fail
    go_ret
    exact ⟨rfl, Below.refl _ _⟩
set_option maxHeartbeats 2000000 in
theorem rsameP_some (ps : Prs) (n g1 g2 c1 c2 : Nat) (w : World) (hn : ps.length = n) (hn9 : n ≤ 1000000)
    (hc1 : ∀ k p, ps[k]? = some p → w.cell? ⟨g1, k * 2, none⟩ = some (strV p.1) ∧ w.cell? ⟨g1, k * 2 + 1, none⟩ = some (strV p.2))
    (hc2 : ∀ k p, ps[k]? = some p → w.cell? ⟨g2, k * 2, none⟩ = some (strV p.1) ∧ w.cell? ⟨g2, k * 2 + 1, none⟩ = some (strV p.2)) :
    Calls Tryd.prog 23 #[.slice (some ⟨g1, 0, none⟩) n c1, .slice (some ⟨g2, 0, none⟩) n c2] w fun e w' => e = .returned (.bool true) ∧ Below w.heap.size w w' := by
  have HC1 := Lib.hid hc1
  have HC2 := Lib.hid hc2
  have HN := Lib.hid hn
  clear hc1 hc2 hn
  go_enter Tryd.func23, Tryd.ntmps23
  go_wp2_with fail
  go_loopw [5] (fun i wr => ∃ k : Nat, k ≤ n ∧ i = .int .i64 k ∧ ∃ nq, wr = w.drewN nq) (fun i _ => n - (intOf i).toNat)
  case atStart => exact ⟨0, by omega, rfl, 0, rfl⟩
  case round =>
    obtain ⟨k, hk, rfl, nq, rfl⟩ := hrel
    by_cases hlt : k < n
    · obtain ⟨p, hp⟩ : ∃ p, ps[k]? = some p := ⟨_, List.getElem?_eq_getElem (by rw [HN.out]; exact hlt)⟩
      obtain ⟨h1, h2⟩ := HC1.out k p hp
      obtain ⟨h3, h4⟩ := HC2.out k p hp
      obtain ⟨x, y⟩ := p
      unfold strV at h1 h2 h3 h4
      simp only at h1 h2 h3 h4
      have i0 : (0 : Int) ≤ (k : Int) := by omega
      have i1 : (k : Int) < (n : Int) := by omega
      clear hp
      go_wp2_with fail
      go_quiet (fail)
      go_wp2_with fail
      go_roundw
      case rel => exact ⟨k + 1, by omega, by go_num, _, rfl⟩
      case measure => simp [intOf]; omega
    · go_wp2_with fail
      go_ret
      exact ⟨rfl, below_dr (Below.refl _ _) _⟩
theorem rsameP_any (ps : Prs) (b1 b2 : Nat) (v1 v2 : Value) (n : Nat) (w : World) (hn : ps.length = n) (hn9 : n ≤ 1000000) (h1 : w.ownsRow b1 41 2 v1 n (vQ ps)) (h2 : w.ownsRow b2 41 2 v2 n (vQ ps)) :
    Calls Tryd.prog 23 #[v1, v2] w fun e w' => e = .returned (.bool true) ∧ Below w.heap.size w w' := by
  rcases q_form h1 hn with ⟨rfl, h3⟩ | ⟨g1, c1, rfl, _, _, hc1⟩
  · subst h3
    rcases q_form h2 hn with ⟨rfl, h4⟩ | ⟨g2, c2, rfl, _, _, hc2⟩
    · exact rsameP_none _ _ _ _ _
    · exact rsameP_none _ _ _ _ _
  · rcases q_form h2 hn with ⟨rfl, h4⟩ | ⟨g2, c2, rfl, _, _, hc2⟩
    · subst h4
      exact rsameP_none _ _ _ _ _
    · exact rsameP_some ps n g1 g2 c1 c2 w hn hn9 hc1 hc2
end Go.Proofs.YtdmfladcldkmeaaDoor
