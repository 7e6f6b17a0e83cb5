/- Tags that begin an element: the pure part. Attributes that bind, and the rest: by the program. Names: a name's parts by the document. Attributes that bind, and the rest: by the document. The attribute that binds; rows that are the same; rows that are too great. -/
import Derived.Laws.AppendOwn
import Derived.Test.YtdmfladcldkmeaaDoorPkaf
import Derived.Test.YtdmfladcldkmeaaDoorPkak
import Derived.Test.YtdmfladcldkmeaaDoorPkal
namespace Go.Proofs.YtdmfladcldkmeaaDoor
open Go.ChangeShapes Go.WideShapes Go.ChangeAt Go.RowKit Go.Maps
set_option linter.unusedVariables false
set_option maxRecDepth 100000

theorem parsN_err (l : List UInt8) : ∀ f ps k, (parsN l f ps k).2.2 ≠ 0 → parsN l f ps k = ([], 0, (parsN l f ps k).2.2)
  | 0, ps, k, h => absurd rfl h
  | f + 1, ps, k, h => by
    rw [parsN] at h ⊢
    split
    · next h1 => rw [if_pos h1] at h; exact absurd rfl h
    · next h1 =>
      rw [if_neg h1] at h
      split
      · rfl
      · next h2 =>
        rw [if_neg h2] at h
        split
        · rfl
        · next h3 =>
          rw [if_neg h3] at h
          exact parsN_err l f _ _ h
theorem parsN_go (l : List UInt8) : ∀ f ps k, k ≤ l.length → (parsN l f ps k).2.2 = 0 → ∃ i : Nat, (parsN l f ps k).2.1 = i ∧ k ≤ i ∧ i ≤ l.length
  | 0, ps, k, hk, h => ⟨k, rfl, Nat.le_refl _, hk⟩
  | f + 1, ps, k, hk, h => by
    rw [parsN] at h ⊢
    split
    · exact ⟨k, rfl, Nat.le_refl _, hk⟩
    · next h1 =>
      rw [if_neg h1] at h
      split
      · next h2 => rw [if_pos h2] at h; exact absurd h h2
      · next h2 =>
        rw [if_neg h2] at h
        split
        · next h3 => rw [if_pos h3] at h; exact absurd h (by show (12 : Int) ≠ 0; omega)
        · next h3 =>
          rw [if_neg h3] at h
          have hb := blkN_le l l.length k hk
          obtain ⟨s, v, b, hp, h4, h5, _, _⟩ := pair_go hb.2 (by simpa using h2)
          rw [hp] at h ⊢
          simp only [Int.toNat_natCast] at h ⊢
          obtain ⟨i, h6, h7, h8⟩ := parsN_go l f _ b h5 h
          exact ⟨i, h6, by omega, h8⟩
theorem parsT_err (l : List UInt8) (k : Int) (h : (parsT l k).2.2 ≠ 0) : parsT l k = ([], 0, (parsT l k).2.2) := by
  unfold parsT at h ⊢
  split
  · rfl
  · next h1 => rw [if_neg h1] at h; exact parsN_err _ _ _ _ h
theorem parsT_go {l : List UInt8} {k : Nat} (hk : k ≤ l.length) (h : (parsT l (k : Int)).2.2 = 0) : ∃ (ps : Prs) (i : Nat), parsT l (k : Int) = (ps, (i : Int), 0) ∧ k ≤ i ∧ i ≤ l.length := by
  unfold parsT at h ⊢
  rw [if_neg (by omega), Int.toNat_natCast] at h ⊢
  obtain ⟨i, h1, h2, h3⟩ := parsN_go l (l.length + 1) [] k hk h
  refine ⟨(parsN l (l.length + 1) [] k).1, i, ?_, h2, h3⟩
  rw [← h1, ← h]
/-- A name, attributes, whether nothing is inside, the place behind, an error. -/
abbrev Tagg := List UInt8 × Prs × Bool × Int × Int
def noG (e : Int) : Tagg := ([], [], false, 0, e)
/-- A tag that begins an element, its name and its attributes read. -/
def tailT (l : List UInt8) (s : List UInt8) (ps : Prs) (q : Nat) : Tagg :=
  if atB l (q : Int) [47, 62] then (s, ps, true, (q : Int) + 2, 0) else if atB l (q : Int) [62] then (s, ps, false, (q : Int) + 1, 0) else noG 7
def openT (l : List UInt8) (k : Int) : Tagg :=
  if (begT l k [60]).2.2 ≠ 0 then noG (begT l k [60]).2.2
  else if (parsT l (begT l k [60]).2.1).2.2 ≠ 0 then noG (parsT l (begT l k [60]).2.1).2.2
  else tailT l (begT l k [60]).1 (parsT l (begT l k [60]).2.1).1 (blkN l l.length (parsT l (begT l k [60]).2.1).2.1.toNat)
/-- What Open tells. -/
def OpenPost (x : Tagg) (W : World) (e : Ending) (w' : World) : Prop :=
  ∃ v, e = .returned (.tuple #[.agg #[strV x.1, v, .bool x.2.2.1], .int .i64 x.2.2.2.1, .int .i64 x.2.2.2.2]) ∧ w'.ownsRow W.heap.size 41 2 v x.2.1.length (vQ x.2.1) ∧ Below W.heap.size W w'
theorem row_slice {w : World} {base : Nat} {e : TypeId} {size n : Nat} {v : Value} {xs : List Value} (h : w.ownsRow base e size v n xs) : ∃ A c, v = .slice A n c := by
  rcases h.2 with ⟨h1, h2⟩ | ⟨g, cap, _, h1, _⟩
  · exact ⟨none, 0, by rw [h1, h2]⟩
  · exact ⟨_, _, h1⟩
theorem three_cells {W : World} {b : Nat} {s0 s1 s2 : Value} (v0 v1 v2 : Value) (x0 : W.cell? ⟨b, 0, none⟩ = some s0) (x1 : W.cell? ⟨b, 1, none⟩ = some s1) (x2 : W.cell? ⟨b, 2, none⟩ = some s2) :
    (((W.setCell ⟨b, 0, none⟩ v0).setCell ⟨b, 1, none⟩ v1).setCell ⟨b, 2, none⟩ v2).cell? ⟨b, 0, none⟩ = some v0 ∧ (((W.setCell ⟨b, 0, none⟩ v0).setCell ⟨b, 1, none⟩ v1).setCell ⟨b, 2, none⟩ v2).cell? ⟨b, 1, none⟩ = some v1 ∧
    (((W.setCell ⟨b, 0, none⟩ v0).setCell ⟨b, 1, none⟩ v1).setCell ⟨b, 2, none⟩ v2).cell? ⟨b, 2, none⟩ = some v2 := by
  obtain ⟨c0, c1⟩ := two_cells v0 v1 x0 x1
  have x2' : ((W.setCell ⟨b, 0, none⟩ v0).setCell ⟨b, 1, none⟩ v1).cell? ⟨b, 2, none⟩ = some s2 := by
    rw [World.cell?_setCell_other (h := by simp), World.cell?_setCell_other (h := by simp)]; exact x2
  refine ⟨?_, ?_, World.cell?_setCell_same' _ ⟨b, 2, none⟩ v2 (by rw [x2']; rfl)⟩
  · rw [World.cell?_setCell_other (h := by simp)]; exact c0
  · rw [World.cell?_setCell_other (h := by simp)]; exact c1
end Go.Proofs.YtdmfladcldkmeaaDoor
namespace Go.Proofs.YtdmfladcldkmeaaDoor
open Go.ChangeShapes Go.WideShapes Go.ChangeAt Go.RowKit
set_option linter.unusedVariables false
set_option maxRecDepth 100000

/-- Rows of two types don't share a block. -/
theorem two_apart {w : World} {b1 b2 : Nat} {e1 e2 : TypeId} {s1 s2 n1 n2 : Nat} {v1 v2 : Value} {x1 x2 : List Value} (h1 : w.ownsRow b1 e1 s1 v1 n1 x1) (h2 : w.ownsRow b2 e2 s2 v2 n2 x2) (hne : e1 ≠ e2) : v1.ownBlock = none ∨ v1.ownBlock ≠ v2.ownBlock := by
  rcases h1.2 with ⟨rfl, _⟩ | ⟨g1, c1, cur1, rfl, _, k1, _⟩
  · exact .inl rfl
  · refine .inr fun hg2 => ?_
    rcases h2.2 with ⟨rfl, _⟩ | ⟨g2, c2, cur2, rfl, _, k2, _⟩
    · cases hg2
    · obtain rfl : g1 = g2 := by injection hg2
      rw [k1] at k2
      injection k2 with k2
      injection k2 with _ k2
      exact hne k2
theorem bindInfo : (Tryd.prog.info? 80).map (fun i => (i.zero, i.size, i.bytes)) = some (some (.agg #[.string ⟨#[]⟩, .string ⟨#[]⟩]), 2, 32) := by kernel_rfl
theorem rbindInfo : (Tryd.prog.info? 147).map (fun i => (i.zero, i.size, i.bytes)) = some (some (.agg #[.string ⟨#[]⟩, .string ⟨#[]⟩]), 2, 32) := by kernel_rfl
/-- The cells of a pair's block. -/
theorem pr_block (W w' : World) (s t : List UInt8) (ty : TypeId) (B : Nat) (hB : W.heap.size = B) (h : Below (B + 1) (W.alloc (.cells #[strV s, strV t] ty)) w') : w'.cell? ⟨B, 0, none⟩ = some (.string ⟨s.toArray⟩) ∧ w'.cell? ⟨B, 1, none⟩ = some (.string ⟨t.toArray⟩) := by
  subst hB
  exact ⟨(h.cell (by simp)).trans (by simp [World.cell?_alloc_new]), (h.cell (by simp)).trans (by simp [World.cell?_alloc_new])⟩
/-- What Split tells. -/
def SpPost (T : TypeId) (x : Prs × Prs × Int) (W : World) (e : Ending) (w' : World) : Prop :=
  ∃ v1 v2, e = .returned (.tuple #[v1, v2, .int .i64 x.2.2]) ∧ w'.ownsRow W.heap.size T 2 v1 x.1.length (vQ x.1) ∧ w'.ownsRow W.heap.size 41 2 v2 x.2.1.length (vQ x.2.1) ∧ Below W.heap.size W w'
theorem spPost_no {T : TypeId} {e : Int} {W w' : World} (h : Below W.heap.size W w') : SpPost T ([], [], e) W (.returned (.tuple #[.slice none 0 0, .slice none 0 0, .int .i64 e])) w' := ⟨_, _, rfl, World.ownsRow_nil _ _ _ _, World.ownsRow_nil _ _ _ _, h⟩
/-- What holds at the head of each round. -/
def SpRel (T : TypeId) (l : Prs) (R : Prs × Prs × Int) (W : World) (i v1 v2 : Value) (wr : World) : Prop :=
  ∃ (k : Nat) (a b : Prs), i = .int .i64 k ∧ k ≤ l.length ∧ bnN (l.drop k) a b = R ∧ a.length + b.length ≤ k ∧ wr.ownsRow W.heap.size T 2 v1 a.length (vQ a) ∧ wr.ownsRow W.heap.size 41 2 v2 b.length (vQ b) ∧ Below W.heap.size W wr
theorem SpRel_mk {T : TypeId} {l : Prs} {R : Prs × Prs × Int} {W : World} {v1 v2 : Value} {wr : World} (k : Nat) (a b : Prs) (h1 : k ≤ l.length) (h2 : bnN (l.drop k) a b = R) (h3 : a.length + b.length ≤ k)
    (h4 : wr.ownsRow W.heap.size T 2 v1 a.length (vQ a)) (h5 : wr.ownsRow W.heap.size 41 2 v2 b.length (vQ b)) (h6 : Below W.heap.size W wr) : SpRel T l R W (.int .i64 k) v1 v2 wr := ⟨k, a, b, rfl, h1, h2, h3, h4, h5, h6⟩
theorem drop_at {α : Type} {l : List α} {k : Nat} {x : α} (h : l[k]? = some x) : l.drop k = x :: l.drop (k + 1) := by
  obtain ⟨h1, h2⟩ := List.getElem?_eq_some_iff.1 h
  rw [List.drop_eq_getElem_cons h1, h2]

set_option maxHeartbeats 8000000 in
theorem split_any (l : Prs) (A : Option Addr) (n c : Nat) (w : World) (hn : l.length = n) (hn9 : n ≤ 1000) (hs : Sees w A (vQ l)) (h9 : ∀ p ∈ l, p.1.length ≤ 1000000) (ht : TabN w) :
    Calls Tryd.prog 52 #[.slice A n c] w (SpPost 80 (bnN l [] []) w) := by
  obtain ⟨R, hR⟩ : ∃ R, bnN l [] [] = R := ⟨_, rfl⟩
  rw [hR]
  obtain ⟨i0, hi0, hz0, hz1, hz2⟩ := info_parts pairInfo
  obtain ⟨j0, hj0, hy0, hy1, hy2⟩ := info_parts bindInfo
  have HN := Lib.hid hn
  have HR := Lib.hid hR
  have HS := Lib.hid hs
  have H9 := Lib.hid h9
  have HT := Lib.hid ht
  clear hn hR hs h9 ht
  go_enter Tryd.func52, Tryd.ntmps52
  go_wp2_with fail
  go_loopw [2, 3, 12] (fun v1 v2 i wr => SpRel 80 l R w i v1 v2 wr) (fun _ _ i _ => n - (intOf i).toNat)
  case atStart => exact SpRel_mk 0 [] [] (Nat.zero_le _) (by rw [List.drop_zero]; exact HR.out) (by simp) (World.ownsRow_nil _ _ _ _) (World.ownsRow_nil _ _ _ _) (Below.refl _ _)
  case round =>
    obtain ⟨k, a, b, rfl, hk, hrun, hlen, ho1, ho2, hB⟩ := hrel
    have HRUN := Lib.hid hrun
    have HO1 := Lib.hid ho1
    have HO2 := Lib.hid ho2
    rw [HN.out] at hk
    clear hrun ho1 ho2
    by_cases hlt : k < n
    · obtain ⟨p, hp⟩ : ∃ p, l[k]? = some p := ⟨_, List.getElem?_eq_getElem (by rw [HN.out]; exact hlt)⟩
      obtain ⟨ad, rfl, x0, x1⟩ := (HS.out.below hB).pair hp
      have hp9 := H9.out p (List.mem_of_getElem? hp)
      have hd := drop_at hp
      rw [hd] at HRUN
      obtain ⟨s, t⟩ := p
      simp only at x0 x1 hp9
      obtain ⟨P, Q, e0, hpr⟩ : ∃ P Q e0, prT s = (P, Q, e0) := ⟨_, _, _, rfl⟩
      have HP := Lib.hid hpr
      have KP := Lib.hid (fun (w' : World) (hb : Below w.heap.size w w') => part_any s w' hp9 (HT.out.below hb))
      rw [partV_pr, hpr] at KP
      unfold prV at KP
      simp only at KP
      have hws := hB.size
      have hB1 := hB.alloc hws (.cells #[strV s, strV t] 41)
      have i1 : (0 : Int) ≤ (k : Int) := by omega
      have i2 : (k : Int) < (n : Int) := by omega
      have HC := Lib.hid (fun (w' : World) (h : Below (wr.heap.size + 1) (wr.alloc (.cells #[strV s, strV t] 41)) w') => pr_block wr w' s t 41 _ rfl h)
      have HO1a := Lib.hid (HO1.out.alloc (.cells #[strV s, strV t] 41))
      have HO2a := Lib.hid (HO2.out.alloc (.cells #[strV s, strV t] 41))
      have KM := Lib.hid (fun (x y : List UInt8) (w : World) => may_any x y w)
      clear hp hd hpr
      by_cases h0 : e0 = 0
      · subst h0
        obtain ⟨b1, h1⟩ : ∃ b1, (s == nsB) = b1 := ⟨_, rfl⟩
        obtain ⟨b2, h2⟩ : ∃ b2, (P == nsB) = b2 := ⟨_, rfl⟩
        have E1 := Lib.hid h1
        have E2 := Lib.hid h2
        unfold nsB at h1 h2
        cases b1 with
        | true =>
          have hR1 := (bn_own (s, t) (l.drop (k + 1)) a b (by rw [HP.out]) E1.out).symm.trans HRUN.out
          (try rw [HP.out] at hR1)
          simp only at hR1
          cases hm : mayB [] t with
          | false =>
            rw [hm] at hR1
            have HR1 := Lib.hid hR1
            have HM := Lib.hid hm
            clear hR1 hm
            go_wp2_with fail
            refine (KP.out _ hB1).mono ?_
            rintro e w1 ⟨rfl, hb1⟩
            obtain ⟨y0, y1⟩ := HC.out w1 (hb1.mono (by simp))
            have hB2 := hB1.trans (hb1.mono hB1.size)
            have HO1b := Lib.hid (q_below HO1a.out hb1)
            have HO2b := Lib.hid (q_below HO2a.out hb1)
            have hsz := hB2.size
            clear hb1
            go_wp2_with fail
            refine (KM.out [] t w1).mono ?_
            rintro e w2 ⟨rfl, rfl⟩
            rw [HM.out]
            go_wp2_with fail
            go_ret3
            rw [← HR1.out]
            exact spPost_no hB2
          | true =>
            rw [hm] at hR1
            have HR1 := Lib.hid hR1
            have HM := Lib.hid hm
            clear hR1 hm
            go_wp2_with fail
            refine (KP.out _ hB1).mono ?_
            rintro e w1 ⟨rfl, hb1⟩
            obtain ⟨y0, y1⟩ := HC.out w1 (hb1.mono (by simp))
            have hB2 := hB1.trans (hb1.mono hB1.size)
            have HO1b := Lib.hid (q_below HO1a.out hb1)
            have HO2b := Lib.hid (q_below HO2a.out hb1)
            have hsz := hB2.size
            clear hb1
            go_wp2_with fail
            refine (KM.out [] t w1).mono ?_
            rintro e w2 ⟨rfl, rfl⟩
            rw [HM.out]
            go_wp2_with (first | (at_builtin; refine wpList_append_own _ rfl _ _ 82 rfl w.heap.size 80 j0 (.agg #[.string ⟨#[]⟩, .string ⟨#[]⟩]) 2 32 Tryd.underlying82 hj0 hy0 hy1 hy2 rfl (by decide) _ a.length (vQ a) rfl (HO1b.out.alloc _) ⟨w1.heap.size, 0, none⟩ 1 1 (vQ [([], t)]) rfl rfl (q_cells w1 (vQ [([], t)]) _) (vQ_one _) (by unfold maxLen; omega) (by omega) (by simp; omega) ?_; intro v' w4 hown4 hgrow4 _; rw [← vQ_append] at hown4; have HO4 := Lib.hid hown4; have HO5 := Lib.hid ((HO2b.out.alloc _).kept hgrow4 (two_apart HO2b.out HO1b.out (by decide))); have HB4 := Lib.hid ((hB2.alloc hB2.size _).grown hgrow4 (by simp; omega) (fun j hj => (HO1b.out.lt j hj).1)); clear hown4 hgrow4))
            go_roundw
            case rel => exact SpRel_mk (k + 1) (a ++ [([], t)]) b (by rw [HN.out]; omega) HR1.out (by rw [List.length_append]; simp; omega) (by rw [List.length_append]; exact HO4.out) HO5.out HB4.out
            case measure => simp [intOf]; omega
        | false =>
          cases b2 with
          | true =>
            have hR1 := (bn_pre (s, t) (l.drop (k + 1)) a b (by rw [HP.out]) E1.out (by rw [HP.out]; exact E2.out)).symm.trans HRUN.out
            (try rw [HP.out] at hR1)
            simp only at hR1
            cases hm : mayB Q t with
            | false =>
              rw [hm] at hR1
              have HR1 := Lib.hid hR1
              have HM := Lib.hid hm
              clear hR1 hm
              go_wp2_with fail
              refine (KP.out _ hB1).mono ?_
              rintro e w1 ⟨rfl, hb1⟩
              obtain ⟨y0, y1⟩ := HC.out w1 (hb1.mono (by simp))
              have hB2 := hB1.trans (hb1.mono hB1.size)
              have HO1b := Lib.hid (q_below HO1a.out hb1)
              have HO2b := Lib.hid (q_below HO2a.out hb1)
              have hsz := hB2.size
              clear hb1
              go_wp2_with fail
              refine (KM.out Q t w1).mono ?_
              rintro e w2 ⟨rfl, rfl⟩
              rw [HM.out]
              go_wp2_with fail
              go_ret3
              rw [← HR1.out]
              exact spPost_no hB2
            | true =>
              rw [hm] at hR1
              have HR1 := Lib.hid hR1
              have HM := Lib.hid hm
              clear hR1 hm
              go_wp2_with fail
              refine (KP.out _ hB1).mono ?_
              rintro e w1 ⟨rfl, hb1⟩
              obtain ⟨y0, y1⟩ := HC.out w1 (hb1.mono (by simp))
              have hB2 := hB1.trans (hb1.mono hB1.size)
              have HO1b := Lib.hid (q_below HO1a.out hb1)
              have HO2b := Lib.hid (q_below HO2a.out hb1)
              have hsz := hB2.size
              clear hb1
              go_wp2_with fail
              refine (KM.out Q t w1).mono ?_
              rintro e w2 ⟨rfl, rfl⟩
              rw [HM.out]
              go_wp2_with (first | (at_builtin; refine wpList_append_own _ rfl _ _ 82 rfl w.heap.size 80 j0 (.agg #[.string ⟨#[]⟩, .string ⟨#[]⟩]) 2 32 Tryd.underlying82 hj0 hy0 hy1 hy2 rfl (by decide) _ a.length (vQ a) rfl (HO1b.out.alloc _) ⟨w1.heap.size, 0, none⟩ 1 1 (vQ [(Q, t)]) rfl rfl (q_cells w1 (vQ [(Q, t)]) _) (vQ_one _) (by unfold maxLen; omega) (by omega) (by simp; omega) ?_; intro v' w4 hown4 hgrow4 _; rw [← vQ_append] at hown4; have HO4 := Lib.hid hown4; have HO5 := Lib.hid ((HO2b.out.alloc _).kept hgrow4 (two_apart HO2b.out HO1b.out (by decide))); have HB4 := Lib.hid ((hB2.alloc hB2.size _).grown hgrow4 (by simp; omega) (fun j hj => (HO1b.out.lt j hj).1)); clear hown4 hgrow4))
              go_roundw
              case rel => exact SpRel_mk (k + 1) (a ++ [(Q, t)]) b (by rw [HN.out]; omega) HR1.out (by rw [List.length_append]; simp; omega) (by rw [List.length_append]; exact HO4.out) HO5.out HB4.out
              case measure => simp [intOf]; omega
          | false =>
            have hR1 := (bn_rest (s, t) (l.drop (k + 1)) a b (by rw [HP.out]) E1.out (by rw [HP.out]; exact E2.out)).symm.trans HRUN.out
            have HR1 := Lib.hid hR1
            clear hR1
            go_wp2_with fail
            refine (KP.out _ hB1).mono ?_
            rintro e w1 ⟨rfl, hb1⟩
            obtain ⟨y0, y1⟩ := HC.out w1 (hb1.mono (by simp))
            have hB2 := hB1.trans (hb1.mono hB1.size)
            have HO1b := Lib.hid (q_below HO1a.out hb1)
            have HO2b := Lib.hid (q_below HO2a.out hb1)
            have hsz := hB2.size
            clear hb1
            go_wp2_with (first | (at_builtin; refine wpList_append_own _ rfl _ _ 22 rfl w.heap.size 41 i0 (.agg #[.string ⟨#[]⟩, .string ⟨#[]⟩]) 2 32 Tryd.underlying22 hi0 hz0 hz1 hz2 rfl (by decide) _ b.length (vQ b) rfl (HO2b.out.alloc _) ⟨w1.heap.size, 0, none⟩ 1 1 (vQ [(s, t)]) rfl rfl (q_cells w1 (vQ [(s, t)]) _) (vQ_one _) (by unfold maxLen; omega) (by omega) (by simp; omega) ?_; intro v' w4 hown4 hgrow4 _; rw [← vQ_append] at hown4; have HO4 := Lib.hid hown4; have HO5 := Lib.hid ((HO1b.out.alloc _).kept hgrow4 (two_apart HO1b.out HO2b.out (by decide))); have HB4 := Lib.hid ((hB2.alloc hB2.size _).grown hgrow4 (by simp; omega) (fun j hj => (HO2b.out.lt j hj).1)); clear hown4 hgrow4))
            go_roundw
            case rel => exact SpRel_mk (k + 1) a (b ++ [(s, t)]) (by rw [HN.out]; omega) HR1.out (by rw [List.length_append]; simp; omega) HO5.out (by rw [List.length_append]; exact HO4.out) HB4.out
            case measure => simp [intOf]; omega
      · have hR1 := (bn_err (s, t) (l.drop (k + 1)) a b (by rw [HP.out]) h0).symm.trans HRUN.out
        have HR1 := Lib.hid hR1
        have t0 : (e0 != 0) = true := by simpa using h0
        clear hR1 h0
        go_wp2_with fail
        refine (KP.out _ hB1).mono ?_
        rintro e w1 ⟨rfl, hb1⟩
        have hB2 := hB1.trans (hb1.mono hB1.size)
        clear hb1
        go_wp2_with fail
        go_ret3
        rw [← HR1.out]
        exact spPost_no hB2
    · obtain rfl : k = n := by omega
      have hR1 := HRUN.out
      rw [List.drop_of_length_le (by rw [HN.out]; exact Nat.le_refl _), bn_end] at hR1
      have HR1 := Lib.hid hR1
      clear hR1
      go_wp2_with fail
      go_ret3
      rw [← HR1.out]
      exact ⟨_, _, rfl, HO1.out, HO2.out, hB⟩
end Go.Proofs.YtdmfladcldkmeaaDoor
namespace Go.Proofs.YtdmfladcldkmeaaDoor
open Go.ChangeShapes Go.WideShapes Go.ChangeAt Go.RowKit
set_option linter.unusedVariables false
set_option maxRecDepth 100000

theorem byte_58 (l : List UInt8) (k : Nat) (h : k < (⟨l.toArray⟩ : ByteArray).size) (hk : k < l.length) : ((((⟨l.toArray⟩ : ByteArray)[k]'h).toNat : Int) == 58) = decide (l[k]? = some 58) := by
  have e : (⟨l.toArray⟩ : ByteArray)[k]'h = l[k] := rfl
  rw [e, List.getElem?_eq_getElem hk, Bool.eq_iff_iff]
  simp only [beq_iff_eq, decide_eq_true_eq, Option.some.injEq]
  constructor
  · intro h1
    exact UInt8.toNat_inj.1 (show l[k].toNat = (58 : UInt8).toNat by show l[k].toNat = 58; omega)
  · intro h1; rw [h1]; rfl
theorem ex_take (l : List UInt8) (i : Nat) : (⟨l.toArray⟩ : ByteArray).extract 0 i = ⟨(l.take i).toArray⟩ := by rw [str_extract]; simp
theorem ex_drop (l : List UInt8) (i : Nat) : (⟨l.toArray⟩ : ByteArray).extract i l.length = ⟨(l.drop i).toArray⟩ := by rw [str_extract, ← List.length_drop, List.take_length]
theorem whole_nil (p q : Int → Bool) : wholeB [] p q = false := rfl
theorem ret_parts {a b c d : ByteArray} {p : Int} (h1 : a = c) (h2 : b = d) : Ending.returned (.tuple #[.string a, .string b, .int .i64 p]) = .returned (.tuple #[.string c, .string d, .int .i64 p]) := by rw [h1, h2]

set_option maxHeartbeats 2000000 in
theorem rpart_any (l : List UInt8) (w : World) (hl : l.length ≤ 1000000) :
    Calls Tryd.prog 100 #[strV l] w fun e w' => e = .returned (partV l) ∧ Below w.heap.size w w' := by
  have H0 := risB_any l w false hl
  rw [show wholeB l (kindP false startN) (kindP false charN) = wholeB l startN charN from rfl] at H0
  cases hw : wholeB l startN charN with
  | false =>
    rw [partV_7 hw]
    rw [hw] at H0
    have H := Lib.hid H0
    clear hw H0
    go_enter Tryd.func100, Tryd.ntmps100
    go_wp2_with fail
    refine H.out.mono ?_
    rintro e w1 ⟨rfl, hb⟩
    go_wp2_with fail
    go_ret3
    exact ⟨rfl, hb⟩
  | true =>
    rw [hw] at H0
    have H := Lib.hid H0
    clear H0
    have HW := Lib.hid hw
    obtain ⟨v, hv⟩ : ∃ v, partV l = v := ⟨_, rfl⟩
    have HV := Lib.hid hv
    rw [hv]
    clear hw hv
    go_enter Tryd.func100, Tryd.ntmps100
    go_wp2_with fail
    refine H.out.mono ?_
    rintro e w1 ⟨rfl, hb1⟩
    go_wp2_with fail
    go_loop [5, 6, 7] (fun m a i => ∃ k : Nat, k ≤ l.length ∧ m = .int .i64 (cntC l k : Nat) ∧ a = .int .i64 (lastC l k : Nat) ∧ i = .int .i64 k) (fun m a i => l.length - (intOf i).toNat)
    case atStart => exact ⟨0, Nat.zero_le _, rfl, rfl, rfl⟩
    case round =>
      obtain ⟨k, hkn, rfl, rfl, rfl⟩ := hrel
      by_cases hlt : k < l.length
      · have hcl := cntC_le l k
        have hb58 := byte_58 l k (by exact hlt) hlt
        by_cases h58 : l[k]? = some 58
        · rw [decide_eq_true h58] at hb58
          go_wp2_with fail
          refine ⟨⟨k + 1, by omega, ?_, ?_, by go_num⟩, by simp [intOf]; omega⟩
          · rw [cntC, if_pos h58]; go_num
          · rw [lastC, if_pos h58]
        · rw [decide_eq_false h58] at hb58
          go_wp2_with fail
          refine ⟨⟨k + 1, by omega, ?_, ?_, by go_num⟩, by simp [intOf]; omega⟩
          · rw [cntC, if_neg h58]
          · rw [lastC, if_neg h58]
      · obtain rfl : k = l.length := by omega
        rcases colI_cases l with ⟨hc, hno⟩ | ⟨i, hc, hi, hno⟩
        · rw [cntC_none hno]
          have HE := Lib.hid (partV_one HW.out (by omega))
          clear hno hc
          go_wp2_with fail
          go_ret3
          exact ⟨by rw [← HV.out, HE.out]; rfl, hb1⟩
        · have hil : i < l.length := (List.getElem?_eq_some_iff.1 hi).1
          rcases cntC_first hi hno l.length hil with ⟨h1, h2⟩ | ⟨h1, j, h2, h3, h4⟩
          · rw [h1, h2]
            have HT := risB_any (l.take i) w1 true (by rw [List.length_take]; omega)
            have HD := fun w => risB_any (l.drop (i + 1)) w true (by rw [List.length_drop]; omega)
            rw [show strV (l.take i) = .string ((⟨l.toArray⟩ : ByteArray).extract 0 i) by rw [ex_take]] at HT
            rw [show strV (l.drop (i + 1)) = .string ((⟨l.toArray⟩ : ByteArray).extract (i + 1) l.length) by rw [ex_drop]] at HD
            rw [show kindP true startN = plainP startN from rfl, show kindP true charN = plainP charN from rfl] at HT HD
            by_cases h0 : i = 0
            · rw [show wholeB (l.take i) (plainP startN) (plainP charN) = false by rw [h0, List.take_zero, whole_nil]] at HT
              have HTT := Lib.hid HT
              have HE := Lib.hid (partV_9 HW.out hc (.inl h0))
              clear HT HD h1 h2 hi hno hc h0
              go_wp2_with fail
              refine HTT.out.mono ?_
              rintro e w2 ⟨rfl, hb2⟩
              go_wp2_with fail
              go_ret3
              exact ⟨by rw [← HV.out, HE.out]; rfl, hb1.trans (hb2.mono hb1.size)⟩
            · rw [whole_take HW.out hi hno h0] at HT
              have HTT := Lib.hid HT
              cases hp : wholeB (l.drop (i + 1)) (plainP startN) (plainP charN) with
              | false =>
                rw [hp] at HD
                have HDD := Lib.hid HD
                have HE := Lib.hid (partV_9 HW.out hc (.inr hp))
                clear HT HD h1 h2 hi hno hc hp
                go_wp2_with fail
                refine HTT.out.mono ?_
                rintro e w2 ⟨rfl, hb2⟩
                go_wp2_with fail
                refine (HDD.out w2).mono ?_
                rintro e w3 ⟨rfl, hb3⟩
                go_wp2_with fail
                go_ret3
                have hb12 := hb1.trans (hb2.mono hb1.size)
                exact ⟨by rw [← HV.out, HE.out]; rfl, hb12.trans (hb3.mono hb12.size)⟩
              | true =>
                rw [hp] at HD
                have HDD := Lib.hid HD
                have HE := Lib.hid (partV_two HW.out hc h0 hp)
                clear HT HD h1 h2 hi hno hc hp
                go_wp2_with fail
                refine HTT.out.mono ?_
                rintro e w2 ⟨rfl, hb2⟩
                go_wp2_with fail
                refine (HDD.out w2).mono ?_
                rintro e w3 ⟨rfl, hb3⟩
                go_wp2_with fail
                go_quiet (fail)
                go_wp2_with fail
                go_ret3
                have hb12 := hb1.trans (hb2.mono hb1.size)
                exact ⟨by rw [← HV.out, HE.out]; exact ret_parts (ex_take l i) (ex_drop l (i + 1)), below_drw (hb12.trans (hb3.mono hb12.size)) _⟩
          · have hcl := cntC_le l l.length
            have HE := Lib.hid (partV_9 HW.out hc (.inr (whole_not (p := startN) (q := charN) (j := j - (i + 1)) (by rw [List.getElem?_drop, show i + 1 + (j - (i + 1)) = j by omega]; exact h4))))
            obtain ⟨m, hm⟩ : ∃ m, cntC l l.length = m := ⟨_, rfl⟩
            obtain ⟨a, ha⟩ : ∃ a, lastC l l.length = a := ⟨_, rfl⟩
            rw [hm] at h1 hcl
            rw [hm, ha]
            clear hm ha h4 hi hno hc
            go_wp2_with fail
            go_ret3
            exact ⟨by rw [← HV.out, HE.out]; rfl, hb1⟩
end Go.Proofs.YtdmfladcldkmeaaDoor
namespace Go.Proofs.YtdmfladcldkmeaaDoor
open Go.ChangeShapes Go.WideShapes Go.ChangeAt Go.RowKit
set_option linter.unusedVariables false
set_option maxRecDepth 100000

/-- The two cells of a pair, at a known address. -/
theorem pair_at {w : World} {ad : Addr} {ps : Prs} (h : Sees w (some ad) (vQ ps)) {k : Nat} {s t : List UInt8} (hk : ps[k]? = some (s, t)) : w.cell? (ad.add (k * 2)) = some (.string ⟨s.toArray⟩) ∧ w.cell? ⟨(ad.add (k * 2)).block, (ad.add (k * 2)).off + 1, none⟩ = some (.string ⟨t.toArray⟩) := by
  obtain ⟨ad', e, h1, h2⟩ := h.pair hk
  injection e with e
  subst e
  exact ⟨h1, h2⟩
set_option maxHeartbeats 8000000 in
theorem rsplit_any (l : Prs) (A : Option Addr) (n c : Nat) (w : World) (hn : l.length = n) (hn9 : n ≤ 1000) (hs : Sees w A (vQ l)) (h9 : ∀ p ∈ l, p.1.length ≤ 1000000) :
    Calls Tryd.prog 54 #[.slice A n c] w (SpPost 147 (bnN l [] []) w) := by
  obtain ⟨R, hR⟩ : ∃ R, bnN l [] [] = R := ⟨_, rfl⟩
  rw [hR]
  obtain ⟨i0, hi0, hz0, hz1, hz2⟩ := info_parts pairInfo
  obtain ⟨j0, hj0, hy0, hy1, hy2⟩ := info_parts rbindInfo
  have HN := Lib.hid hn
  have HR := Lib.hid hR
  have HS := Lib.hid hs
  have H9 := Lib.hid h9
  clear hn hR hs h9
  go_enter Tryd.func54, Tryd.ntmps54
  go_wp2_with fail
  go_loopw [5, 6, 7] (fun v1 v2 i wr => SpRel 147 l R w i v1 v2 wr) (fun _ _ i _ => n - (intOf i).toNat)
  case atStart => exact SpRel_mk 0 [] [] (Nat.zero_le _) (by rw [List.drop_zero]; exact HR.out) (by simp) (World.ownsRow_nil _ _ _ _) (World.ownsRow_nil _ _ _ _) (Below.refl _ _)
  case round =>
    obtain ⟨k, a, b, rfl, hk, hrun, hlen, ho1, ho2, hB⟩ := hrel
    have HRUN := Lib.hid hrun
    have HO1 := Lib.hid ho1
    have HO2 := Lib.hid ho2
    rw [HN.out] at hk
    clear hrun ho1 ho2
    by_cases hlt : k < n
    · obtain ⟨p, hp⟩ : ∃ p, l[k]? = some p := ⟨_, List.getElem?_eq_getElem (by rw [HN.out]; exact hlt)⟩
      obtain ⟨ad, rfl, x0, x1⟩ := (HS.out.below hB).pair hp
      have hp9 := H9.out p (List.mem_of_getElem? hp)
      have hd := drop_at hp
      rw [hd] at HRUN
      obtain ⟨s, t⟩ := p
      simp only at x0 x1 hp9
      obtain ⟨P, Q, e0, hpr⟩ : ∃ P Q e0, prT s = (P, Q, e0) := ⟨_, _, _, rfl⟩
      have HP := Lib.hid hpr
      have KP := Lib.hid (fun (w' : World) (hb : Below w.heap.size w w') => rpart_any s w' hp9)
      rw [partV_pr, hpr] at KP
      unfold prV at KP
      simp only at KP
      have hws := hB.size
      have hB1 := hB
      have i1 : (0 : Int) ≤ (k : Int) := by omega
      have i2 : (k : Int) < (n : Int) := by omega
      have HC := Lib.hid (fun (w' : World) (h : Below wr.heap.size wr w') => pair_at (HS.out.below (hB.trans (h.mono hB.size))) hp)
      have HO1a := HO1
      have HO2a := HO2
      have KM := Lib.hid (fun (x y : List UInt8) (w : World) => rmay_any x y w)
      clear hp hd hpr
      by_cases h0 : e0 = 0
      · subst h0
        obtain ⟨b1, h1⟩ : ∃ b1, (s == nsB) = b1 := ⟨_, rfl⟩
        obtain ⟨b2, h2⟩ : ∃ b2, (P == nsB) = b2 := ⟨_, rfl⟩
        have E1 := Lib.hid h1
        have E2 := Lib.hid h2
        unfold nsB at h1 h2
        cases b1 with
        | true =>
          have hR1 := (bn_own (s, t) (l.drop (k + 1)) a b (by rw [HP.out]) E1.out).symm.trans HRUN.out
          (try rw [HP.out] at hR1)
          simp only at hR1
          cases hm : mayB [] t with
          | false =>
            rw [hm] at hR1
            have HR1 := Lib.hid hR1
            have HM := Lib.hid hm
            clear hR1 hm
            go_wp2_with fail
            refine (KP.out _ hB1).mono ?_
            rintro e w1 ⟨rfl, hb1⟩
            obtain ⟨y0, y1⟩ := HC.out w1 hb1
            have hB2 := hB1.trans (hb1.mono hB1.size)
            have HO1b := Lib.hid (q_below HO1a.out hb1)
            have HO2b := Lib.hid (q_below HO2a.out hb1)
            have hsz := hB2.size
            clear hb1
            go_wp2_with fail
            refine (KM.out [] t w1).mono ?_
            rintro e w2 ⟨rfl, rfl⟩
            rw [HM.out]
            go_wp2_with fail
            go_ret3
            rw [← HR1.out]
            exact spPost_no hB2
          | true =>
            rw [hm] at hR1
            have HR1 := Lib.hid hR1
            have HM := Lib.hid hm
            clear hR1 hm
            go_wp2_with fail
            refine (KP.out _ hB1).mono ?_
            rintro e w1 ⟨rfl, hb1⟩
            obtain ⟨y0, y1⟩ := HC.out w1 hb1
            have hB2 := hB1.trans (hb1.mono hB1.size)
            have HO1b := Lib.hid (q_below HO1a.out hb1)
            have HO2b := Lib.hid (q_below HO2a.out hb1)
            have hsz := hB2.size
            clear hb1
            go_wp2_with fail
            refine (KM.out [] t w1).mono ?_
            rintro e w2 ⟨rfl, rfl⟩
            rw [HM.out]
            go_wp2_with (first | (at_builtin; refine wpList_append_own _ rfl _ _ 86 rfl w.heap.size 147 j0 (.agg #[.string ⟨#[]⟩, .string ⟨#[]⟩]) 2 32 Tryd.underlying86 hj0 hy0 hy1 hy2 rfl (by decide) _ a.length (vQ a) rfl (HO1b.out.alloc _) ⟨w1.heap.size, 0, none⟩ 1 1 (vQ [([], t)]) rfl rfl (q_cells w1 (vQ [([], t)]) _) (vQ_one _) (by unfold maxLen; omega) (by omega) (by simp; omega) ?_; intro v' w4 hown4 hgrow4 _; rw [← vQ_append] at hown4; have HO4 := Lib.hid hown4; have HO5 := Lib.hid ((HO2b.out.alloc _).kept hgrow4 (two_apart HO2b.out HO1b.out (by decide))); have HB4 := Lib.hid ((hB2.alloc hB2.size _).grown hgrow4 (by simp; omega) (fun j hj => (HO1b.out.lt j hj).1)); clear hown4 hgrow4))
            go_roundw
            case rel => exact SpRel_mk (k + 1) (a ++ [([], t)]) b (by rw [HN.out]; omega) HR1.out (by rw [List.length_append]; simp; omega) (by rw [List.length_append]; exact HO4.out) HO5.out HB4.out
            case measure => simp [intOf]; omega
        | false =>
          cases b2 with
          | true =>
            have hR1 := (bn_pre (s, t) (l.drop (k + 1)) a b (by rw [HP.out]) E1.out (by rw [HP.out]; exact E2.out)).symm.trans HRUN.out
            (try rw [HP.out] at hR1)
            simp only at hR1
            cases hm : mayB Q t with
            | false =>
              rw [hm] at hR1
              have HR1 := Lib.hid hR1
              have HM := Lib.hid hm
              clear hR1 hm
              go_wp2_with fail
              refine (KP.out _ hB1).mono ?_
              rintro e w1 ⟨rfl, hb1⟩
              obtain ⟨y0, y1⟩ := HC.out w1 hb1
              have hB2 := hB1.trans (hb1.mono hB1.size)
              have HO1b := Lib.hid (q_below HO1a.out hb1)
              have HO2b := Lib.hid (q_below HO2a.out hb1)
              have hsz := hB2.size
              clear hb1
              go_wp2_with fail
              refine (KM.out Q t w1).mono ?_
              rintro e w2 ⟨rfl, rfl⟩
              rw [HM.out]
              go_wp2_with fail
              go_ret3
              rw [← HR1.out]
              exact spPost_no hB2
            | true =>
              rw [hm] at hR1
              have HR1 := Lib.hid hR1
              have HM := Lib.hid hm
              clear hR1 hm
              go_wp2_with fail
              refine (KP.out _ hB1).mono ?_
              rintro e w1 ⟨rfl, hb1⟩
              obtain ⟨y0, y1⟩ := HC.out w1 hb1
              have hB2 := hB1.trans (hb1.mono hB1.size)
              have HO1b := Lib.hid (q_below HO1a.out hb1)
              have HO2b := Lib.hid (q_below HO2a.out hb1)
              have hsz := hB2.size
              clear hb1
              go_wp2_with fail
              refine (KM.out Q t w1).mono ?_
              rintro e w2 ⟨rfl, rfl⟩
              rw [HM.out]
              go_wp2_with (first | (at_builtin; refine wpList_append_own _ rfl _ _ 86 rfl w.heap.size 147 j0 (.agg #[.string ⟨#[]⟩, .string ⟨#[]⟩]) 2 32 Tryd.underlying86 hj0 hy0 hy1 hy2 rfl (by decide) _ a.length (vQ a) rfl (HO1b.out.alloc _) ⟨w1.heap.size, 0, none⟩ 1 1 (vQ [(Q, t)]) rfl rfl (q_cells w1 (vQ [(Q, t)]) _) (vQ_one _) (by unfold maxLen; omega) (by omega) (by simp; omega) ?_; intro v' w4 hown4 hgrow4 _; rw [← vQ_append] at hown4; have HO4 := Lib.hid hown4; have HO5 := Lib.hid ((HO2b.out.alloc _).kept hgrow4 (two_apart HO2b.out HO1b.out (by decide))); have HB4 := Lib.hid ((hB2.alloc hB2.size _).grown hgrow4 (by simp; omega) (fun j hj => (HO1b.out.lt j hj).1)); clear hown4 hgrow4))
              go_roundw
              case rel => exact SpRel_mk (k + 1) (a ++ [(Q, t)]) b (by rw [HN.out]; omega) HR1.out (by rw [List.length_append]; simp; omega) (by rw [List.length_append]; exact HO4.out) HO5.out HB4.out
              case measure => simp [intOf]; omega
          | false =>
            have hR1 := (bn_rest (s, t) (l.drop (k + 1)) a b (by rw [HP.out]) E1.out (by rw [HP.out]; exact E2.out)).symm.trans HRUN.out
            have HR1 := Lib.hid hR1
            clear hR1
            go_wp2_with fail
            refine (KP.out _ hB1).mono ?_
            rintro e w1 ⟨rfl, hb1⟩
            obtain ⟨y0, y1⟩ := HC.out w1 hb1
            have hB2 := hB1.trans (hb1.mono hB1.size)
            have HO1b := Lib.hid (q_below HO1a.out hb1)
            have HO2b := Lib.hid (q_below HO2a.out hb1)
            have hsz := hB2.size
            clear hb1
            go_wp2_with (first | (at_builtin; refine wpList_append_own _ rfl _ _ 22 rfl w.heap.size 41 i0 (.agg #[.string ⟨#[]⟩, .string ⟨#[]⟩]) 2 32 Tryd.underlying22 hi0 hz0 hz1 hz2 rfl (by decide) _ b.length (vQ b) rfl (HO2b.out.alloc _) ⟨w1.heap.size, 0, none⟩ 1 1 (vQ [(s, t)]) rfl rfl (q_cells w1 (vQ [(s, t)]) _) (vQ_one _) (by unfold maxLen; omega) (by omega) (by simp; omega) ?_; intro v' w4 hown4 hgrow4 _; rw [← vQ_append] at hown4; have HO4 := Lib.hid hown4; have HO5 := Lib.hid ((HO1b.out.alloc _).kept hgrow4 (two_apart HO1b.out HO2b.out (by decide))); have HB4 := Lib.hid ((hB2.alloc hB2.size _).grown hgrow4 (by simp; omega) (fun j hj => (HO2b.out.lt j hj).1)); clear hown4 hgrow4))
            go_roundw
            case rel => exact SpRel_mk (k + 1) a (b ++ [(s, t)]) (by rw [HN.out]; omega) HR1.out (by rw [List.length_append]; simp; omega) HO5.out (by rw [List.length_append]; exact HO4.out) HB4.out
            case measure => simp [intOf]; omega
      · have hR1 := (bn_err (s, t) (l.drop (k + 1)) a b (by rw [HP.out]) h0).symm.trans HRUN.out
        have HR1 := Lib.hid hR1
        have t0 : (e0 != 0) = true := by simpa using h0
        clear hR1 h0
        go_wp2_with fail
        refine (KP.out _ hB1).mono ?_
        rintro e w1 ⟨rfl, hb1⟩
        have hB2 := hB1.trans (hb1.mono hB1.size)
        clear hb1
        go_wp2_with fail
        go_ret3
        rw [← HR1.out]
        exact spPost_no hB2
    · obtain rfl : k = n := by omega
      have hR1 := HRUN.out
      rw [List.drop_of_length_le (by rw [HN.out]; exact Nat.le_refl _), bn_end] at hR1
      have HR1 := Lib.hid hR1
      clear hR1
      go_wp2_with fail
      go_ret3
      rw [← HR1.out]
      exact ⟨_, _, rfl, HO1.out, HO2.out, hB⟩
end Go.Proofs.YtdmfladcldkmeaaDoor
namespace Go.Proofs.YtdmfladcldkmeaaDoor
open Go.ChangeShapes Go.WideShapes Go.ChangeAt Go.RowKit
set_option linter.unusedVariables false
set_option maxRecDepth 100000

def putN (p : List UInt8) : List UInt8 := if p == [] then nsB else nsC ++ p
theorem put_join (p : List UInt8) : (⟨#[120, 109, 108, 110, 115]⟩ : ByteArray) ++ ((⟨#[58]⟩ : ByteArray) ++ ⟨p.toArray⟩) = ⟨(nsC ++ p).toArray⟩ := by
  show (⟨([120, 109, 108, 110, 115] : List UInt8).toArray⟩ : ByteArray) ++ ((⟨([58] : List UInt8).toArray⟩ : ByteArray) ++ ⟨p.toArray⟩) = _
  rw [str_app, str_app]
  rfl
set_option maxHeartbeats 2000000 in
theorem bput_any (p s : List UInt8) (w : World) (h9 : p.length ≤ 1000000) : Calls Tryd.prog 48 #[.agg #[strV p, strV s]] w fun e w' => e = .returned (.agg #[strV (putN p), strV s]) ∧ Below w.heap.size w w' := by
  unfold putN
  have HJ := Lib.hid (put_join p)
  have HSZ := str_size p
  have B0 := ((Below.refl w.heap.size w).alloc (Nat.le_refl _) (.cells #[strV p, strV s] 80))
  cases hp : (p == []) with
  | true =>
    have hp2 : p = [] := by simpa using hp
    rw [if_pos rfl]
    subst hp2
    clear hp
    go_enter Tryd.func48, Tryd.ntmps48
    go_wp2_with fail
    refine bodyPost_ret (by simp [results, Tryd.results48, go_sem]; rfl) rfl ?_
    exact ⟨rfl, B0.alloc (by simp) _⟩
  | false =>
    rw [if_neg (by simp)]
    go_enter Tryd.func48, Tryd.ntmps48
    go_wp2_with fail
    refine bodyPost_ret (by simp [results, Tryd.results48, go_sem]; rfl) rfl ?_
    exact ⟨by rw [HJ.out], B0.alloc (by simp) _⟩
set_option maxHeartbeats 2000000 in
theorem same35_any (ps : Prs) (A B : Option Addr) (n c1 c2 : Nat) (w : World) (hn : ps.length = n) (hn9 : n ≤ 1000000) (h1 : Sees w A (vQ ps)) (h2 : Sees w B (vQ ps)) :
    Calls Tryd.prog 55 #[.slice A n c1, .slice B n c2] w fun e w' => e = .returned (.bool true) ∧ Below w.heap.size w w' := by
  have HC1 := Lib.hid h1
  have HC2 := Lib.hid h2
  have HN := Lib.hid hn
  clear h1 h2 hn
  go_enter Tryd.func55, Tryd.ntmps55
  go_wp2_with fail
  go_loopw [5] (fun i wr => ∃ k : Nat, k ≤ n ∧ i = .int .i64 k ∧ ∃ nq, wr = w.drewN nq) (fun i _ => n - (intOf i).toNat)
  case atStart => exact ⟨0, by omega, rfl, 0, rfl⟩
  case round =>
    obtain ⟨k, hk, rfl, nq, rfl⟩ := hrel
    by_cases hlt : k < n
    · obtain ⟨p, hp⟩ : ∃ p, ps[k]? = some p := ⟨_, List.getElem?_eq_getElem (by rw [HN.out]; exact hlt)⟩
      obtain ⟨a1, rfl, h1, h2⟩ := HC1.out.pair hp
      obtain ⟨a2, rfl, h3, h4⟩ := HC2.out.pair hp
      obtain ⟨x, y⟩ := p
      unfold strV at h1 h2 h3 h4
      simp only at h1 h2 h3 h4
      have i0 : (0 : Int) ≤ (k : Int) := by omega
      have i1 : (k : Int) < (n : Int) := by omega
      clear hp
      go_wp2_with fail
      go_quiet (fail)
      go_wp2_with fail
      go_roundw
      case rel => exact ⟨k + 1, by omega, by go_num, _, rfl⟩
      case measure => simp [intOf]; omega
    · go_wp2_with fail
      go_ret
      exact ⟨rfl, below_dr (Below.refl _ _) _⟩
def longP (p : List UInt8 × List UInt8) : Bool := decide (300 < p.1.length) || decide (300 < p.2.length)
def greatP (l : Prs) : Bool := (l.take 40).any longP || decide (20 < l.length)
theorem greatP_no {l : Prs} (h : greatP l = false) : l.length ≤ 20 ∧ ∀ p ∈ l, p.1.length ≤ 300 ∧ p.2.length ≤ 300 := by
  unfold greatP at h
  rw [Bool.or_eq_false_iff] at h
  have h1 : l.length ≤ 20 := by simpa using h.2
  refine ⟨h1, fun p hp => ?_⟩
  have h2 := h.1
  rw [List.take_of_length_le (by omega), List.any_eq_false] at h2
  have := h2 p hp
  unfold longP at this
  simp at this
  omega
theorem any_next {l : Prs} {k : Nat} {p : List UInt8 × List UInt8} (hp : l[k]? = some p) : (l.take (k + 1)).any longP = ((l.take k).any longP || longP p) := by
  rw [List.take_add_one, List.any_append, hp]; simp
theorem greatP_yes {l : Prs} {k : Nat} {p : List UInt8 × List UInt8} (hp : l[k]? = some p) (hk : k < 40) (h : longP p = true) : greatP l = true := by
  unfold greatP
  rw [Bool.or_eq_true, List.any_eq_true]
  refine .inl ⟨p, ?_, h⟩
  obtain ⟨h1, h2⟩ := List.getElem?_eq_some_iff.1 hp
  rw [List.mem_take_iff_getElem]
  exact ⟨k, by omega, h2⟩
theorem greatP_end {l : Prs} {k : Nat} (h : (l.take k).any longP = false) (hk : l.length ≤ k ∨ k = 40) : greatP l = decide (20 < l.length) := by
  unfold greatP
  have : (l.take 40).any longP = false := by
    rcases hk with hk | rfl
    · rw [List.take_of_length_le hk] at h
      rw [List.any_eq_false] at h ⊢
      exact fun x hx => h x (List.mem_of_mem_take hx)
    · exact h
  rw [this, Bool.false_or]
set_option maxHeartbeats 2000000 in
theorem great35_any (l : Prs) (A : Option Addr) (n c : Nat) (w : World) (hn : l.length = n) (hn9 : n ≤ 9223372036854775807) (hs : Sees w A (vQ l)) :
    Calls Tryd.prog 53 #[.slice A n c] w fun e w' => e = .returned (.bool (greatP l)) ∧ Below w.heap.size w w' := by
  have HN := Lib.hid hn
  have HS := Lib.hid hs
  clear hn hs
  go_enter Tryd.func53, Tryd.ntmps53
  go_wp2_with fail
  go_loopw [3] (fun i wr => ∃ k : Nat, k ≤ n ∧ k ≤ 40 ∧ i = .int .i64 k ∧ Hid ((l.take k).any longP = false) ∧ wr = w) (fun i _ => n - (intOf i).toNat)
  case atStart => exact ⟨0, Nat.zero_le _, by omega, rfl, Lib.hid (by simp), rfl⟩
  case round =>
    obtain ⟨k, hk, hk4, rfl, hno, rfl⟩ := hrel
    have i0 : (0 : Int) ≤ (k : Int) := by omega
    by_cases hlt : k < n ∧ k < 40
    · obtain ⟨hlt, hl4⟩ := hlt
      obtain ⟨p, hp⟩ : ∃ p, l[k]? = some p := ⟨_, List.getElem?_eq_getElem (by rw [HN.out]; exact hlt)⟩
      obtain ⟨a1, rfl, h1, h2⟩ := HS.out.pair hp
      have hnx := any_next hp
      have hys := fun h => greatP_yes hp hl4 h
      obtain ⟨x, y⟩ := p
      unfold strV at h1 h2
      simp only at h1 h2
      have i1 : (k : Int) < (n : Int) := by omega
      have i2 : (k : Int) < 40 := by omega
      rw [hno.out, Bool.false_or] at hnx
      have hlp : longP (x, y) = (decide (300 < x.length) || decide (300 < y.length)) := rfl
      rw [hlp] at hnx hys
      clear hlp
      have z1 := str_size x
      have z2 := str_size y
      clear hp
      by_cases b1 : 300 < x.length
      · have d1 : (300 : Int) < (x.length : Int) := by omega
        have HY := Lib.hid (hys (by simp [b1]))
        clear hnx hys
        go_wp2_with fail
        go_ret
        exact ⟨by rw [HY.out]; rfl, Below.refl _ _⟩
      · have d1 : ¬ (300 : Int) < (x.length : Int) := by omega
        by_cases b2 : 300 < y.length
        · have d2 : (300 : Int) < (y.length : Int) := by omega
          have HY := Lib.hid (hys (by simp [b2]))
          clear hnx hys
          go_wp2_with fail
          go_ret
          exact ⟨by rw [HY.out]; rfl, Below.refl _ _⟩
        · have d2 : ¬ (300 : Int) < (y.length : Int) := by omega
          have HX := Lib.hid (show (l.take (k + 1)).any longP = false by rw [hnx]; simp; omega)
          clear hnx hys
          go_wp2_with fail
          go_roundw
          case rel => exact ⟨k + 1, by omega, by omega, by go_num, HX, trivial⟩
          case measure => simp [intOf]; omega
    · have HE := Lib.hid (greatP_end hno.out (by rw [HN.out]; omega))
      have HE2 := Lib.hid (show greatP l = decide ((20 : Int) < (n : Int)) by rw [HE.out, HN.out]; exact decide_eq_decide.2 (by omega))
      by_cases h1 : k < n
      · have i1 : (k : Int) < (n : Int) := by omega
        have i2 : ¬ (k : Int) < 40 := by omega
        go_wp2_with fail
        go_ret
        exact ⟨by rw [HE2.out]; rfl, Below.refl _ _⟩
      · have i1 : ¬ (k : Int) < (n : Int) := by omega
        go_wp2_with fail
        go_ret
        exact ⟨by rw [HE2.out]; rfl, Below.refl _ _⟩
end Go.Proofs.YtdmfladcldkmeaaDoor
