/- Tags that begin an element: the pure part. Tags: what is written is read as itself (pure). Tags: what was read can be written (pure). Rows of pairs of texts, wherever they lie: their cells; two rows of the same attributes are the same. Tags written: the end of an element; tags that are too great; the document's Put. Tags written, by the document. Tags written, by the program: over what fault tells. -/
import Derived.Test.YtdmfladcldkmeaaDoorMdl
import Derived.Deep.QuietTactic
import Derived.BigQuiet
import Derived.Test.YtdmfladcldkmeaaDoorBld
import Derived.Test.YtdmfladcldkmeaaDoorPtab
namespace Go.Proofs.YtdmfladcldkmeaaDoor
open Go.ChangeShapes Go.WideShapes Go.ChangeAt Go.RowKit Go.Maps
set_option linter.unusedVariables false
set_option maxRecDepth 100000

theorem parsN_err (l : List UInt8) : ∀ f ps k, (parsN l f ps k).2.2 ≠ 0 → parsN l f ps k = ([], 0, (parsN l f ps k).2.2)
  | 0, ps, k, h => absurd rfl h
  | f + 1, ps, k, h => by
    rw [parsN] at h ⊢
    split
    · next h1 => rw [if_pos h1] at h; exact absurd rfl h
    · next h1 =>
      rw [if_neg h1] at h
      split
      · rfl
      · next h2 =>
        rw [if_neg h2] at h
        split
        · rfl
        · next h3 =>
          rw [if_neg h3] at h
          exact parsN_err l f _ _ h
theorem parsN_go (l : List UInt8) : ∀ f ps k, k ≤ l.length → (parsN l f ps k).2.2 = 0 → ∃ i : Nat, (parsN l f ps k).2.1 = i ∧ k ≤ i ∧ i ≤ l.length
  | 0, ps, k, hk, h => ⟨k, rfl, Nat.le_refl _, hk⟩
  | f + 1, ps, k, hk, h => by
    rw [parsN] at h ⊢
    split
    · exact ⟨k, rfl, Nat.le_refl _, hk⟩
    · next h1 =>
      rw [if_neg h1] at h
      split
      · next h2 => rw [if_pos h2] at h; exact absurd h h2
      · next h2 =>
        rw [if_neg h2] at h
        split
        · next h3 => rw [if_pos h3] at h; exact absurd h (by show (12 : Int) ≠ 0; omega)
        · next h3 =>
          rw [if_neg h3] at h
          have hb := blkN_le l l.length k hk
          obtain ⟨s, v, b, hp, h4, h5, _, _⟩ := pair_go hb.2 (by simpa using h2)
          rw [hp] at h ⊢
          simp only [Int.toNat_natCast] at h ⊢
          obtain ⟨i, h6, h7, h8⟩ := parsN_go l f _ b h5 h
          exact ⟨i, h6, by omega, h8⟩
theorem parsT_err (l : List UInt8) (k : Int) (h : (parsT l k).2.2 ≠ 0) : parsT l k = ([], 0, (parsT l k).2.2) := by
  unfold parsT at h ⊢
  split
  · rfl
  · next h1 => rw [if_neg h1] at h; exact parsN_err _ _ _ _ h
theorem parsT_go {l : List UInt8} {k : Nat} (hk : k ≤ l.length) (h : (parsT l (k : Int)).2.2 = 0) : ∃ (ps : Prs) (i : Nat), parsT l (k : Int) = (ps, (i : Int), 0) ∧ k ≤ i ∧ i ≤ l.length := by
  unfold parsT at h ⊢
  rw [if_neg (by omega), Int.toNat_natCast] at h ⊢
  obtain ⟨i, h1, h2, h3⟩ := parsN_go l (l.length + 1) [] k hk h
  refine ⟨(parsN l (l.length + 1) [] k).1, i, ?_, h2, h3⟩
  rw [← h1, ← h]
/-- A name, attributes, whether nothing is inside, the place behind, an error. -/
abbrev Tagg := List UInt8 × Prs × Bool × Int × Int
def noG (e : Int) : Tagg := ([], [], false, 0, e)
/-- A tag that begins an element, its name and its attributes read. -/
def tailT (l : List UInt8) (s : List UInt8) (ps : Prs) (q : Nat) : Tagg :=
  if atB l (q : Int) [47, 62] then (s, ps, true, (q : Int) + 2, 0) else if atB l (q : Int) [62] then (s, ps, false, (q : Int) + 1, 0) else noG 7
def openT (l : List UInt8) (k : Int) : Tagg :=
  if (begT l k [60]).2.2 ≠ 0 then noG (begT l k [60]).2.2
  else if (parsT l (begT l k [60]).2.1).2.2 ≠ 0 then noG (parsT l (begT l k [60]).2.1).2.2
  else tailT l (begT l k [60]).1 (parsT l (begT l k [60]).2.1).1 (blkN l l.length (parsT l (begT l k [60]).2.1).2.1.toNat)
/-- What Open tells. -/
def OpenPost (x : Tagg) (W : World) (e : Ending) (w' : World) : Prop :=
  ∃ v, e = .returned (.tuple #[.agg #[strV x.1, v, .bool x.2.2.1], .int .i64 x.2.2.2.1, .int .i64 x.2.2.2.2]) ∧ w'.ownsRow W.heap.size 41 2 v x.2.1.length (vQ x.2.1) ∧ Below W.heap.size W w'
theorem row_slice {w : World} {base : Nat} {e : TypeId} {size n : Nat} {v : Value} {xs : List Value} (h : w.ownsRow base e size v n xs) : ∃ A c, v = .slice A n c := by
  rcases h.2 with ⟨h1, h2⟩ | ⟨g, cap, _, h1, _⟩
  · exact ⟨none, 0, by rw [h1, h2]⟩
  · exact ⟨_, _, h1⟩
theorem three_cells {W : World} {b : Nat} {s0 s1 s2 : Value} (v0 v1 v2 : Value) (x0 : W.cell? ⟨b, 0, none⟩ = some s0) (x1 : W.cell? ⟨b, 1, none⟩ = some s1) (x2 : W.cell? ⟨b, 2, none⟩ = some s2) :
    (((W.setCell ⟨b, 0, none⟩ v0).setCell ⟨b, 1, none⟩ v1).setCell ⟨b, 2, none⟩ v2).cell? ⟨b, 0, none⟩ = some v0 ∧ (((W.setCell ⟨b, 0, none⟩ v0).setCell ⟨b, 1, none⟩ v1).setCell ⟨b, 2, none⟩ v2).cell? ⟨b, 1, none⟩ = some v1 ∧
    (((W.setCell ⟨b, 0, none⟩ v0).setCell ⟨b, 1, none⟩ v1).setCell ⟨b, 2, none⟩ v2).cell? ⟨b, 2, none⟩ = some v2 := by
  obtain ⟨c0, c1⟩ := two_cells v0 v1 x0 x1
  have x2' : ((W.setCell ⟨b, 0, none⟩ v0).setCell ⟨b, 1, none⟩ v1).cell? ⟨b, 2, none⟩ = some s2 := by
    rw [World.cell?_setCell_other (h := by simp), World.cell?_setCell_other (h := by simp)]; exact x2
  refine ⟨?_, ?_, World.cell?_setCell_same' _ ⟨b, 2, none⟩ v2 (by rw [x2']; rfl)⟩
  · rw [World.cell?_setCell_other (h := by simp)]; exact c0
  · rw [World.cell?_setCell_other (h := by simp)]; exact c1
end Go.Proofs.YtdmfladcldkmeaaDoor
namespace Go.Proofs.YtdmfladcldkmeaaDoor
open Go.ChangeShapes Go.WideShapes Go.ChangeAt Go.RowKit
set_option linter.unusedVariables false
set_option maxRecDepth 100000

/-- No name has it, and none begins so. -/
theorem no_name : ∀ b : Nat, b = 32 ∨ b = 47 ∨ b = 62 ∨ b = 61 ∨ b = 9 ∨ b = 10 ∨ b = 13 → startN (b : Int) = false ∧ charN (b : Int) = false := by
  rintro b (rfl | rfl | rfl | rfl | rfl | rfl | rfl) <;> exact ⟨by decide, by decide⟩
theorem first_no {s : List UInt8} (h : wholeB s startN charN = true) {b : Nat} (hb : b = 32 ∨ b = 47 ∨ b = 62 ∨ b = 61 ∨ b = 9 ∨ b = 10 ∨ b = 13) : byteAt s 0 ≠ b := by
  intro e
  have := whole_byte h e (by omega)
  rw [(no_name b hb).1] at this
  cases this
/-- A name within a text. -/
theorem nm_mid (A T B : List UInt8) (hw : wholeB T startN charN = true) (h9 : T.length ≤ 1024) {b : Nat} (hb : byteAt B 0 = b) (h : b = 32 ∨ b = 47 ∨ b = 62 ∨ b = 61) : nmT (A ++ T ++ B) (A.length : Nat) = (T, ((A.length + T.length : Nat) : Int), 0) := by
  obtain ⟨hne, hend⟩ := whole_iff.1 hw
  have hst := no_name b (by omega)
  have hch : chrAt (A ++ T ++ B) (A.length + T.length) = ((b : Int), 1) := xch_asc (by rw [← hb]; exact xbt_end A T B 0) (by omega)
  have hz := xen_mid A T B (by rw [hch]; exact hst.2) T.length (A ++ T ++ B).length startN 0 (by rw [hch]; exact hst.1) (Nat.zero_le _) hend (by omega)
  have h0 := List.length_pos_iff.2 hne
  rw [Nat.add_zero] at hz
  unfold nmT
  rw [if_neg (by simp; omega), Int.toNat_natCast, hz, if_neg (by omega), if_neg (by omega), Nat.add_sub_cancel_left, List.append_assoc, List.drop_left, List.take_left]
/-- No blank stands there. -/
theorem blk_stay {l : List UInt8} {k : Nat} (h : blankB (byteAt l k) = false) : blkN l l.length k = k := blkN_out _ _ (.inr h)
theorem blk_one {l : List UInt8} {k : Nat} (hk : k < l.length) (h : byteAt l k = 32) (h1 : blankB (byteAt l (k + 1)) = false) : blkN l l.length k = k + 1 := by
  obtain ⟨f, hf⟩ : ∃ f, l.length = f + 1 := ⟨l.length - 1, by omega⟩
  rw [hf, blkN_on f k hk (by rw [h]; decide)]
  exact blkN_out _ _ (.inr h1)
theorem no_blank {b : Nat} (h : ¬ (b = 32 ∨ b = 9 ∨ b = 13 ∨ b = 10)) : blankB (b : Int) = false := by
  cases hb : blankB (b : Int) with
  | false => rfl
  | true => exact absurd ((blankB_iff _).1 hb) (by omega)
/-- A text between quotes within a text. -/
theorem ix_mid {v B : List UInt8} (h : Lib.indexByte v 34 < 0) : Lib.indexByte (v ++ 34 :: B) 34 = v.length := by
  have hn : ∀ k : Nat, v[k]? ≠ some 34 := by
    rcases index_cases v 34 with ⟨_, h2⟩ | ⟨i, h2, _⟩
    · exact h2
    · omega
  rcases index_cases (v ++ 34 :: B) 34 with ⟨_, h2⟩ | ⟨i, h2, h3, h4, h5⟩
  · exact absurd (by simp) (h2 v.length)
  · rw [h2]
    rcases Nat.lt_or_ge i v.length with h6 | h6
    · rw [List.getElem?_append_left h6] at h4; exact absurd h4 (hn i)
    · rcases Nat.lt_or_ge v.length i with h7 | h7
      · exact absurd (by simp) (h5 v.length h7)
      · omega
def okV (v : List UInt8) : Prop := Lib.indexByte v 60 < 0 ∧ Lib.indexByte v 34 < 0 ∧ refsE v = 0
theorem str_mid (A v B : List UInt8) (h : okV v) : strT 60 (A ++ (34 :: v ++ 34 :: B)) (A.length : Nat) = (v, ((A.length + 1 + v.length + 1 : Nat) : Int), 0) := by
  obtain ⟨h1, h2, h3⟩ := h
  have e0 : byteAt (A ++ (34 :: v ++ 34 :: B)) A.length = 34 := by
    unfold byteAt; rw [List.getElem?_append_right (Nat.le_refl _)]; simp
  have e1 : (A ++ (34 :: v ++ 34 :: B)).drop (A.length + 1) = v ++ 34 :: B := by
    rw [← List.drop_drop, List.drop_left]; rfl
  have hq := quoT_ok (l := A ++ (34 :: v ++ 34 :: B)) (k := A.length) (b := 34) (i := v.length) (by simp) e0 (.inl rfl) (by rw [e1]; exact ix_mid h2)
  rw [e1, List.take_left] at hq
  unfold strT chkT
  rw [hq]
  have hc : chk [withoutE 60, refsE] v = 0 := by
    have hw : withoutE 60 v = 0 := by unfold withoutE; rw [show UInt8.ofNat 60 = 60 from rfl, if_neg (by omega)]
    simp [chk, hw, h3]
  simp only
  rw [if_neg (by simp), if_neg (by rw [hc]; simp)]
/-- An attribute as it is written. -/
def prB (p : List UInt8 × List UInt8) : List UInt8 := 32 :: (p.1 ++ (61 :: (34 :: p.2 ++ [34])))
def prsB (ps : Prs) : List UInt8 := ps.flatMap prB
theorem prsB_cons (p : List UInt8 × List UInt8) (ps : Prs) : prsB (p :: ps) = prB p ++ prsB ps := rfl
theorem prB_len (p : List UInt8 × List UInt8) : (prB p).length = p.1.length + p.2.length + 4 := by unfold prB; simp; omega
def okN (s : List UInt8) : Prop := wholeB s startN charN = true ∧ s.length ≤ 1024
theorem pair_mid (A B : List UInt8) (p : List UInt8 × List UInt8) (hN : okN p.1) (hV : okV p.2) : pairT (A ++ (prB p ++ B)) ((A.length + 1 : Nat) : Int) = (p.1, p.2, ((A.length + (prB p).length : Nat) : Int), 0) := by
  have hL1 : A ++ (prB p ++ B) = (A ++ [32]) ++ p.1 ++ (61 :: (34 :: p.2 ++ 34 :: B)) := by unfold prB; simp
  have hL2 : A ++ (prB p ++ B) = (A ++ [32] ++ p.1 ++ [61]) ++ (34 :: p.2 ++ 34 :: B) := by unfold prB; simp
  have hn : nmT (A ++ (prB p ++ B)) ((A.length + 1 : Nat) : Int) = (p.1, ((A.length + 1 + p.1.length : Nat) : Int), 0) := by
    rw [hL1, show A.length + 1 = (A ++ [32]).length by simp]
    exact nm_mid (A ++ [32]) p.1 _ hN.1 hN.2 (b := 61) rfl (by omega)
  have b1 : byteAt (A ++ (prB p ++ B)) (A.length + 1 + p.1.length) = 61 := by
    rw [hL1, show A.length + 1 + p.1.length = (A ++ [32]).length + p.1.length + 0 by simp, xbt_end]; rfl
  have b2 : byteAt (A ++ (prB p ++ B)) (A.length + 1 + p.1.length + 1) = 34 := by
    rw [hL1, show A.length + 1 + p.1.length + 1 = (A ++ [32]).length + p.1.length + 1 by simp, xbt_end]; rfl
  have hlen : (A ++ (prB p ++ B)).length = A.length + (p.1.length + p.2.length + 4) + B.length := by rw [List.length_append, List.length_append, prB_len]; omega
  have hs : strT 60 (A ++ (prB p ++ B)) ((A.length + 1 + p.1.length + 1 : Nat) : Int) = (p.2, ((A.length + (prB p).length : Nat) : Int), 0) := by
    rw [hL2, show A.length + 1 + p.1.length + 1 = (A ++ [32] ++ p.1 ++ [61]).length by simp; omega, str_mid _ _ _ hV, prB_len]
    congr 2
    simp; omega
  unfold pairT
  rw [hn]
  simp only [Int.toNat_natCast]
  rw [if_neg (by simp), blk_stay (k := A.length + 1 + p.1.length) (by rw [b1]; decide), if_neg (by rw [b1]; omega), blk_stay (k := A.length + 1 + p.1.length + 1) (by rw [b2]; decide), hs, if_neg (by simp)]
theorem parsN_mid (B : List UInt8) (hB : byteAt B 0 = 47 ∨ byteAt B 0 = 62) : ∀ (ps : Prs) (f : Nat) (acc : Prs) (A : List UInt8), ps.length ≤ f → (∀ p ∈ ps, okN p.1 ∧ okV p.2) → (∀ i p, ps[i]? = some p → hasN (acc ++ ps.take i) p.1 = false) →
    parsN (A ++ (prsB ps ++ B)) f acc A.length = (acc ++ ps, ((A.length + (prsB ps).length : Nat) : Int), 0)
  | [], f, acc, A, _, _, _ => by
    have hb : byteAt (A ++ (prsB [] ++ B)) A.length = byteAt B 0 := by
      unfold byteAt prsB; rw [List.getElem?_append_right (Nat.le_refl _)]; simp
    rw [pars_stop f (q := A.length) (blk_stay (by rw [hb]; exact no_blank (by omega))) (by left; rfl)]
    simp [prsB]
  | p :: ps, f, acc, A, hf, hok, hd => by
    obtain ⟨f, rfl⟩ : ∃ f', f = f' + 1 := ⟨f - 1, by simp at hf; omega⟩
    obtain ⟨hN, hV⟩ := hok p (by simp)
    have hL : A ++ (prsB (p :: ps) ++ B) = A ++ (prB p ++ (prsB ps ++ B)) := by rw [prsB_cons, List.append_assoc]
    have hp := pair_mid A (prsB ps ++ B) p hN hV
    rw [hL]
    have b0 : byteAt (A ++ (prB p ++ (prsB ps ++ B))) A.length = 32 := by
      unfold byteAt prB; rw [List.getElem?_append_right (Nat.le_refl _)]; simp
    have h0 := (whole_first hN.1).1
    have b1 : byteAt (A ++ (prB p ++ (prsB ps ++ B))) (A.length + 1) = byteAt p.1 0 := by
      have e : A ++ (prB p ++ (prsB ps ++ B)) = (A ++ [32]) ++ p.1 ++ (61 :: (34 :: p.2 ++ 34 :: (prsB ps ++ B))) := by unfold prB; simp
      rw [e, show A.length + 1 = (A ++ [32]).length + 0 by simp, xbt_mid _ _ _ h0]
    have hlen : (A ++ (prB p ++ (prsB ps ++ B))).length = A.length + (p.1.length + p.2.length + 4) + (prsB ps ++ B).length := by rw [List.length_append, List.length_append, prB_len]; omega
    have n32 := first_no hN.1 (b := 32) (by omega)
    have n9 := first_no hN.1 (b := 9) (by omega)
    have n10 := first_no hN.1 (b := 10) (by omega)
    have n13 := first_no hN.1 (b := 13) (by omega)
    have n47 := first_no hN.1 (b := 47) (by omega)
    have n62 := first_no hN.1 (b := 62) (by omega)
    have hq := blk_one (l := A ++ (prB p ++ (prsB ps ++ B))) (k := A.length) (by omega) b0 (by rw [b1]; exact no_blank (by omega))
    rw [pars_on f hq (by rw [b1]; omega) hp (by have := hd 0 p rfl; simpa using this)]
    have e2 : A ++ (prB p ++ (prsB ps ++ B)) = (A ++ prB p) ++ (prsB ps ++ B) := by simp
    rw [e2, show A.length + (prB p).length = (A ++ prB p).length by simp]
    rw [parsN_mid B hB ps f (acc ++ [(p.1, p.2)]) (A ++ prB p) (by simp at hf; omega) (fun x hx => hok x (by simp [hx])) (fun i x hx => by
      have := hd (i + 1) x (by simpa using hx)
      simpa using this)]
    rw [prsB_cons]
    simp
    omega
/-- A tag as it is written. -/
def tailB (e : Bool) : List UInt8 := if e then [47, 62] else [62]
def tagB (s : List UInt8) (ps : Prs) (e : Bool) : List UInt8 := 60 :: s ++ (prsB ps ++ tailB e)
def okTag (s : List UInt8) (ps : Prs) : Prop := okN s ∧ (∀ p ∈ ps, okN p.1 ∧ okV p.2) ∧ ∀ i p, ps[i]? = some p → hasN (ps.take i) p.1 = false
theorem prsB_first (ps : Prs) (e : Bool) : byteAt (prsB ps ++ tailB e) 0 = 32 ∨ byteAt (prsB ps ++ tailB e) 0 = 47 ∨ byteAt (prsB ps ++ tailB e) 0 = 62 := by
  cases ps with
  | nil => cases e <;> decide
  | cons p ps => left; rw [prsB_cons]; rfl
theorem prsB_len (ps : Prs) : ps.length ≤ (prsB ps).length := by
  induction ps with
  | nil => simp
  | cons p ps ih => rw [prsB_cons, List.length_append, prB_len, List.length_cons]; omega
theorem open_tag (s : List UInt8) (ps : Prs) (e : Bool) (h : okTag s ps) : openT (tagB s ps e) 0 = (s, ps, e, ((tagB s ps e).length : Int), 0) := by
  obtain ⟨hN, hp, hd⟩ := h
  have hL : tagB s ps e = [60] ++ s ++ (prsB ps ++ tailB e) := rfl
  have hL2 : tagB s ps e = (60 :: s) ++ (prsB ps ++ tailB e) := rfl
  have hlen : (tagB s ps e).length = 1 + s.length + (prsB ps).length + (tailB e).length := by rw [hL2]; simp; omega
  have ht := prsB_len ps
  have hn : nmT (tagB s ps e) (1 : Nat) = (s, ((1 + s.length : Nat) : Int), 0) := by
    rw [hL]
    have hf := prsB_first ps e
    exact nm_mid [60] s _ hN.1 hN.2 rfl (by omega)
  have hb : begT (tagB s ps e) 0 [60] = (s, ((1 + s.length : Nat) : Int), 0) := by
    unfold begT
    rw [if_neg (by omega), if_neg (by unfold atB tagB; simp)]
    exact hn
  have hps : parsT (tagB s ps e) ((1 + s.length : Nat) : Int) = (ps, ((1 + s.length + (prsB ps).length : Nat) : Int), 0) := by
    unfold parsT
    rw [if_neg (by omega), Int.toNat_natCast, hL2, show 1 + s.length = (60 :: s).length by simp; omega]
    rw [parsN_mid (tailB e) (by cases e <;> decide) ps _ [] (60 :: s) (by simp; omega) hp (by simpa using hd)]
    simp
  unfold openT
  rw [hb]
  simp only
  rw [if_neg (by simp), hps]
  simp only
  rw [if_neg (by simp), Int.toNat_natCast]
  have hdr : (tagB s ps e).drop (1 + s.length + (prsB ps).length) = tailB e := by
    rw [show tagB s ps e = (60 :: s ++ prsB ps) ++ tailB e by unfold tagB; simp, show 1 + s.length + (prsB ps).length = (60 :: s ++ prsB ps).length by simp; omega, List.drop_left]
  have hbt : byteAt (tagB s ps e) (1 + s.length + (prsB ps).length) = byteAt (tailB e) 0 := by rw [← hdr, xbt_drop]; rfl
  rw [blk_stay (by rw [hbt]; cases e <;> decide)]
  unfold tailT atB
  simp only [Int.toNat_natCast, hdr, hlen]
  cases e
  · rw [if_neg (by simp [tailB]), if_pos (by simp [tailB]; omega)]
    simp [tailB] <;> omega
  · rw [if_pos (by simp [tailB]; omega)]
    simp [tailB] <;> omega
def endB (s : List UInt8) : List UInt8 := [60, 47] ++ s ++ [62]
theorem close_end (s : List UInt8) (h : okN s) : closeT (endB s) 0 = (s, ((endB s).length : Int), 0) := by
  have hn : nmT (endB s) (2 : Nat) = (s, ((2 + s.length : Nat) : Int), 0) := nm_mid [60, 47] s [62] h.1 h.2 rfl (by decide)
  have hlen : (endB s).length = 2 + s.length + 1 := by unfold endB; simp; omega
  have hb : begT (endB s) 0 [60, 47] = (s, ((2 + s.length : Nat) : Int), 0) := by
    unfold begT
    rw [if_neg (by omega), if_neg (by unfold atB endB; simp)]
    exact hn
  have hbt : byteAt (endB s) (2 + s.length) = 62 := by
    rw [show 2 + s.length = ([60, 47] : List UInt8).length + s.length + 0 by simp]; unfold endB; rw [xbt_end]; rfl
  unfold closeT
  rw [hb]
  simp only [Int.toNat_natCast]
  rw [if_neg (by simp), blk_stay (by rw [hbt]; decide), if_neg (by rw [hbt]; omega), hlen]
end Go.Proofs.YtdmfladcldkmeaaDoor
namespace Go.Proofs.YtdmfladcldkmeaaDoor
open Go.ChangeShapes Go.WideShapes Go.ChangeAt Go.RowKit
set_option linter.unusedVariables false
set_option maxRecDepth 100000

def okR (v : List UInt8) : Prop := Lib.indexByte v 60 < 0 ∧ refsE v = 0
def distN (ps : Prs) : Prop := ∀ i p, ps[i]? = some p → hasN (ps.take i) p.1 = false
theorem nm_ok {l : List UInt8} {k : Nat} (hk : k ≤ l.length) (h : (nmT l (k : Int)).2.2 = 0) : okN (nmT l (k : Int)).1 := by
  have hz := endN_le l charN l.length startN k hk
  unfold nmT at h ⊢
  rw [if_neg (by omega), Int.toNat_natCast] at h ⊢
  split
  · next h2 => rw [if_pos h2] at h; exact absurd h (by show (7 : Int) ≠ 0; omega)
  · next h2 =>
    rw [if_neg h2] at h
    split
    · next h3 => rw [if_pos h3] at h; exact absurd h (by show (11 : Int) ≠ 0; omega)
    · next h3 => exact ⟨whole_cut rfl (by omega) hz.2, by rw [List.length_take]; omega⟩
theorem str_ok {l : List UInt8} {j : Int} (h : (strT 60 l j).2.2 = 0) : okR (strT 60 l j).1 := by
  unfold strT chkT at h ⊢
  split
  · next h1 => rw [if_pos h1] at h; exact absurd h h1
  · next h1 =>
    rw [if_neg h1] at h
    split
    · next h2 => rw [if_pos h2] at h; exact absurd h h2
    · next h2 =>
      have hc : chk [withoutE 60, refsE] (quoT l j).1 = 0 := by simpa using h2
      unfold chk at hc
      split at hc
      · next h3 => exact absurd hc h3
      · next h3 =>
        unfold chk at hc
        split at hc
        · next h4 => exact absurd hc h4
        · next h4 =>
          refine ⟨?_, by simpa using h4⟩
          rcases Int.lt_or_le (Lib.indexByte (quoT l j).1 60) 0 with h5 | h5
          · exact h5
          · exact absurd (by unfold withoutE; rw [show UInt8.ofNat 60 = 60 from rfl, if_pos h5]; omega) h3
theorem pair_ok {l : List UInt8} {k : Nat} (hk : k ≤ l.length) (h : (pairT l (k : Int)).2.2.2 = 0) : okN (pairT l (k : Int)).1 ∧ okR (pairT l (k : Int)).2.1 := by
  unfold pairT at h ⊢
  split
  · next h1 => rw [if_pos h1] at h; exact absurd h h1
  · next h1 =>
    rw [if_neg h1] at h
    split
    · next h2 => rw [if_pos h2] at h; exact absurd h (by show (7 : Int) ≠ 0; omega)
    · next h2 =>
      rw [if_neg h2] at h
      split
      · next h3 => rw [if_pos h3] at h; exact absurd h h3
      · next h3 => exact ⟨nm_ok hk (by simpa using h1), str_ok (by simpa using h3)⟩
theorem dist_snoc {ps : Prs} {p : List UInt8 × List UInt8} (h : distN ps) (hp : hasN ps p.1 = false) : distN (ps ++ [p]) := by
  intro i q hq
  rcases Nat.lt_or_ge i ps.length with h1 | h1
  · rw [List.getElem?_append_left h1] at hq
    rw [List.take_append_of_le_length (by omega)]
    exact h i q hq
  · rw [List.getElem?_append_right h1] at hq
    have h2 : i - ps.length = 0 := by
      rcases Nat.eq_zero_or_pos (i - ps.length) with h2 | h2
      · exact h2
      · rw [List.getElem?_eq_none (by simp; omega)] at hq; cases hq
    rw [h2] at hq
    obtain rfl : p = q := by simpa using hq
    rw [show i = ps.length by omega, List.take_left]
    exact hp
theorem pars_ok (l : List UInt8) : ∀ f acc k, k ≤ l.length → (∀ p ∈ acc, okN p.1 ∧ okR p.2) → distN acc → (parsN l f acc k).2.2 = 0 → (∀ p ∈ (parsN l f acc k).1, okN p.1 ∧ okR p.2) ∧ distN (parsN l f acc k).1
  | 0, acc, k, _, ha, hd, _ => ⟨ha, hd⟩
  | f + 1, acc, k, hk, ha, hd, h => by
    rw [parsN] at h ⊢
    split
    · exact ⟨ha, hd⟩
    · next h1 =>
      rw [if_neg h1] at h
      split
      · next h2 => rw [if_pos h2] at h; exact absurd h h2
      · next h2 =>
        rw [if_neg h2] at h
        split
        · next h3 => rw [if_pos h3] at h; exact absurd h (by show (12 : Int) ≠ 0; omega)
        · next h3 =>
          rw [if_neg h3] at h
          have hb := blkN_le l l.length k hk
          have hp := pair_ok hb.2 (by simpa using h2)
          obtain ⟨s, v, b, he, _, h5, _, _⟩ := pair_go hb.2 (by simpa using h2)
          refine pars_ok l f _ _ (by rw [he]; simpa using h5) (fun q hq => ?_) (dist_snoc hd (by simpa using h3)) h
          rcases List.mem_append.1 hq with hq | hq
          · exact ha q hq
          · obtain rfl : q = _ := by simpa using hq
            exact hp
theorem open_ok {l : List UInt8} (h : (openT l 0).2.2.2.2 = 0) (hq : ∀ p ∈ (openT l 0).2.1, Lib.indexByte p.2 34 < 0) : okTag (openT l 0).1 (openT l 0).2.1 := by
  unfold openT at h hq ⊢
  split
  · next h1 => rw [if_pos h1] at h; exact absurd h h1
  · next h1 =>
    rw [if_neg h1] at h hq
    have hb : (begT l 0 [60]).2.2 = 0 := by simpa using h1
    have hn : begT l 0 [60] = nmT l (1 : Nat) ∧ 1 ≤ l.length := by
      unfold begT at hb ⊢
      split
      · next h2 => rw [if_pos h2] at hb; exact absurd hb (by show (3 : Int) ≠ 0; omega)
      · next h2 =>
        rw [if_neg h2] at hb
        split
        · next h3 => rw [if_pos h3] at hb; exact absurd hb (by show (7 : Int) ≠ 0; omega)
        · next h3 =>
          have := atB_fit (l := l) (m := [60]) (k := 0) (by simpa using h3) (by simp)
          exact ⟨rfl, by simpa using this⟩
    obtain ⟨z, hz, h4, h5, h6⟩ := nmT_go hn.2 (by rw [← hn.1]; exact hb)
    have hs := nm_ok hn.2 (by rw [← hn.1]; exact hb)
    rw [← hn.1] at hz hs
    split
    · next h2 => rw [if_pos h2] at h; exact absurd h h2
    · next h2 =>
      rw [if_neg h2] at h hq
      have hp : (∀ p ∈ (parsT l (begT l 0 [60]).2.1).1, okN p.1 ∧ okR p.2) ∧ distN (parsT l (begT l 0 [60]).2.1).1 := by
        have h7 : (parsT l (begT l 0 [60]).2.1).2.2 = 0 := by simpa using h2
        rw [hz] at h7 ⊢
        unfold parsT at h7 ⊢
        simp only at h7 ⊢
        rw [if_neg (by omega), Int.toNat_natCast] at h7 ⊢
        exact pars_ok l _ [] z h5 (fun p hp => absurd hp (by simp)) (fun i p hp => by simp at hp) h7
      unfold tailT at h hq ⊢
      have fin : (∀ p ∈ (parsT l (begT l 0 [60]).2.1).1, Lib.indexByte p.2 34 < 0) → okTag (begT l 0 [60]).1 (parsT l (begT l 0 [60]).2.1).1 := fun hq =>
        ⟨hs, fun p hm => ⟨(hp.1 p hm).1, (hp.1 p hm).2.1, hq p hm, (hp.1 p hm).2.2⟩, hp.2⟩
      split
      · next h8 => rw [if_pos h8] at hq; exact fin hq
      · next h8 =>
        rw [if_neg h8] at h hq
        split
        · next h9 => rw [if_pos h9] at hq; exact fin hq
        · next h9 => rw [if_neg h9] at h; exact absurd h (by show (7 : Int) ≠ 0; omega)
end Go.Proofs.YtdmfladcldkmeaaDoor
namespace Go.Proofs.YtdmfladcldkmeaaDoor
open Go.ChangeShapes Go.WideShapes Go.ChangeAt Go.RowKit Go.Maps
set_option linter.unusedVariables false
set_option maxRecDepth 100000

theorem vQ_get (ps : Prs) (k : Nat) (p : List UInt8 × List UInt8) (h : ps[k]? = some p) : (vQ ps)[k * 2]? = some (strV p.1) ∧ (vQ ps)[k * 2 + 1]? = some (strV p.2) := by
  have := vQ_at ps k p h
  rw [Nat.mul_comm] at this
  exact this
theorem fld2 (a : Addr) (j n : Nat) (hn : n ≠ 0) : a.add (j + n) = ⟨(a.add j).block, (a.add j).off + n, none⟩ := by
  rw [← addr_add_add a j n]
  generalize a.add j = b
  unfold Addr.add
  rw [if_neg hn]
/-- The two cells of a pair. -/
theorem Sees.pair {w : World} {A : Option Addr} {ps : Prs} (h : Sees w A (vQ ps)) {k : Nat} {p : List UInt8 × List UInt8} (hk : ps[k]? = some p) :
    ∃ ad, A = some ad ∧ w.cell? (ad.add (k * 2)) = some (strV p.1) ∧ w.cell? ⟨(ad.add (k * 2)).block, (ad.add (k * 2)).off + 1, none⟩ = some (strV p.2) := by
  obtain ⟨h1, h2⟩ := vQ_get ps k p hk
  obtain ⟨ad, e, hc⟩ := h (by intro h0; rw [h0] at h1; simp at h1)
  exact ⟨ad, e, hc _ _ h1, by rw [← fld2 ad (k * 2) 1 (by omega)]; exact hc _ _ h2⟩
theorem own_sees {w : World} {base : Nat} {e : TypeId} {n : Nat} {v : Value} {ps : Prs} (h : w.ownsRow base e 2 v n (vQ ps)) : ∃ A c, v = .slice A n c ∧ Sees w A (vQ ps) ∧ n ≤ c ∧ c ≤ 9223372036854775807 := by
  rcases h.2 with ⟨rfl, h1⟩ | ⟨g, cap, cur, rfl, h2, h3, h4, h5⟩
  · subst h1
    have : ps = [] := by
      have h6 := h.1
      rw [vQ_len] at h6
      exact List.eq_nil_of_length_eq_zero (by omega)
    subst this
    exact ⟨none, 0, rfl, sees_nil _ _, Nat.le_refl _, by omega⟩
  · refine ⟨_, _, rfl, fun _ => ⟨_, rfl, h.cells (g := g) rfl⟩, h4, ?_⟩
    have := h5.1
    unfold maxLen at this
    omega
set_option maxHeartbeats 2000000 in
theorem rsameS_any (ps : Prs) (A B : Option Addr) (n c1 c2 : Nat) (w : World) (hn : ps.length = n) (hn9 : n ≤ 1000000) (h1 : Sees w A (vQ ps)) (h2 : Sees w B (vQ ps)) :
    Calls Tryd.prog 23 #[.slice A n c1, .slice B n c2] w fun e w' => e = .returned (.bool true) ∧ Below w.heap.size w w' := by
  have HC1 := Lib.hid h1
  have HC2 := Lib.hid h2
  have HN := Lib.hid hn
  clear h1 h2 hn
  go_enter Tryd.func23, Tryd.ntmps23
  go_wp2_with fail
  go_loopw [5] (fun i wr => ∃ k : Nat, k ≤ n ∧ i = .int .i64 k ∧ ∃ nq, wr = w.drewN nq) (fun i _ => n - (intOf i).toNat)
  case atStart => exact ⟨0, by omega, rfl, 0, rfl⟩
  case round =>
    obtain ⟨k, hk, rfl, nq, rfl⟩ := hrel
    by_cases hlt : k < n
    · obtain ⟨p, hp⟩ : ∃ p, ps[k]? = some p := ⟨_, List.getElem?_eq_getElem (by rw [HN.out]; exact hlt)⟩
      obtain ⟨a1, rfl, h1, h2⟩ := HC1.out.pair hp
      obtain ⟨a2, rfl, h3, h4⟩ := HC2.out.pair hp
      obtain ⟨x, y⟩ := p
      unfold strV at h1 h2 h3 h4
      simp only at h1 h2 h3 h4
      have i0 : (0 : Int) ≤ (k : Int) := by omega
      have i1 : (k : Int) < (n : Int) := by omega
      clear hp
      go_wp2_with fail
      go_quiet (fail)
      go_wp2_with fail
      go_roundw
      case rel => exact ⟨k + 1, by omega, by go_num, _, rfl⟩
      case measure => simp [intOf]; omega
    · go_wp2_with fail
      go_ret
      exact ⟨rfl, below_dr (Below.refl _ _) _⟩
end Go.Proofs.YtdmfladcldkmeaaDoor
namespace Go.Proofs.YtdmfladcldkmeaaDoor
open Go.ChangeShapes Go.WideShapes Go.ChangeAt Go.RowKit
set_option linter.unusedVariables false
set_option maxRecDepth 100000

/-- A tag that ends an element, as it is put. -/
def peT (s : List UInt8) : List UInt8 × Int := if wholeB s startN charN = false then ([], 7) else if 1024 < s.length then ([], 11) else (endB s, 0)
theorem end_join (s : List UInt8) : (⟨#[60, 47]⟩ : ByteArray) ++ ⟨s.toArray⟩ ++ ⟨#[62]⟩ = ⟨(endB s).toArray⟩ := by
  show (⟨([60, 47] : List UInt8).toArray⟩ : ByteArray) ++ ⟨s.toArray⟩ ++ ⟨([62] : List UInt8).toArray⟩ = _
  rw [str_app, str_app]
  rfl
theorem ret_pe {a b : ByteArray} {v : Value} (h : a = b) : Ending.returned (.tuple #[.string a, v]) = .returned (.tuple #[.string b, v]) := by rw [h]
set_option maxHeartbeats 1000000 in
theorem putEnd_any (s : List UInt8) (w : World) (h9 : s.length ≤ 1000000) (ht : TabN w) :
    Calls Tryd.prog 18 #[strV s] w fun e w' => e = .returned (.tuple #[strV (peT s).1, .int .i64 (peT s).2]) ∧ Below w.heap.size w w' := by
  have H := isName_any s w h9 ht
  have z1 := str_size s
  unfold peT
  cases hw : wholeB s startN charN with
  | false =>
    rw [hw] at H
    have K := Lib.hid H
    rw [if_pos rfl]
    clear H hw ht
    go_enter Tryd.func18, Tryd.ntmps18
    go_wp2_with fail
    refine K.out.mono ?_
    rintro e w1 ⟨rfl, hb⟩
    go_wp2_with fail
    go_ret2
    exact ⟨rfl, hb⟩
  | true =>
    rw [hw] at H
    have K := Lib.hid H
    rw [if_neg (by simp)]
    by_cases hl : 1024 < s.length
    · rw [if_pos hl]
      have d1 : (1024 : Int) < (s.length : Int) := by omega
      clear H hw ht hl
      go_enter Tryd.func18, Tryd.ntmps18
      go_wp2_with fail
      refine K.out.mono ?_
      rintro e w1 ⟨rfl, hb⟩
      go_wp2_with fail
      go_ret2
      exact ⟨rfl, hb⟩
    · rw [if_neg hl]
      have d1 : ¬ (1024 : Int) < (s.length : Int) := by omega
      clear H hw ht hl
      go_enter Tryd.func18, Tryd.ntmps18
      go_wp2_with fail
      refine K.out.mono ?_
      rintro e w1 ⟨rfl, hb⟩
      go_wp2_with fail
      go_ret2
      exact ⟨ret_pe (end_join s), hb⟩
/-- A block of three cells that is known whole. -/
def Tri (w : World) (b : Nat) (v0 v1 v2 : Value) (T : TypeId) : Prop := w.heap[b]? = some (.cells #[v0, v1, v2] T (0, 0))
theorem Tri.at {w : World} {b : Nat} {v0 v1 v2 : Value} {T : TypeId} (h : Tri w b v0 v1 v2 T) : w.cell? ⟨b, 0, none⟩ = some v0 ∧ w.cell? ⟨b, 1, none⟩ = some v1 ∧ w.cell? ⟨b, 2, none⟩ = some v2 := by
  unfold Tri at h
  exact ⟨by simp [World.cell?, h], by simp [World.cell?, h], by simp [World.cell?, h]⟩
theorem Tri.lt {w : World} {b : Nat} {v0 v1 v2 : Value} {T : TypeId} (h : Tri w b v0 v1 v2 T) : b < w.heap.size := (Array.getElem?_eq_some_iff.1 h).1
theorem Tri.below {w w' : World} {b : Nat} {v0 v1 v2 : Value} {T : TypeId} (h : Tri w b v0 v1 v2 T) (hb : Below w.heap.size w w') : Tri w' b v0 v1 v2 T := (hb.block b h.lt).trans h
theorem Tri.new (w : World) (v0 v1 v2 : Value) (T : TypeId) (b : Nat) (hb : w.heap.size = b) : Tri (w.alloc (.cells #[v0, v1, v2] T)) b v0 v1 v2 T := by
  subst hb; unfold Tri World.alloc; simp
theorem Tri.alloc {w : World} {b : Nat} {v0 v1 v2 : Value} {T : TypeId} (h : Tri w b v0 v1 v2 T) (o : Obj) : Tri (w.alloc o) b v0 v1 v2 T := h.below ((Below.refl _ w).alloc (Nat.le_refl _) o)
theorem Tri.drew {w : World} {b : Nat} {v0 v1 v2 : Value} {T : TypeId} (h : Tri w b v0 v1 v2 T) (n : Nat) : Tri (w.drewN n) b v0 v1 v2 T := h
/-- More than statements ask? -/
def longQ (p : List UInt8 × List UInt8) : Bool := decide (300 < p.2.length) || decide (1200 < p.1.length)
def greatT (s : List UInt8) (l : Prs) : Bool := (l.take 40).any longQ || (decide (1200 < s.length) || decide (20 < l.length))
theorem greatT_no {s : List UInt8} {l : Prs} (h : greatT s l = false) : s.length ≤ 1200 ∧ l.length ≤ 20 ∧ ∀ p ∈ l, p.1.length ≤ 1200 ∧ p.2.length ≤ 300 := by
  unfold greatT at h
  rw [Bool.or_eq_false_iff, Bool.or_eq_false_iff] at h
  have h1 : l.length ≤ 20 := by simpa using h.2.2
  refine ⟨by simpa using h.2.1, h1, fun p hp => ?_⟩
  have h2 := h.1
  rw [List.take_of_length_le (by omega), List.any_eq_false] at h2
  have := h2 p hp
  unfold longQ at this
  simp at this
  omega
theorem anyQ_next {l : Prs} {k : Nat} {p : List UInt8 × List UInt8} (hp : l[k]? = some p) : (l.take (k + 1)).any longQ = ((l.take k).any longQ || longQ p) := by
  rw [List.take_add_one, List.any_append, hp]; simp
theorem greatT_yes {s : List UInt8} {l : Prs} {k : Nat} {p : List UInt8 × List UInt8} (hp : l[k]? = some p) (hk : k < 40) (h : longQ p = true) : greatT s l = true := by
  unfold greatT
  rw [Bool.or_eq_true, List.any_eq_true]
  refine .inl ⟨p, ?_, h⟩
  obtain ⟨h1, h2⟩ := List.getElem?_eq_some_iff.1 hp
  rw [List.mem_take_iff_getElem]
  exact ⟨k, by omega, h2⟩
theorem greatT_end {s : List UInt8} {l : Prs} {k : Nat} (h : (l.take k).any longQ = false) (hk : l.length ≤ k ∨ k = 40) : greatT s l = (decide (1200 < s.length) || decide (20 < l.length)) := by
  unfold greatT
  have : (l.take 40).any longQ = false := by
    rcases hk with hk | rfl
    · rw [List.take_of_length_le hk] at h
      rw [List.any_eq_false] at h ⊢
      exact fun x hx => h x (List.mem_of_mem_take hx)
    · exact h
  rw [this, Bool.false_or]
set_option maxHeartbeats 4000000 in
theorem great10_any (s : List UInt8) (l : Prs) (e : Bool) (A : Option Addr) (n c : Nat) (w : World) (hn : l.length = n) (hn9 : n ≤ 9223372036854775807) (hs : Sees w A (vQ l)) :
    Calls Tryd.prog 15 #[.agg #[strV s, .slice A n c, .bool e]] w fun e w' => e = .returned (.bool (greatT s l)) ∧ Below w.heap.size w w' := by
  have B0 := (Below.refl w.heap.size w).alloc (Nat.le_refl _) (.cells #[strV s, .slice A n c, .bool e] 24)
  have T0 := Lib.hid (Tri.new w (strV s) (.slice A n c) (.bool e) 24 _ rfl)
  have HN := Lib.hid hn
  have HS := Lib.hid (hs.below B0)
  have HB0 := Lib.hid B0
  have z0 := str_size s
  clear hn hs B0
  go_enter Tryd.func15, Tryd.ntmps15
  go_wp2_with fail
  go_loopw [3] (fun i wr => ∃ k : Nat, k ≤ n ∧ k ≤ 40 ∧ i = .int .i64 k ∧ Hid ((l.take k).any longQ = false) ∧ wr = w.alloc (.cells #[strV s, .slice A n c, .bool e] 24)) (fun i _ => n - (intOf i).toNat)
  case atStart => exact ⟨0, Nat.zero_le _, by omega, rfl, Lib.hid (by simp), rfl⟩
  case round =>
    obtain ⟨k, hk, hk4, rfl, hno, rfl⟩ := hrel
    obtain ⟨t0, t1, t2⟩ := T0.out.at
    have i0 : (0 : Int) ≤ (k : Int) := by omega
    by_cases hlt : k < n ∧ k < 40
    · obtain ⟨hlt, hl4⟩ := hlt
      obtain ⟨p, hp⟩ : ∃ p, l[k]? = some p := ⟨_, List.getElem?_eq_getElem (by rw [HN.out]; exact hlt)⟩
      obtain ⟨a1, rfl, h1, h2⟩ := HS.out.pair hp
      have hnx := anyQ_next hp
      have hys := fun h => greatT_yes (s := s) hp hl4 h
      obtain ⟨x, y⟩ := p
      unfold strV at h1 h2
      simp only at h1 h2
      have i1 : (k : Int) < (n : Int) := by omega
      have i2 : (k : Int) < 40 := by omega
      rw [hno.out, Bool.false_or] at hnx
      have hlp : longQ (x, y) = (decide (300 < y.length) || decide (1200 < x.length)) := rfl
      rw [hlp] at hnx hys
      clear hlp
      have z1 := str_size x
      have z2 := str_size y
      clear hp
      by_cases b1 : 300 < y.length
      · have d1 : (300 : Int) < (y.length : Int) := by omega
        have HY := Lib.hid (hys (by simp [b1]))
        clear hnx hys
        go_wp2_with fail
        go_ret
        exact ⟨by rw [HY.out]; rfl, HB0.out⟩
      · have d1 : ¬ (300 : Int) < (y.length : Int) := by omega
        by_cases b2 : 1200 < x.length
        · have d2 : (1200 : Int) < (x.length : Int) := by omega
          have HY := Lib.hid (hys (by simp [b2]))
          clear hnx hys
          go_wp2_with fail
          go_ret
          exact ⟨by rw [HY.out]; rfl, HB0.out⟩
        · have d2 : ¬ (1200 : Int) < (x.length : Int) := by omega
          have HX := Lib.hid (show (l.take (k + 1)).any longQ = false by rw [hnx]; simp; omega)
          clear hnx hys
          go_wp2_with fail
          go_roundw
          case rel => exact ⟨k + 1, by omega, by omega, by go_num, HX, trivial⟩
          case measure => simp [intOf]; omega
    · have HE := Lib.hid (greatT_end (s := s) hno.out (by rw [HN.out]; omega))
      by_cases hs1 : 1200 < s.length
      · have HE2 := Lib.hid (show greatT s l = true by rw [HE.out]; simp [hs1])
        have d3 : (1200 : Int) < (s.length : Int) := by omega
        by_cases h1 : k < n
        · have i1 : (k : Int) < (n : Int) := by omega
          have i2 : ¬ (k : Int) < 40 := by omega
          go_wp2_with fail
          go_ret
          exact ⟨by rw [HE2.out]; rfl, HB0.out⟩
        · have i1 : ¬ (k : Int) < (n : Int) := by omega
          go_wp2_with fail
          go_ret
          exact ⟨by rw [HE2.out]; rfl, HB0.out⟩
      · have HE2 := Lib.hid (show greatT s l = decide ((20 : Int) < (n : Int)) by rw [HE.out, HN.out, decide_eq_false hs1, Bool.false_or]; exact decide_eq_decide.2 (by omega))
        have d3 : ¬ (1200 : Int) < (s.length : Int) := by omega
        by_cases h1 : k < n
        · have i1 : (k : Int) < (n : Int) := by omega
          have i2 : ¬ (k : Int) < 40 := by omega
          go_wp2_with fail
          go_ret
          exact ⟨by rw [HE2.out]; rfl, HB0.out⟩
        · have i1 : ¬ (k : Int) < (n : Int) := by omega
          go_wp2_with fail
          go_ret
          exact ⟨by rw [HE2.out]; rfl, HB0.out⟩
end Go.Proofs.YtdmfladcldkmeaaDoor
namespace Go.Proofs.YtdmfladcldkmeaaDoor
open Go.ChangeShapes Go.WideShapes Go.ChangeAt Go.RowKit
set_option linter.unusedVariables false
set_option maxRecDepth 100000

/-- What was written of a tag when k attributes are there. -/
def tagK (s : List UInt8) (ps : Prs) (k : Nat) : List UInt8 := 60 :: s ++ prsB (ps.take k)
theorem tagK_zero (s : List UInt8) (ps : Prs) : tagK s ps 0 = 60 :: s := by unfold tagK prsB; simp
theorem tagK_next {s : List UInt8} {ps : Prs} {k : Nat} {p : List UInt8 × List UInt8} (hp : ps[k]? = some p) : tagK s ps (k + 1) = tagK s ps k ++ prB p := by
  unfold tagK prsB
  rw [List.take_add_one, List.flatMap_append, hp]
  simp
theorem tagK_all {s : List UInt8} {ps : Prs} {n : Nat} (hn : ps.length = n) (e : Bool) : tagK s ps n ++ tailB e = tagB s ps e := by
  unfold tagK tagB
  rw [List.take_of_length_le (by omega)]
  simp
theorem join_pr (X x y : List UInt8) : (⟨X.toArray⟩ : ByteArray) ++ ⟨#[32]⟩ ++ ⟨x.toArray⟩ ++ ⟨#[61, 34]⟩ ++ ⟨y.toArray⟩ ++ ⟨#[34]⟩ = ⟨(X ++ prB (x, y)).toArray⟩ := by
  show (⟨X.toArray⟩ : ByteArray) ++ ⟨([32] : List UInt8).toArray⟩ ++ ⟨x.toArray⟩ ++ ⟨([61, 34] : List UInt8).toArray⟩ ++ ⟨y.toArray⟩ ++ ⟨([34] : List UInt8).toArray⟩ = _
  rw [str_app, str_app, str_app, str_app, str_app]
  unfold prB
  simp
theorem join_beg (s : List UInt8) : (⟨#[60]⟩ : ByteArray) ++ ⟨s.toArray⟩ = ⟨(60 :: s).toArray⟩ := by
  show (⟨([60] : List UInt8).toArray⟩ : ByteArray) ++ ⟨s.toArray⟩ = _
  rw [str_app]
  rfl
theorem join_end (X : List UInt8) (e : Bool) : (⟨X.toArray⟩ : ByteArray) ++ (if e then ⟨#[47, 62]⟩ else ⟨#[62]⟩) = ⟨(X ++ tailB e).toArray⟩ := by
  cases e
  · show (⟨X.toArray⟩ : ByteArray) ++ ⟨([62] : List UInt8).toArray⟩ = _
    rw [str_app]; rfl
  · show (⟨X.toArray⟩ : ByteArray) ++ ⟨([47, 62] : List UInt8).toArray⟩ = _
    rw [str_app]; rfl
theorem ret_strT {a b : ByteArray} (h : a = b) : Ending.returned (.string a) = .returned (.string b) := by rw [h]
theorem prsB_bound : ∀ (ps : Prs), (∀ p ∈ ps, p.1.length ≤ 2000 ∧ p.2.length ≤ 2000) → (prsB ps).length ≤ ps.length * 4004
  | [], _ => by simp [prsB]
  | p :: ps, h => by
    have h1 := prsB_bound ps (fun q hq => h q (by simp [hq]))
    have h2 := h p (by simp)
    rw [prsB_cons, List.length_append, prB_len, List.length_cons]
    omega
theorem tagK_bound {s : List UInt8} {ps : Prs} {k : Nat} (hs : s.length ≤ 2000) (hk : k ≤ 1000) (h : ∀ p ∈ ps, p.1.length ≤ 2000 ∧ p.2.length ≤ 2000) : (tagK s ps k).length ≤ 5000000 := by
  have h1 := prsB_bound (ps.take k) (fun q hq => h q (List.mem_of_mem_take hq))
  have h2 : (ps.take k).length ≤ k := by rw [List.length_take]; omega
  unfold tagK
  rw [List.length_append, List.length_cons]
  have h3 : (ps.take k).length * 4004 ≤ k * 4004 := Nat.mul_le_mul_right _ h2
  omega
def RpRel (s : List UInt8) (ps : Prs) (i x : Value) : Prop := ∃ k : Nat, k ≤ ps.length ∧ i = .int .i64 k ∧ x = strV (tagK s ps k)
theorem RpRel_mk {s : List UInt8} {ps : Prs} {x : Value} (k : Nat) (h : k ≤ ps.length) (hx : x = strV (tagK s ps k)) : RpRel s ps (.int .i64 k) x := ⟨k, h, rfl, hx⟩
set_option maxHeartbeats 4000000 in
theorem rput10_any (s : List UInt8) (ps : Prs) (e : Bool) (A : Option Addr) (n c : Nat) (w : World) (hn : ps.length = n) (hn9 : n ≤ 1000) (hsl : s.length ≤ 2000) (hpl : ∀ p ∈ ps, p.1.length ≤ 2000 ∧ p.2.length ≤ 2000) (hs : Sees w A (vQ ps)) :
    Calls Tryd.prog 20 #[.agg #[strV s, .slice A n c, .bool e]] w fun e1 w' => e1 = .returned (strV (tagB s ps e)) ∧ Below w.heap.size w w' := by
  have B0 := (Below.refl w.heap.size w).alloc (Nat.le_refl _) (.cells #[strV s, .slice A n c, .bool e] 24)
  obtain ⟨WA, hWA⟩ : ∃ WA, w.alloc (.cells #[strV s, .slice A n c, .bool e] 24) = WA := ⟨_, rfl⟩
  have T0 := Lib.hid (show Tri WA w.heap.size (strV s) (.slice A n c) (.bool e) 24 from hWA ▸ Tri.new w (strV s) (.slice A n c) (.bool e) 24 _ rfl)
  have HN := Lib.hid hn
  have HS := Lib.hid (show Sees WA A (vQ ps) from hWA ▸ hs.below B0)
  rw [hWA] at B0
  have HB0 := Lib.hid B0
  have HWA := Lib.hid hWA
  have HJ0 := Lib.hid (join_beg s)
  obtain ⟨t0, t1, t2⟩ := T0.out.at
  have HPL := Lib.hid hpl
  have z0 := str_size s
  clear hn hs B0 hWA hpl
  go_enter Tryd.func20, Tryd.ntmps20
  go_wp2_with fail
  go_loopw [3, 4] (fun x i wr => RpRel s ps i x ∧ ∃ nq, wr = WA.drewN nq) (fun _ i _ => n - (intOf i).toNat)
  case atStart => exact ⟨RpRel_mk 0 (Nat.zero_le _) (by rw [tagK_zero]; exact congrArg Value.string HJ0.out), 0, HWA.out⟩
  case round =>
    obtain ⟨⟨k, hk, rfl, rfl⟩, nq, rfl⟩ := hrel
    rw [HN.out] at hk
    have i0 : (0 : Int) ≤ (k : Int) := by omega
    have hbd := tagK_bound (s := s) (ps := ps) (k := k) hsl (by omega) HPL.out
    have zk := str_size (tagK s ps k)
    by_cases hlt : k < n
    · obtain ⟨p, hp⟩ : ∃ p, ps[k]? = some p := ⟨_, List.getElem?_eq_getElem (by rw [HN.out]; exact hlt)⟩
      obtain ⟨a1, rfl, h1, h2⟩ := HS.out.pair hp
      have HX := Lib.hid (tagK_next (s := s) hp)
      have hpp := HPL.out p (List.mem_of_getElem? hp)
      obtain ⟨x, y⟩ := p
      simp only at hpp
      have z1 := str_size x
      have z2 := str_size y
      have HJ := Lib.hid (join_pr (tagK s ps k) x y)
      unfold strV at h1 h2
      simp only at h1 h2
      have i1 : (k : Int) < (n : Int) := by omega
      clear hp
      go_wp2_with fail
      go_quiet (fail)
      go_wp2_with fail
      go_roundw
      case rel => exact ⟨RpRel_mk (k + 1) (by rw [HN.out]; omega) (by rw [HX.out]; exact congrArg Value.string HJ.out), _, rfl⟩
      case measure => simp [intOf]; omega
    · obtain rfl : k = n := by omega
      have HE := Lib.hid (tagK_all (s := s) HN.out e)
      have HJ := Lib.hid (join_end (tagK s ps k) e)
      cases e
      all_goals
        go_wp2_with fail
        go_ret
        exact ⟨ret_strT (by rw [← HE.out, ← HJ.out]; rfl), below_dr HB0.out _⟩
end Go.Proofs.YtdmfladcldkmeaaDoor
namespace Go.Proofs.YtdmfladcldkmeaaDoor
open Go.ChangeShapes Go.WideShapes Go.ChangeAt Go.RowKit
set_option linter.unusedVariables false
set_option maxRecDepth 100000

theorem join_prW (x y : List UInt8) : (⟨#[32]⟩ : ByteArray) ++ ⟨x.toArray⟩ ++ ⟨#[61, 34]⟩ ++ ⟨y.toArray⟩ ++ ⟨#[34]⟩ = ⟨(prB (x, y)).toArray⟩ := by
  show (⟨([32] : List UInt8).toArray⟩ : ByteArray) ++ ⟨x.toArray⟩ ++ ⟨([61, 34] : List UInt8).toArray⟩ ++ ⟨y.toArray⟩ ++ ⟨([34] : List UInt8).toArray⟩ = _
  rw [str_app, str_app, str_app, str_app]
  unfold prB
  simp
theorem bld_alloc {B b : Nat} {l : List UInt8} {w : World} (h : Bld B b l w) (o : Obj) : Bld B b l (w.alloc o) := by
  rcases h with ⟨hB, v, hb, ho, hne⟩ | ⟨hB, v, hb, ho, hne⟩
  · exact .inl ⟨hB, v, (Lib.alloc_old w o b (heap_lt hb)).trans hb, ho.alloc o, hne⟩
  · exact .inr ⟨hB, v, (Lib.alloc_old w o b (heap_lt hb)).trans hb, ho.alloc o, hne⟩

theorem Tri.low {w w' : World} {b B : Nat} {v0 v1 v2 : Value} {T : TypeId} (h : Tri w b v0 v1 v2 T) (hb : Below B w w') (hlt : b < B) : Tri w' b v0 v1 v2 T := (hb.block b hlt).trans h
set_option maxHeartbeats 2000000 in
theorem tput_no (s : List UInt8) (ps : Prs) (e : Bool) (A : Option Addr) (n c : Nat) (w : World) (f : Int) (hf : f ≠ 0)
    (HF : ∀ w', Below w.heap.size w w' → Calls Tryd.prog 56 #[.agg #[strV s, .slice A n c, .bool e]] w' fun e1 w'' => e1 = .returned (.int .i64 f) ∧ Below w'.heap.size w' w'') :
    Calls Tryd.prog 17 #[.agg #[strV s, .slice A n c, .bool e]] w fun e1 w' => e1 = .returned (.tuple #[.string ⟨#[]⟩, .int .i64 f]) ∧ Below w.heap.size w w' := by
  have B0 := (Below.refl w.heap.size w).alloc (Nat.le_refl _) (.cells #[strV s, .slice A n c, .bool e] 30)
  have KF := Lib.hid (HF _ B0)
  have t0 : (f != 0) = true := by simpa using hf
  have HB0 := Lib.hid B0
  clear HF B0 hf
  go_enter Tryd.func17, Tryd.ntmps17
  go_wp2_with fail
  refine KF.out.mono ?_
  rintro e1 w1 ⟨rfl, hb1⟩
  go_wp2_with fail
  go_ret2
  exact ⟨rfl, HB0.out.trans (hb1.mono (by simp))⟩
def TpRel (s : List UInt8) (ps : Prs) (e : Bool) (A : Option Addr) (n c B : Nat) (w : World) (i : Value) (wr : World) : Prop :=
  ∃ k : Nat, k ≤ ps.length ∧ i = .int .i64 k ∧ Bld B B (tagK s ps k) wr ∧ Tri wr w.heap.size (strV s) (.slice A n c) (.bool e) 30 ∧ Below w.heap.size w wr ∧ B ≤ wr.heap.size
theorem TpRel_mk {s : List UInt8} {ps : Prs} {e : Bool} {A : Option Addr} {n c B : Nat} {w wr : World} (k : Nat) (h : k ≤ ps.length) (h1 : Bld B B (tagK s ps k) wr) (h2 : Tri wr w.heap.size (strV s) (.slice A n c) (.bool e) 30) (h3 : Below w.heap.size w wr) (h4 : B ≤ wr.heap.size) : TpRel s ps e A n c B w (.int .i64 k) wr := ⟨k, h, rfl, h1, h2, h3, h4⟩
set_option maxHeartbeats 8000000 in
theorem tput_ok (s : List UInt8) (ps : Prs) (e : Bool) (A : Option Addr) (n c : Nat) (w : World) (hn : ps.length = n) (hn9 : n ≤ 1000) (hsl : s.length ≤ 2000) (hpl : ∀ p ∈ ps, p.1.length ≤ 2000 ∧ p.2.length ≤ 2000) (hs : Sees w A (vQ ps))
    (HF : ∀ w', Below w.heap.size w w' → Calls Tryd.prog 56 #[.agg #[strV s, .slice A n c, .bool e]] w' fun e1 w'' => e1 = .returned (.int .i64 0) ∧ Below w'.heap.size w' w'') :
    Calls Tryd.prog 17 #[.agg #[strV s, .slice A n c, .bool e]] w fun e1 w' => e1 = .returned (.tuple #[strV (tagB s ps e), .int .i64 0]) ∧ Below w.heap.size w w' := by
  have B0 := (Below.refl w.heap.size w).alloc (Nat.le_refl _) (.cells #[strV s, .slice A n c, .bool e] 30)
  obtain ⟨WA, hWA⟩ : ∃ WA, w.alloc (.cells #[strV s, .slice A n c, .bool e] 30) = WA := ⟨_, rfl⟩
  have T0 := Lib.hid (show Tri WA w.heap.size (strV s) (.slice A n c) (.bool e) 30 from hWA ▸ Tri.new w (strV s) (.slice A n c) (.bool e) 30 _ rfl)
  have HN := Lib.hid hn
  have HS := Lib.hid (fun (W' : World) (hb : Below w.heap.size w W') => hs.below hb)
  rw [hWA] at B0
  have HB0 := Lib.hid B0
  have HWA := Lib.hid hWA
  have KF := Lib.hid (HF _ B0)
  have HJ0 := Lib.hid (join_beg s)
  have HPL := Lib.hid hpl
  have z0 := str_size s
  clear hn hs B0 hWA hpl HF
  go_enter Tryd.func17, Tryd.ntmps17
  go_wp2_with fail
  rw [HWA.out]
  clear HWA
  refine KF.out.mono ?_
  rintro e1 w2 ⟨rfl, hb2⟩
  have HB2 := Lib.hid (HB0.out.trans (hb2.mono HB0.out.size))
  have T2 := T0.out.below hb2
  have T3 := T2.alloc (.cells #[.pointer none, .slice none 0 0] 93)
  have hlt0 := T2.lt
  obtain ⟨t0, t1, t2⟩ := T2.at
  obtain ⟨B, hBs⟩ : ∃ B, w2.heap.size = B := ⟨_, rfl⟩
  have HBs := Lib.hid hBs
  have hbl := bld_made w2
  rw [hBs] at hbl
  obtain ⟨W3, hW3⟩ : ∃ W3, w2.alloc (.cells #[.pointer none, .slice none 0 0] 93) = W3 := ⟨_, rfl⟩
  have HW3 := Lib.hid hW3
  have hsz3 : B + 1 = W3.heap.size := by rw [← hW3]; simp; omega
  have HB3 := Lib.hid (show Below w.heap.size w W3 from hW3 ▸ HB2.out.alloc HB2.out.size _)
  have HLT := Lib.hid (show w.heap.size < B by omega)
  rw [hW3] at T3 hbl
  have KW := Lib.hid (bldStr_any B B [] (60 :: s) W3 hbl (by simp; omega) (by omega))
  have HZ3 := Lib.hid hsz3
  have T3h := Lib.hid T3
  clear hb2 T2 T3 hbl hW3 hBs hsz3
  go_wp2_with fail
  rw [HW3.out, HJ0.out, HBs.out]
  clear HW3 HBs t0 t1 t2 hlt0
  refine KW.out.mono ?_
  rintro e1 w4 ⟨rfl, hbl4, hb4⟩
  have T4 := T3h.out.low hb4 HLT.out
  have HB4 := Lib.hid (HB3.out.trans (hb4.mono (by have := HLT.out; omega)))
  have hz4 : B ≤ w4.heap.size := by have := hb4.size; have := HZ3.out; omega
  obtain ⟨t0, t1, t2⟩ := T4.at
  have HBL4 := Lib.hid hbl4
  have HT4 := Lib.hid T4
  have HZ4 := Lib.hid hz4
  clear hb4 hbl4 T4 hz4
  go_wp2_with fail
  go_loopw [20] (fun i wr => TpRel s ps e A n c B w i wr) (fun i _ => n - (intOf i).toNat)
  case atStart => exact TpRel_mk 0 (Nat.zero_le _) (by rw [tagK_zero]; simpa using HBL4.out) HT4.out HB4.out HZ4.out
  case round =>
    obtain ⟨k, hk, rfl, hbl, hT, hB, hZ⟩ := hrel
    rw [HN.out] at hk
    have i0 : (0 : Int) ≤ (k : Int) := by omega
    have hbd := tagK_bound (s := s) (ps := ps) (k := k) hsl (by omega) HPL.out
    have HBL := Lib.hid hbl
    have HT := Lib.hid hT
    have HZ := Lib.hid hZ
    clear hbl hT hZ t0 t1 t2
    by_cases hlt : k < n
    · obtain ⟨p, hp⟩ : ∃ p, ps[k]? = some p := ⟨_, List.getElem?_eq_getElem (by rw [HN.out]; exact hlt)⟩
      obtain ⟨a1, rfl, h1, h2⟩ := (HS.out wr hB).pair hp
      have HX := Lib.hid (tagK_next (s := s) hp)
      have hpp := HPL.out p (List.mem_of_getElem? hp)
      obtain ⟨x, y⟩ := p
      simp only at hpp
      have z1 := str_size x
      have z2 := str_size y
      have HJ := Lib.hid (join_prW x y)
      unfold strV at h1 h2
      simp only at h1 h2
      have i1 : (k : Int) < (n : Int) := by omega
      have hpl2 := prB_len (x, y)
      obtain ⟨W1, hW1⟩ : ∃ W1, wr.alloc (.cells #[.string ⟨x.toArray⟩, .string ⟨y.toArray⟩] 41) = W1 := ⟨_, rfl⟩
      have HW1 := Lib.hid hW1
      have hBL1 : Bld B B (tagK s ps k) W1 := hW1 ▸ bld_alloc HBL.out _
      have hz1 : B ≤ W1.heap.size := by rw [← hW1]; have := HZ.out; simp; omega
      have HB1 := Lib.hid (show Below w.heap.size w W1 from hW1 ▸ hB.alloc hB.size _)
      have HT1 := Lib.hid (show Tri W1 _ _ _ _ _ from hW1 ▸ HT.out.alloc _)
      have KW1 := Lib.hid (bldStr_any B B (tagK s ps k) (prB (x, y)) W1 hBL1 (by rw [hpl2]; simp only; omega) hz1)
      have HZ1 := Lib.hid hz1
      clear hp hW1 hBL1 hz1 hpl2
      go_wp2_with fail
      rw [HW1.out, HJ.out]
      clear HW1
      refine KW1.out.mono ?_
      rintro e1 w5 ⟨rfl, hbl5, hb5⟩
      have HT5 := Lib.hid (HT1.out.low hb5 HLT.out)
      have HB5 := Lib.hid (HB1.out.trans (hb5.mono (by have := HLT.out; omega)))
      have HZ5 := Lib.hid (show B ≤ w5.heap.size by have := hb5.size; have := HZ1.out; omega)
      have HBL5 := Lib.hid hbl5
      clear hb5 hbl5
      go_wp2_with fail
      go_roundw
      case rel => exact TpRel_mk (k + 1) (by rw [HN.out]; omega) (by rw [HX.out]; exact HBL5.out) HT5.out HB5.out HZ5.out
      case measure => simp [intOf]; omega
    · obtain rfl : k = n := by omega
      have HE := Lib.hid (tagK_all (s := s) HN.out e)
      obtain ⟨t0, t1, t2⟩ := HT.out.at
      cases e with
      | false =>
        have KB := Lib.hid (bldByte_any B B (tagK s ps k) 62 wr HBL.out (by omega) HZ.out)
        go_wp2_with fail
        refine KB.out.mono ?_
        rintro e1 w5 ⟨rfl, hbl5, hb5⟩
        have hz5 : B ≤ w5.heap.size := by have := hb5.size; have := HZ.out; omega
        have KG := Lib.hid (bldGive_any B B _ w5 hbl5 hz5)
        have HB5 := Lib.hid (hB.trans (hb5.mono (by have := HLT.out; omega)))
        clear hb5 hbl5 hz5
        go_wp2_with fail
        refine KG.out.mono ?_
        rintro e1 w6 ⟨rfl, hb6⟩
        go_wp2_with fail
        go_ret2
        exact ⟨by rw [← HE.out]; rfl, HB5.out.trans (hb6.mono (by have := HLT.out; omega))⟩
      | true =>
        have KB := Lib.hid (bldByte_any B B (tagK s ps k) 47 wr HBL.out (by omega) HZ.out)
        go_wp2_with fail
        refine KB.out.mono ?_
        rintro e1 w5 ⟨rfl, hbl5, hb5⟩
        have hz5 : B ≤ w5.heap.size := by have := hb5.size; have := HZ.out; omega
        have KB2 := Lib.hid (bldByte_any B B _ 62 w5 hbl5 (by simp; omega) hz5)
        have HB5 := Lib.hid (hB.trans (hb5.mono (by have := HLT.out; omega)))
        have HZ5 := Lib.hid hz5
        clear hb5 hbl5 hz5
        go_wp2_with fail
        refine KB2.out.mono ?_
        rintro e1 w6 ⟨rfl, hbl6, hb6⟩
        have hz6 : B ≤ w6.heap.size := by have := hb6.size; have := HZ5.out; omega
        have KG := Lib.hid (bldGive_any B B _ w6 hbl6 hz6)
        have HB6 := Lib.hid (HB5.out.trans (hb6.mono (by have := HLT.out; omega)))
        clear hb6 hbl6 hz6
        go_wp2_with fail
        refine KG.out.mono ?_
        rintro e1 w7 ⟨rfl, hb7⟩
        go_wp2_with fail
        go_ret2
        exact ⟨by rw [← HE.out]; simp [tailB], HB6.out.trans (hb7.mono (by have := HLT.out; omega))⟩
end Go.Proofs.YtdmfladcldkmeaaDoor
