/- External identifiers, and how a document type begins (pure). Public identifiers over their own table alone. A tag that begins an element, as the document has it. A tag that begins an element, by the program. What stands behind blanks; with which word bytes begin. -/
import Derived.Lib.SlBytesConst
import Derived.Test.YtdmfladcldkmeaaDoorPkam
import Derived.Test.YtdmfladcldkmeaaDoorPkan
import Derived.Test.YtdmfladcldkmeaaDoorPkao
namespace Go.Proofs.YtdmfladcldkmeaaDoor
open Go.ChangeShapes Go.WideShapes Go.ChangeAt Go.RowKit
set_option linter.unusedVariables false
set_option maxRecDepth 100000

def sysW : List UInt8 := [83, 89, 83, 84, 69, 77]
def pubW : List UInt8 := [80, 85, 66, 76, 73, 67]
def dtW : List UInt8 := [60, 33, 68, 79, 67, 84, 89, 80, 69]
theorem pubT_err (l : List UInt8) (k : Int) (h : (pubT l k).2.2 ≠ 0) : pubT l k = noT (pubT l k).2.2 := by
  unfold pubT chkT at h ⊢
  split
  · rfl
  · next h1 =>
    rw [if_neg h1] at h
    split
    · rfl
    · next h2 => rw [if_neg h2] at h; exact absurd rfl h
theorem pubT_go {l : List UInt8} {k : Nat} (hk : k ≤ l.length) (h : (pubT l (k : Int)).2.2 = 0) : ∃ b : Nat, (pubT l (k : Int)).2.1 = b ∧ k < b ∧ b ≤ l.length := by
  unfold pubT chkT at h ⊢
  split
  · next h1 => rw [if_pos h1] at h; exact absurd h h1
  · next h1 =>
    rw [if_neg h1] at h
    split
    · next h2 => rw [if_pos h2] at h; exact absurd h h2
    · next h2 => exact quoT_go hk (by simpa using h1)
/-- What stands behind one blank or more. -/
def bbT (f : List UInt8 → Int → Trip) (l : List UInt8) (i : Nat) : Trip := if blkN l l.length i = i then noT 7 else f l (blkN l l.length i : Nat)
/-- An external identifier: two texts, a place, an error. -/
def noX (e : Int) : Quad := ([], [], 0, e)
def sysT (l p : List UInt8) (i : Nat) : Quad := if (bbT quoT l i).2.2 ≠ 0 then noX (bbT quoT l i).2.2 else (p, (bbT quoT l i).1, (bbT quoT l i).2.1, 0)
def extT (l : List UInt8) (k : Int) : Quad :=
  if k < 0 ∨ (l.length : Int) < k then noX 3
  else if atB l k sysW then sysT l [] (k.toNat + 6)
  else if atB l k pubW then
    if (bbT pubT l (k.toNat + 6)).2.2 ≠ 0 then noX (bbT pubT l (k.toNat + 6)).2.2 else sysT l (bbT pubT l (k.toNat + 6)).1 (bbT pubT l (k.toNat + 6)).2.1.toNat
  else noX 7
def exV (x : Quad) : Value := .tuple #[.agg #[strV x.1, strV x.2.1], .int .i64 x.2.2.1, .int .i64 x.2.2.2]
theorem exV_no (e : Int) : exV (noX e) = .tuple #[.agg #[.string ⟨#[]⟩, .string ⟨#[]⟩], .int .i64 0, .int .i64 e] := rfl
/-- How a document type begins: is there one, its name, its identifier, is there one, is it open; a place, an error. -/
structure Hd where
  has : Bool
  nm : List UInt8
  p : List UInt8
  s : List UInt8
  out : Bool
  opn : Bool
  at_ : Int
  e : Int
def noH (e : Int) : Hd := ⟨false, [], [], [], false, false, 0, e⟩
def hdV (x : Hd) : Value := .tuple #[.agg #[.bool x.has, strV x.nm, strV x.p, strV x.s, .bool x.out, .bool x.opn], .int .i64 x.at_, .int .i64 x.e]
def hdE (l : List UInt8) (nm p s : List UInt8) (out : Bool) (q : Nat) : Hd :=
  if q = l.length ∨ (byteAt l q ≠ 91 ∧ byteAt l q ≠ 62) then noH 7 else ⟨true, nm, p, s, out, decide (byteAt l q = 91), (q : Int) + 1, 0⟩
def hdT (l : List UInt8) (k : Int) : Hd :=
  if k < 0 ∨ (l.length : Int) < k then noH 3
  else if atB l k dtW = false then ⟨false, [], [], [], false, false, k, 0⟩
  else if (bbT nmT l (k.toNat + 9)).2.2 ≠ 0 then noH (bbT nmT l (k.toNat + 9)).2.2
  else
    let z := (bbT nmT l (k.toNat + 9)).2.1.toNat
    let f := blkN l l.length z
    if z < f ∧ f < l.length ∧ (byteAt l f = 83 ∨ byteAt l f = 80) then
      if (extT l f).2.2.2 ≠ 0 then noH (extT l f).2.2.2
      else hdE l (bbT nmT l (k.toNat + 9)).1 (extT l f).1 (extT l f).2.1 true (blkN l l.length (extT l f).2.2.1.toNat)
    else hdE l (bbT nmT l (k.toNat + 9)).1 [] [] false f
end Go.Proofs.YtdmfladcldkmeaaDoor
namespace Go.Proofs.YtdmfladcldkmeaaDoor
open Go.ChangeShapes Go.WideShapes Go.ChangeAt Go.RowKit
set_option linter.unusedVariables false
set_option maxRecDepth 100000

/-- The table of public identifiers lies as it was laid. -/
structure TabP (w : World) : Prop where
  pubid : TabAt w 0 pubidT
theorem TabP.below {w w' : World} (h : TabP w) (hb : Below w.heap.size w w') : TabP w' := ⟨h.pubid.below hb⟩
set_option maxHeartbeats 1000000 in
theorem pubid_anyP (r : Int) (w : World) (ht : TabP w) :
    Calls Tryd.prog 84 #[.int .i64 r] w fun e w' => e = .returned (.bool (hasT pubidT r)) ∧ Below w.heap.size w w' := by
  obtain ⟨tt, fr, hg⟩ := ht.pubid
  have HT := Lib.hid ht
  clear ht
  go_enter Tryd.func84, Tryd.ntmps84
  go_wp2_with (refine wpList_load_row rfl 165 _ rfl 0 rfl tt (flatT pubidT).toArray fr _ hg Tryd.underlying165 rfl (by kernel_rfl) ?_)
  clear hg
  go_loopw [6] (fun i wr => ∃ k : Nat, k ≤ 9 ∧ i = .int .i64 k ∧ hasT (pubidT.take k) r = false ∧ Below w.heap.size w wr) (fun i _ => 9 - (intOf i).toNat)
  case atStart => exact ⟨0, by omega, rfl, rfl, Below.refl _ _⟩
  case round =>
    obtain ⟨k, hk, rfl, hno, hB⟩ := hrel
    have HNO := Lib.hid hno
    have hsW := hB.size
    clear hno
    by_cases hlt : k < 9
    · have hix := idx_pubidT k hlt
      have HS := Lib.hid (hasT_succ pubidT k r hlt)
      have HY := Lib.hid (hasT_mem pubidT k r hlt)
      obtain ⟨a, ha⟩ : ∃ a, (pubidT[k]'hlt).1 = a := ⟨_, rfl⟩
      obtain ⟨b, hb⟩ : ∃ b, (pubidT[k]'hlt).2 = b := ⟨_, rfl⟩
      rw [ha, hb] at hix HS HY
      clear ha hb
      obtain ⟨q, hq⟩ : ∃ q, (decide (a ≤ r) && decide (r ≤ b)) = q := ⟨_, rfl⟩
      have HC := fun w => has_any a b r w
      rw [hq] at HC HS HY
      have HH := Lib.hid HC
      clear hq HC
      cases q with
      | true =>
        go_wp2_with (go_at_call 118; refine (HH.out _).mono ?_; rintro e w1 ⟨rfl, hb1⟩)
        go_ret
        exact ⟨ret_bool (by rw [HY.out (by trivial)]), (hB.alloc hsW _).trans (hb1.mono (by simp; omega))⟩
      | false =>
        go_wp2_with (go_at_call 118; refine (HH.out _).mono ?_; rintro e w1 ⟨rfl, hb1⟩)
        go_roundw
        case rel => exact ⟨k + 1, by omega, by go_num, by rw [HS.out, HNO.out]; rfl, (hB.alloc hsW _).trans (hb1.mono (by simp; omega))⟩
        case measure => simp [intOf]; omega
    · obtain rfl : k = 9 := by omega
      go_wp2_with fail
      go_ret
      exact ⟨ret_bool HNO.out.symm, hB⟩

theorem pubAll_anyP (l : List UInt8) (A : Option Addr) (len cap : Nat) (w : World) (hlen : l.length = len) (hnc : len ≤ cap) (hcap : cap ≤ 9223372036854775807) (hl : len ≤ 1000000) (hs : Sees w A (vB l)) (ht : TabP w) :
    Calls Tryd.prog 83 #[.slice A len cap, .func (.func 84) #[] #[]] w fun e w' => e = .returned (.bool (pubB l)) ∧ Below w.heap.size w w' := by
  unfold pubB
  cases hb : badS l with
  | none =>
    have hn : (runesS l).length ≤ 17592186044416 := by unfold runesS; rw [List.length_map]; have := stepsS_len l; omega
    have RG : ∀ w1, Below w.heap.size w w1 → Calls Tryd.prog 92 #[.slice A len cap] w1 fun e w' => ∃ A' c', e = .returned (.tuple #[.slice A' (runesS l).length c', .int .i64 0]) ∧ Sees w' A' ((runesS l).map (Value.int .i64)) ∧ Below w.heap.size w w' :=
      fun w1 hB => (runes_any A len cap l hlen hnc hcap (by omega) w1 (hs.below hB)).mono fun e W' ⟨h1, _, hb'⟩ => by
        obtain ⟨v, he, ho⟩ := h1 hb
        obtain ⟨A', c', rfl⟩ := ownsRow_form ho
        exact ⟨A', c', he, sees_own ho, hB.trans (hb'.mono hB.size)⟩
    exact all_good_4 A len cap _ _ (fun x => cls x 4) w rfl hn (fun x w1 hB => pubid_anyP x w1 (ht.below hB)) RG w (Below.refl _ _)
  | some m =>
    have RB : ∀ w1, Below w.heap.size w w1 → Calls Tryd.prog 92 #[.slice A len cap] w1 fun e w' => e = .returned (.tuple #[.slice none 0 0, .int .i64 5]) ∧ Below w.heap.size w w' :=
      fun w1 hB => (runes_any A len cap l hlen hnc hcap (by omega) w1 (hs.below hB)).mono fun e W' ⟨_, h2, hb'⟩ => ⟨h2 (by rw [hb]; simp), hB.trans (hb'.mono hB.size)⟩
    exact all_bad_4 A len cap w RB w (Below.refl _ _)
set_option maxHeartbeats 1000000 in
theorem public1_anyP (s : List UInt8) (w : World) (hs : s.length ≤ 1000000) (ht : TabP w) :
    Calls Tryd.prog 152 #[strV s] w fun e w' => e = .returned (.int .i64 (pubE s)) ∧ Below w.heap.size w w' := by
  obtain ⟨B, cap, W1, hrun, hc1, hc2, hb1, hBl, hBw, hs1⟩ := bytes_made s w hs
  have H := pubAll_anyP s (some ⟨B, 0, none⟩) s.length cap W1 rfl hc1 hc2 hs hs1 (ht.below hb1)
  unfold pubE
  cases hq : pubB s with
  | true =>
    rw [hq] at H
    have HH := Lib.hid H
    rw [if_pos rfl]
    clear H hs1 hq ht
    go_enter Tryd.func152, Tryd.ntmps152
    go_wp2_with fail
    refine HH.out.mono ?_
    rintro e w2 ⟨rfl, hb2⟩
    go_wp2_with fail
    go_ret
    exact ⟨rfl, hb1.trans (hb2.mono hb1.size)⟩
  | false =>
    rw [hq] at H
    have HH := Lib.hid H
    rw [if_neg (by simp)]
    clear H hs1 hq ht
    go_enter Tryd.func152, Tryd.ntmps152
    go_wp2_with fail
    refine HH.out.mono ?_
    rintro e w2 ⟨rfl, hb2⟩
    go_wp2_with fail
    go_ret
    exact ⟨rfl, hb1.trans (hb2.mono hb1.size)⟩
theorem checked_pubP (l : List UInt8) (A : Option Addr) (n c : Nat) (k : Int) (w : World)
    (hn : l.length = n) (hnc : n ≤ c) (hm : c ≤ 9223372036854775807) (hk : I64 k) (hn9 : n ≤ 1000000) (hs : Sees w A (vB l)) (ht : TabP w) :
    Calls Tryd.prog 151 #[.slice A n c, .int .i64 k, .slice (some ⟨w.heap.size, 0, none⟩) 1 1] (w.alloc (.cells #[.func (.func 152) #[] #[]] 126))
      fun e w' => e = .returned (trV (pubT l k)) ∧ Below w.heap.size w w' := by
  obtain ⟨W, hW⟩ : ∃ W, w.alloc (.cells #[.func (.func 152) #[] #[]] 126) = W := ⟨_, rfl⟩
  have hb : Below w.heap.size w W := hW ▸ (Below.refl _ w).alloc (Nat.le_refl _) _
  have hS : Sees W (some ⟨w.heap.size, 0, none⟩) (([(152, #[], pubE)] : List Chk).map chkV) := by
    rw [← hW]
    exact sees_lit w [.func (.func 152) #[] #[]] 126 (0, 0)
  rw [hW]
  have h := checked_any [(152, #[], pubE)] l A (some ⟨w.heap.size, 0, none⟩) n c 1 1 k W hn hnc hm hk hn9 (hs.below hb) rfl (by omega) hS (fun x hx => by
    obtain rfl : x = (152, #[], pubE) := by simpa using hx
    exact ⟨enters_pub, fun s w' hs' hb' => public1_anyP s w' hs' ((ht.below hb).below hb')⟩)
  exact h.mono fun e w' ⟨he, hb'⟩ => ⟨he, hb.trans (hb'.mono hb.size)⟩
set_option maxHeartbeats 1000000 in
theorem litPublic_anyP (l : List UInt8) (A : Option Addr) (n c : Nat) (k : Int) (w : World)
    (hn : l.length = n) (hnc : n ≤ c) (hm : c ≤ 9223372036854775807) (hk : I64 k) (hn9 : n ≤ 1000000) (hs : Sees w A (vB l)) (ht : TabP w) :
    Calls Tryd.prog 121 #[.slice A n c, .int .i64 k] w fun e w' => e = .returned (trV (pubT l k)) ∧ Below w.heap.size w w' := by
  have H := checked_pubP l A n c k w hn hnc hm hk hn9 hs ht
  obtain ⟨s, y, e0, hv⟩ : ∃ s y e, trV (pubT l k) = .tuple #[.string s, .int .i64 y, .int .i64 e] := ⟨_, _, _, rfl⟩
  rw [hv] at H ⊢
  have HH := Lib.hid H
  clear H hv hs ht hn
  go_enter Tryd.func121, Tryd.ntmps121
  go_wp2_with fail
  refine HH.out.mono ?_
  rintro e w1 ⟨rfl, hb⟩
  go_wp2_with fail
  go_ret3
  exact ⟨rfl, hb⟩

end Go.Proofs.YtdmfladcldkmeaaDoor
namespace Go.Proofs.YtdmfladcldkmeaaDoor
open Go.ChangeShapes Go.WideShapes Go.ChangeAt Go.RowKit Go.Maps
set_option linter.unusedVariables false
set_option maxRecDepth 100000

end Go.Proofs.YtdmfladcldkmeaaDoor
namespace Go.Proofs.YtdmfladcldkmeaaDoor
open Go.ChangeShapes Go.WideShapes Go.ChangeAt Go.RowKit Go.Maps
set_option linter.unusedVariables false
set_option maxRecDepth 100000

/-- Where the rest of a row begins. -/
def tailA (A : Option Addr) (c q : Nat) : Option Addr := if c = q then A else A.map (·.add q)
theorem slice_from (W : World) (A : Option Addr) (n c q : Nat) (hq : q ≤ n) : (Instr.slice 36 (.slice A n c) (some (.int .i64 (q : Int))) none none).run Tryd.prog W = .ok (.slice (tailA A c q) (n - q) (c - q)) W := by
  have he : Tryd.prog.elem 36 = 5 := by simp [Program.elem, Tryd.underlying36]
  have hz : ∀ w, (Go.sizeOf 5).run Tryd.prog w = .ok 1 w := fun w => by kernel_rfl
  rw [run_slice_l W 36 _ _ _ (by rw [he]; exact Tryd.underlying36) .i64 _ (by omega) (by omega), he, hz]
  simp [Result.andThen, sliced, tailA]
theorem sees_tail {w : World} {A : Option Addr} {l : List UInt8} {c : Nat} (hs : Sees w A (vB l)) (hl : l.length ≤ c) (q : Nat) : Sees w (tailA A c q) (vB (l.drop q)) := by
  unfold tailA
  rw [vB_drop]
  exact hs.drop (by rw [vB_len]; omega)
/-- A constant's bytes, as a new row shows them. -/
theorem pre_const (l m : List UInt8) (A : Option Addr) (n c k : Nat) (w : World) (B : Nat) (f : Nat × Nat) (hn : l.length = n) (hnc : n ≤ c) (h9 : n ≤ 1000000) (hk : m.length = k) (h0 : 0 < k) (h8 : k ≤ 1000000) (hB : w.heap.size = B) (hs : Sees w A (vB l)) :
    Calls Tryd.prog 66 #[.slice A n c, .slice (some ⟨B, 0, none⟩) k k] (w.alloc (.cells (vB m).toArray 5 f)) fun e w' => e = .returned (.bool (l.take k == m)) ∧ w.alloc (.cells (vB m).toArray 5 f) = w' := by
  subst hB
  exact hasPre_any l m A _ n k c k _ hn hnc h9 hk h0 h8 (hs.below ((Below.refl _ w).alloc (Nat.le_refl _) _)) (sees_lit w (vB m) _ _)
theorem atB_take (l m : List UInt8) (q : Nat) : atB l (q : Int) m = ((l.drop q).take m.length == m) := by
  unfold atB; rw [decide_eq_true (by omega), Int.toNat_natCast]; rfl

/-- A new tag's cells, as every later world shows them. -/
def NewTagP (w W : World) : Prop := ∀ w', Below W.heap.size W w' →
  w'.cell? ⟨w.heap.size, 0, none⟩ = some (.string ⟨#[]⟩) ∧ w'.cell? ⟨w.heap.size, 1, none⟩ = some (.slice none 0 0) ∧ w'.cell? ⟨w.heap.size, 2, none⟩ = some (.bool false) ∧ w'.frozen? ⟨w.heap.size, 0, none⟩ = false ∧ w'.frozen? ⟨w.heap.size, 1, none⟩ = false ∧ w'.frozen? ⟨w.heap.size, 2, none⟩ = false ∧ Below w.heap.size w w'
theorem newTagP (w : World) : NewTagP w (w.alloc (.cells #[.string ⟨#[]⟩, .slice none 0 0, .bool false] 30)) := by
  intro w' hb
  have B0 := (Below.refl w.heap.size w).alloc (Nat.le_refl _) (.cells #[.string ⟨#[]⟩, .slice none 0 0, .bool false] 30)
  refine ⟨(hb.cell (by simp)).trans (by simp [World.cell?_alloc_new]), (hb.cell (by simp)).trans (by simp [World.cell?_alloc_new]), (hb.cell (by simp)).trans (by simp [World.cell?_alloc_new]), (hb.frozen (by simp)).trans (World.frozen?_alloc_new ..), (hb.frozen (by simp)).trans (World.frozen?_alloc_new ..), (hb.frozen (by simp)).trans (World.frozen?_alloc_new ..), B0.trans (hb.mono B0.size)⟩
theorem own_set1 {w : World} {b0 : Nat} {e : TypeId} {size n o : Nat} {v : Value} {xs : List Value} (h : w.ownsRow (b0 + 1) e size v n xs) (u : Value) : (w.setCell ⟨b0, o, none⟩ u).ownsRow (b0 + 1) e size v n xs := by
  refine ⟨h.1, ?_⟩
  rcases h.2 with hn | ⟨g, cap, cur, e1, h1, h2, h3⟩
  · exact .inl hn
  · exact .inr ⟨g, cap, cur, e1, h1, by rw [Below.heap_setCell _ _ _ _ (by simp; omega)]; exact h2, h3⟩

set_option maxHeartbeats 4000000 in
theorem open_any (l : List UInt8) (A : Option Addr) (n c : Nat) (k : Int) (w : World) (hn : l.length = n) (hnc : n ≤ c) (hm : c ≤ 9223372036854775807) (hn9 : n ≤ 1000000) (hk : I64 k) (hs : Sees w A (vB l)) (ht : TabC w) :
    Calls Tryd.prog 21 #[.slice A n c, .int .i64 k] w (OpenPost (openT l k) w) := by
  have hkl := hk.1
  have hkh := hk.2
  have B0 := (Below.refl w.heap.size w).alloc (Nat.le_refl _) (.cells #[.string ⟨#[]⟩, .slice none 0 0, .bool false] 30)
  have NP := Lib.hid (newTagP w)
  have H1 := fun (w' : World) (hb : Below w.heap.size w w') => begin_any l [60] A n c k w' hn hnc hm hn9 hk (by simp) (by simp) (hs.below hb) (ht.toN.below hb)
  -- what an error leaves
  have fin : ∀ (e0 : Int) (W : World), Below w.heap.size w W → W.cell? ⟨w.heap.size, 0, none⟩ = some (.string ⟨#[]⟩) → OpenPost (noG e0) w (.returned (.tuple #[.agg #[.string ⟨#[]⟩, .slice none 0 0, .bool false], .int .i64 0, .int .i64 e0]))
      (((W.setCell ⟨w.heap.size, 0, none⟩ (.string ⟨#[]⟩)).setCell ⟨w.heap.size, 1, none⟩ (.slice none 0 0)).setCell ⟨w.heap.size, 2, none⟩ (.bool false)) := fun e0 W hB _ =>
    ⟨_, rfl, World.ownsRow_nil _ _ _ _, ((hB.setCell (Nat.le_refl _) _).setCell (Nat.le_refl _) _).setCell (Nat.le_refl _) _⟩
  have FIN := Lib.hid fin
  clear fin
  by_cases h0 : (begT l k [60]).2.2 = 0
  rotate_left
  · have hv : openT l k = noG (begT l k [60]).2.2 := by unfold openT; rw [if_pos h0]
    rw [hv]
    rw [begT_err l k _ h0] at H1
    obtain ⟨e0, he0⟩ : ∃ e0, (begT l k [60]).2.2 = e0 := ⟨_, rfl⟩
    rw [he0] at h0 H1 ⊢
    rw [trV_no] at H1
    have K1 := Lib.hid H1
    have t1 : (e0 != 0) = true := by simpa using h0
    clear H1 h0 he0 hs ht hn hv
    go_enter Tryd.func21, Tryd.ntmps21
    go_wp2_with fail
    refine (K1.out _ B0).mono ?_
    rintro e w1 ⟨rfl, hb1⟩
    obtain ⟨x0, x1, x2, v0, v1, v2, B1⟩ := NP.out w1 hb1
    go_wp2_with fail
    (try simp only [Exit.inBlock, Exit.then])
    obtain ⟨c0, c1, c2⟩ := three_cells (.string ⟨#[]⟩) (.slice none 0 0) (.bool false) x0 x1 x2
    refine bodyPost_ret (by simp [results, Tryd.results21, go_sem, c0, c1, c2]; first | rfl | done) rfl (FIN.out e0 w1 B1 x0)
  obtain ⟨s, z, hb, hzl, hsl⟩ := begT_go (by simp) h0
  rw [hb] at H1
  unfold openT
  rw [hb, if_neg (by simp)]
  simp only
  unfold trV at H1
  have K1 := Lib.hid H1
  have H4 := fun (w' : World) (hb : Below w.heap.size w w') => pairs_any l A n c (z : Int) w' hn hnc hm hn9 ⟨by omega, by omega⟩ (hs.below hb) (ht.below hb)
  clear H1 hb h0
  by_cases h5 : (parsT l (z : Int)).2.2 = 0
  rotate_left
  · rw [if_pos h5]
    rw [parsT_err _ _ h5] at H4
    obtain ⟨e0, he0⟩ : ∃ e0, (parsT l (z : Int)).2.2 = e0 := ⟨_, rfl⟩
    rw [he0] at h5 H4 ⊢
    have K4 := Lib.hid H4
    have t1 : (e0 != 0) = true := by simpa using h5
    clear H4 h5 he0 hs ht hn
    go_enter Tryd.func21, Tryd.ntmps21
    go_wp2_with fail
    refine (K1.out _ B0).mono ?_
    rintro e w1 ⟨rfl, hb1⟩
    obtain ⟨x0, x1, x2, v0, v1, v2, B1⟩ := NP.out w1 hb1
    go_wp2_with fail
    refine (K4.out w1 B1).mono ?_
    rintro e w2 ⟨v, rfl, hown, hb2⟩
    obtain ⟨A', c', rfl⟩ := row_slice hown
    clear x0 x1 x2 v0 v1 v2 B1
    obtain ⟨x0, x1, x2, v0, v1, v2, B1⟩ := NP.out w2 (hb1.trans (hb2.mono hb1.size))
    clear hb1 hb2 hown
    go_wp2_with fail
    (try simp only [Exit.inBlock, Exit.then])
    obtain ⟨c0, c1, c2⟩ := three_cells (.string ⟨#[]⟩) (.slice none 0 0) (.bool false) x0 x1 x2
    refine bodyPost_ret (by simp [results, Tryd.results21, go_sem, c0, c1, c2]; first | rfl | done) rfl (FIN.out e0 w2 B1 x0)
  obtain ⟨ps, i, hp, hzi, hil⟩ := parsT_go hzl h5
  rw [hp] at H4 ⊢
  rw [if_neg (by simp)]
  simp only [Int.toNat_natCast]
  have hbl := blkN_le l l.length i hil
  have H5 := fun (w' : World) (hb : Below w.heap.size w w') => blanks_any l A n c (i : Int) w' hn hnc (by omega) ⟨by omega, by omega⟩ (hs.below hb)
  rw [blkV_in hil] at H5
  obtain ⟨q, hqq⟩ : ∃ q, blkN l l.length i = q := ⟨_, rfl⟩
  rw [hqq] at H5 hbl ⊢
  have hqn : q ≤ n := by omega
  have K4 := Lib.hid H4
  have K5 := Lib.hid H5
  have HSL := fun (W : World) => slice_from W A n c q hqn
  obtain ⟨A2, hA2⟩ : ∃ A2, tailA A c q = A2 := ⟨_, rfl⟩
  rw [hA2] at HSL
  have H6 := fun (w' : World) (hb : Below w.heap.size w w') (B : Nat) (hB : w'.heap.size = B) => pre_const (l.drop q) [47, 62] A2 (n - q) (c - q) 2 w' B (2, 3) (by rw [List.length_drop, hn]) (by omega) (by omega) rfl (by omega) (by omega) hB (hA2 ▸ sees_tail (hs.below hb) (by omega) q)
  have H7 := fun (w' : World) (hb : Below w.heap.size w w') (B : Nat) (hB : w'.heap.size = B) => pre_const (l.drop q) [62] A2 (n - q) (c - q) 1 w' B (1, 2) (by rw [List.length_drop, hn]) (by omega) (by omega) rfl (by omega) (by omega) hB (hA2 ▸ sees_tail (hs.below hb) (by omega) q)
  have kc := fun (w : World) (C : Array Value) (n c : Nat) => Lib.run_convert_bytes_const (P := Tryd.prog) w 36 5 C n c Tryd.underlying36 Tryd.underlying5
  have e6 := atB_take l [47, 62] q
  have e7 := atB_take l [62] q
  rw [show ([47, 62] : List UInt8).length = 2 from rfl] at e6
  rw [show ([62] : List UInt8).length = 1 from rfl] at e7
  rw [← e6] at H6
  rw [← e7] at H7
  unfold tailT
  clear H4 H5 hp h5 hqq hbl hs ht hn hzi hil hzl hA2 e6 e7
  have NAL : ∀ (W : World) (o : Obj), Below w.heap.size w W → Below w.heap.size w (W.alloc o) := fun W o h => h.alloc h.size o
  cases h6 : atB l (q : Int) [47, 62] with
  | true =>
    rw [h6] at H6
    have K6 := Lib.hid H6
    rw [if_pos rfl]
    clear H6 H7 h6
    go_enter Tryd.func21, Tryd.ntmps21
    go_wp2_with fail
    refine (K1.out _ B0).mono ?_
    rintro e w1 ⟨rfl, hb1⟩
    obtain ⟨x0, x1, x2, v0, v1, v2, B1⟩ := NP.out w1 hb1
    go_wp2_with fail
    refine (K4.out w1 B1).mono ?_
    rintro e w2 ⟨v, rfl, hown, hb2⟩
    obtain ⟨A', c', rfl⟩ := row_slice hown
    have hw1 : w.heap.size + 1 ≤ w1.heap.size := by have h9 := hb1.size; simp at h9; omega
    have HO := Lib.hid (q_base hown hw1)
    clear x0 x1 x2 v0 v1 v2 B1
    have hb12 := hb1.trans (hb2.mono hb1.size)
    obtain ⟨x0, x1, x2, v0, v1, v2, B1⟩ := NP.out w2 hb12
    clear hb1 hb2 hown
    go_wp2_with fail
    refine (K5.out w2 B1).mono ?_
    rintro e w3 ⟨rfl, rfl⟩
    go_wp2_with fail
    have hb13 := hb12.alloc hb12.size (.cells (vB [47, 62]).toArray 5 (2, 3))
    clear x0 x1 x2 v0 v1 v2
    refine (K6.out w2 B1 _ rfl).mono ?_
    rintro e w3 ⟨rfl, rfl⟩
    obtain ⟨x0, x1, x2, v0, v1, v2, B3⟩ := NP.out _ hb13
    go_wp2_with fail
    (try simp only [Exit.inBlock, Exit.then])
    obtain ⟨c0, c1, c2⟩ := three_cells (strV s) (.slice A' ps.length c') (.bool true) x0 x1 x2
    refine bodyPost_ret (by simp [results, Tryd.results21, go_sem, c0, c1, c2]; first | rfl | done) rfl ?_
    refine ⟨_, rfl, ?_, ((B3.setCell (Nat.le_refl _) _).setCell (Nat.le_refl _) _).setCell (Nat.le_refl _) _⟩
    exact q_base (own_set1 (own_set1 (own_set1 (HO.out.alloc _) _) _) _) (Nat.le_succ _)
  | false =>
    rw [h6] at H6
    have K6 := Lib.hid H6
    rw [if_neg (by simp)]
    cases h7 : atB l (q : Int) [62] with
    | true =>
      rw [h7] at H7
      have K7 := Lib.hid H7
      rw [if_pos rfl]
      clear H6 H7 h6 h7
      go_enter Tryd.func21, Tryd.ntmps21
      go_wp2_with fail
      refine (K1.out _ B0).mono ?_
      rintro e w1 ⟨rfl, hb1⟩
      obtain ⟨x0, x1, x2, v0, v1, v2, B1⟩ := NP.out w1 hb1
      go_wp2_with fail
      refine (K4.out w1 B1).mono ?_
      rintro e w2 ⟨v, rfl, hown, hb2⟩
      obtain ⟨A', c', rfl⟩ := row_slice hown
      have hw1 : w.heap.size + 1 ≤ w1.heap.size := by have h9 := hb1.size; simp at h9; omega
      have HO := Lib.hid (q_base hown hw1)
      clear x0 x1 x2 v0 v1 v2 B1
      have hb12 := hb1.trans (hb2.mono hb1.size)
      obtain ⟨x0, x1, x2, v0, v1, v2, B1⟩ := NP.out w2 hb12
      clear hb1 hb2 hown
      go_wp2_with fail
      refine (K5.out w2 B1).mono ?_
      rintro e w3 ⟨rfl, rfl⟩
      go_wp2_with fail
      have hb13 := hb12.alloc hb12.size (.cells (vB [47, 62]).toArray 5 (2, 3))
      have C3 := NAL _ (.cells (vB [47, 62]).toArray 5 (2, 3)) B1
      have HO3 := HO.out.alloc (.cells (vB [47, 62]).toArray 5 (2, 3))
      clear x0 x1 x2 v0 v1 v2
      refine (K6.out w2 B1 _ rfl).mono ?_
      rintro e w3 ⟨rfl, hw3⟩
      rw [hw3] at hb13 C3 HO3
      have hb14 := hb13.alloc hb13.size (.cells (vB [62]).toArray 5 (1, 2))
      have HO4 := Lib.hid HO3
      clear hw3 HO3
      go_wp2_with fail
      refine (K7.out w3 C3 _ rfl).mono ?_
      rintro e w4 ⟨rfl, rfl⟩
      obtain ⟨x0, x1, x2, v0, v1, v2, B3⟩ := NP.out _ hb14
      go_wp2_with fail
      (try simp only [Exit.inBlock, Exit.then])
      obtain ⟨c0, c1, c2⟩ := three_cells (strV s) (.slice A' ps.length c') (.bool false) x0 x1 x2
      refine bodyPost_ret (by simp [results, Tryd.results21, go_sem, c0, c1, c2]; first | rfl | done) rfl ?_
      refine ⟨_, rfl, ?_, ((B3.setCell (Nat.le_refl _) _).setCell (Nat.le_refl _) _).setCell (Nat.le_refl _) _⟩
      exact q_base (own_set1 (own_set1 (own_set1 (HO4.out.alloc _) _) _) _) (Nat.le_succ _)
    | false =>
      rw [h7] at H7
      have K7 := Lib.hid H7
      rw [if_neg (by simp)]
      clear H6 H7 h6 h7
      go_enter Tryd.func21, Tryd.ntmps21
      go_wp2_with fail
      refine (K1.out _ B0).mono ?_
      rintro e w1 ⟨rfl, hb1⟩
      obtain ⟨x0, x1, x2, v0, v1, v2, B1⟩ := NP.out w1 hb1
      go_wp2_with fail
      refine (K4.out w1 B1).mono ?_
      rintro e w2 ⟨v, rfl, hown, hb2⟩
      obtain ⟨A', c', rfl⟩ := row_slice hown
      clear x0 x1 x2 v0 v1 v2 B1
      have hb12 := hb1.trans (hb2.mono hb1.size)
      obtain ⟨x0, x1, x2, v0, v1, v2, B1⟩ := NP.out w2 hb12
      clear hb1 hb2 hown
      go_wp2_with fail
      refine (K5.out w2 B1).mono ?_
      rintro e w3 ⟨rfl, rfl⟩
      go_wp2_with fail
      have hb13 := hb12.alloc hb12.size (.cells (vB [47, 62]).toArray 5 (2, 3))
      have C3 := NAL _ (.cells (vB [47, 62]).toArray 5 (2, 3)) B1
      clear x0 x1 x2 v0 v1 v2
      refine (K6.out w2 B1 _ rfl).mono ?_
      rintro e w3 ⟨rfl, hw3⟩
      rw [hw3] at hb13 C3
      have hb14 := hb13.alloc hb13.size (.cells (vB [62]).toArray 5 (1, 2))
      clear hw3
      go_wp2_with fail
      refine (K7.out w3 C3 _ rfl).mono ?_
      rintro e w4 ⟨rfl, rfl⟩
      obtain ⟨x0, x1, x2, v0, v1, v2, B3⟩ := NP.out _ hb14
      go_wp2_with fail
      (try simp only [Exit.inBlock, Exit.then])
      obtain ⟨c0, c1, c2⟩ := three_cells (.string ⟨#[]⟩) (.slice none 0 0) (.bool false) x0 x1 x2
      refine bodyPost_ret (by simp [results, Tryd.results21, go_sem, c0, c1, c2]; first | rfl | done) rfl (FIN.out 7 _ B3 x0)
end Go.Proofs.YtdmfladcldkmeaaDoor
namespace Go.Proofs.YtdmfladcldkmeaaDoor
open Go.ChangeShapes Go.WideShapes Go.ChangeAt Go.RowKit
set_option linter.unusedVariables false
set_option maxRecDepth 100000

theorem bbT_tup (f : List UInt8 → Int → Trip) (l : List UInt8) (i : Nat) : ∃ s y e, bbT f l i = (s, y, e) := ⟨_, _, _, rfl⟩
set_option maxHeartbeats 2000000 in
theorem bb_any (F : Nat) (f : List UInt8 → Int → Trip) (l : List UInt8) (A : Option Addr) (n c i : Nat) (w : World) (hn : l.length = n) (hnc : n ≤ c) (hn9 : n ≤ 1000000) (hi : i ≤ n) (hs : Sees w A (vB l)) (hF : Enters F)
    (TF : ∀ (w' : World) (k : Nat), Below w.heap.size w w' → k ≤ n → Calls Tryd.prog F #[.slice A n c, .int .i64 (k : Int)] w' fun e w'' => e = .returned (trV (f l (k : Int))) ∧ Below w'.heap.size w' w'') :
    Calls Tryd.prog 78 #[.slice A n c, .int .i64 (i : Int), .func (.func F) #[] #[]] w fun e w' => e = .returned (trV (bbT f l i)) ∧ Below w.heap.size w w' := by
  have hF' : ∀ args w, (callFunc F args).run Tryd.prog w = .ok (.enter F args) w := hF
  have hbl := blkN_le l l.length i (by omega)
  have H1 := fun (w' : World) (hb : Below w.heap.size w w') => blanks_any l A n c (i : Int) w' hn hnc (by omega) ⟨by omega, by omega⟩ (hs.below hb)
  rw [blkV_in (by omega)] at H1
  unfold bbT
  obtain ⟨q, hqq⟩ : ∃ q, blkN l l.length i = q := ⟨_, rfl⟩
  rw [hqq] at H1 hbl ⊢
  have K1 := Lib.hid H1
  by_cases hq : q = i
  · rw [if_pos hq, trV_no]
    subst hq
    clear H1 hs TF hqq hn
    go_enter Tryd.func78, Tryd.ntmps78
    go_wp2_with fail
    refine (K1.out w (Below.refl _ _)).mono ?_
    rintro e w1 ⟨rfl, rfl⟩
    go_wp2_with fail
    go_ret3
    exact ⟨rfl, Below.refl _ _⟩
  · rw [if_neg hq]
    have H2 := TF w q (Below.refl _ _) (by omega)
    obtain ⟨s, y, e0, hv⟩ : ∃ s y e, f l (q : Int) = (s, y, e) := ⟨_, _, _, rfl⟩
    rw [hv] at H2 ⊢
    unfold trV at H2 ⊢
    simp only at H2 ⊢
    have K2 := Lib.hid H2
    have t1 : ((q : Int) == (i : Int)) = false := by rw [beq_eq_false_iff_ne]; omega
    clear H1 H2 hs TF hqq hn hv hq
    go_enter Tryd.func78, Tryd.ntmps78
    go_wp2_with fail
    refine (K1.out w (Below.refl _ _)).mono ?_
    rintro e w1 ⟨rfl, rfl⟩
    go_wp2_with fail
    refine K2.out.mono ?_
    rintro e w1 ⟨rfl, hb⟩
    go_wp2_with fail
    go_ret3
    exact ⟨rfl, hb⟩
/-- With which of two words bytes begin. -/
def wordT (l : List UInt8) : List UInt8 := if l.take 6 == sysW then sysW else if l.take 6 == pubW then pubW else []
def wordN (k : Nat) : List UInt8 := if k = 0 then sysW else pubW
def WRel (l : List UInt8) (w : World) (i : Value) (wr : World) : Prop := ∃ k : Nat, k ≤ 2 ∧ i = .int .i64 k ∧ (1 ≤ k → (l.take 6 == sysW) = false) ∧ (2 ≤ k → (l.take 6 == pubW) = false) ∧ Below (w.heap.size + 1) (w.alloc (.cells #[strV sysW, strV pubW] 9)) wr
theorem WRel_mk {l : List UInt8} {w wr : World} (k : Nat) (h : k ≤ 2) (h1 : 1 ≤ k → (l.take 6 == sysW) = false) (h2 : 2 ≤ k → (l.take 6 == pubW) = false) (h3 : Below (w.heap.size + 1) (w.alloc (.cells #[strV sysW, strV pubW] 9)) wr) : WRel l w (.int .i64 k) wr := ⟨k, h, rfl, h1, h2, h3⟩
set_option maxHeartbeats 4000000 in
theorem word_any (l : List UInt8) (A : Option Addr) (n c : Nat) (w : World) (hn : l.length = n) (hnc : n ≤ c) (hn9 : n ≤ 1000000) (hs : Sees w A (vB l)) :
    Calls Tryd.prog 120 #[.slice A n c] w fun e w' => e = .returned (strV (wordT l)) ∧ Below w.heap.size w w' := by
  have HS := Lib.hid (fun (w' : World) (hb : Below w.heap.size w w') => hs.below hb)
  have HN := Lib.hid hn
  have HP := Lib.hid (fun (m : List UInt8) (B : Nat) (cap : Nat) (w' : World) (hm : m.length = 6) (hb : Below w.heap.size w w') (h1 : Sees w' (some ⟨B, 0, none⟩) (vB m)) => hasPre_any l m A (some ⟨B, 0, none⟩) n 6 c cap w' hn hnc hn9 hm (by omega) (by omega) (hs.below hb) h1)
  have B0 := (Below.refl w.heap.size w).alloc (Nat.le_refl _) (.cells #[strV sysW, strV pubW] 9)
  have HC := Lib.hid (fun (w' : World) (h : Below (w.heap.size + 1) (w.alloc (.cells #[strV sysW, strV pubW] 9)) w') => pr_block w w' sysW pubW 9 _ rfl h)
  clear hs hn
  obtain ⟨R, hR⟩ : ∃ R, wordT l = R := ⟨_, rfl⟩
  have HR := Lib.hid hR
  rw [hR]
  clear hR
  go_enter Tryd.func120, Tryd.ntmps120
  go_wp2_with fail
  go_loopw [7] (fun i wr => WRel l w i wr) (fun i _ => 2 - (intOf i).toNat)
  case atStart => exact WRel_mk 0 (by omega) (by omega) (by omega) (Below.refl _ _)
  case round =>
    obtain ⟨k, hk, rfl, h1, h2, hB⟩ := hrel
    obtain ⟨y0, y1⟩ := HC.out wr hB
    have hB0 := B0.trans (hB.mono (Nat.le_succ _))
    obtain rfl | rfl | rfl : k = 0 ∨ k = 1 ∨ k = 2 := by omega
    · obtain ⟨B, cap, W1, hrun, hc1, hc2, hb1, hBl, hBw, hs1⟩ := bytes_made sysW wr (by simp [sysW])
      have hp := HP.out sysW B cap W1 rfl (hB0.trans (hb1.mono hB0.size)) hs1
      have hrun' : (convert 9 36 (.string ⟨(sysW).toArray⟩)).run Tryd.prog wr = .ok (.slice (some ⟨B, 0, none⟩) 6 cap) W1 := hrun
      obtain ⟨q, hq⟩ : ∃ q, (l.take 6 == sysW) = q := ⟨_, rfl⟩
      rw [hq] at hp
      have KP := Lib.hid hp
      have HQ := Lib.hid hq
      have hB1 := Lib.hid (hB0.trans (hb1.mono hB0.size))
      have hB2 := Lib.hid (hB.trans (hb1.mono (by have := hB.size; simpa using this)))
      clear hp hq hs1 hb1 hrun
      cases q with
      | true =>
        go_wp2_with fail
        refine KP.out.mono ?_
        rintro e w2 ⟨rfl, rfl⟩
        go_wp2_with fail
        go_ret
        exact ⟨by rw [← HR.out]; unfold wordT; rw [HQ.out]; rfl, hB1.out⟩
      | false =>
        go_wp2_with fail
        refine KP.out.mono ?_
        rintro e w2 ⟨rfl, rfl⟩
        go_wp2_with fail
        go_roundw
        case rel => exact WRel_mk 1 (by omega) (fun _ => HQ.out) (fun h => absurd h (by omega)) hB2.out
        case measure => simp [intOf]
    · have HK := Lib.hid (h1 (by omega))
      obtain ⟨B, cap, W1, hrun, hc1, hc2, hb1, hBl, hBw, hs1⟩ := bytes_made pubW wr (by simp [pubW])
      have hp := HP.out pubW B cap W1 rfl (hB0.trans (hb1.mono hB0.size)) hs1
      have hrun' : (convert 9 36 (.string ⟨(pubW).toArray⟩)).run Tryd.prog wr = .ok (.slice (some ⟨B, 0, none⟩) 6 cap) W1 := hrun
      obtain ⟨q, hq⟩ : ∃ q, (l.take 6 == pubW) = q := ⟨_, rfl⟩
      rw [hq] at hp
      have KP := Lib.hid hp
      have HQ := Lib.hid hq
      have hB1 := Lib.hid (hB0.trans (hb1.mono hB0.size))
      have hB2 := Lib.hid (hB.trans (hb1.mono (by have := hB.size; simpa using this)))
      clear hp hq hs1 hb1 hrun
      cases q with
      | true =>
        go_wp2_with fail
        refine KP.out.mono ?_
        rintro e w2 ⟨rfl, rfl⟩
        go_wp2_with fail
        go_ret
        exact ⟨by rw [← HR.out]; unfold wordT; rw [HK.out, HQ.out]; rfl, hB1.out⟩
      | false =>
        go_wp2_with fail
        refine KP.out.mono ?_
        rintro e w2 ⟨rfl, rfl⟩
        go_wp2_with fail
        go_roundw
        case rel => exact WRel_mk 2 (by omega) (fun _ => HK.out) (fun h => HQ.out) hB2.out
        case measure => simp [intOf]
    · have HK1 := Lib.hid (h1 (by omega))
      have HK2 := Lib.hid (h2 (by omega))
      go_wp2_with fail
      go_ret
      exact ⟨by rw [← HR.out]; unfold wordT; rw [HK1.out, HK2.out]; rfl, hB0⟩
/-- The word at a place. -/
theorem word_at (l : List UInt8) (j : Nat) : (atB l (j : Int) sysW = true → wordT (l.drop j) = sysW) ∧ (atB l (j : Int) sysW = false → atB l (j : Int) pubW = true → wordT (l.drop j) = pubW) ∧ (atB l (j : Int) sysW = false → atB l (j : Int) pubW = false → wordT (l.drop j) = []) := by
  have e1 : atB l (j : Int) sysW = ((l.drop j).take 6 == sysW) := atB_take l sysW j
  have e2 : atB l (j : Int) pubW = ((l.drop j).take 6 == pubW) := atB_take l pubW j
  rw [e1, e2]
  unfold wordT
  exact ⟨fun h => by rw [if_pos h], fun h h' => by rw [if_neg (by rw [h]; simp), if_pos h'], fun h h' => by rw [if_neg (by rw [h]; simp), if_neg (by rw [h']; simp)]⟩
end Go.Proofs.YtdmfladcldkmeaaDoor
