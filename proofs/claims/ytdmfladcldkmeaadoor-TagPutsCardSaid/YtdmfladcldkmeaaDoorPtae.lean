/- What keeps a tag from being written, by the document (first half). What keeps a tag from being written, by the document. A tag that begins an element, as the document has it. A tag that begins an element, by the program. Tags: the page's example; the walk of TagReads. Bytes of a row that is read. TagPuts: what a tag told is (pure), and the ways on which it can't be written. -/
import Derived.Lib.SlBytesConst
import Derived.Lib.BufferRead
import Derived.Test.YtdmfladcldkmeaaDoorUtfD
import Derived.Test.YtdmfladcldkmeaaDoorPtaa
import Derived.Test.YtdmfladcldkmeaaDoorPtac
import Derived.Test.YtdmfladcldkmeaaDoorPtad
namespace Go.Proofs.YtdmfladcldkmeaaDoor
open Go.ChangeShapes Go.WideShapes Go.ChangeAt Go.RowKit Go.Maps
set_option linter.unusedVariables false
set_option maxRecDepth 100000

/-- A row of strings. -/
def vS (l : List (List UInt8)) : List Value := l.map strV
theorem vS_len (l : List (List UInt8)) : (vS l).length = l.length := by unfold vS; simp
theorem vS_one (l : List (List UInt8)) : ∀ u ∈ vS l, u.oneCell' = true := by
  intro u hu
  unfold vS at hu
  simp only [List.mem_map] at hu
  obtain ⟨c, _, rfl⟩ := hu
  rfl
theorem vS_snoc (l : List (List UInt8)) (x : List UInt8) : vS (l ++ [x]) = vS l ++ vS [x] := by unfold vS; simp
theorem s_form {w : World} {base : Nat} {e : TypeId} {n : Nat} {v : Value} {l : List (List UInt8)} (h : w.ownsRow base e 1 v n (vS l)) (h0 : 0 < n) :
    ∃ g cp, v = .slice (some ⟨g, 0, none⟩) n cp ∧ base ≤ g ∧ g < w.heap.size ∧ n ≤ cp ∧ ∀ k x, l[k]? = some x → w.cell? ⟨g, k, none⟩ = some (strV x) := by
  rcases h.2 with ⟨_, h1⟩ | ⟨g, cap, cur, rfl, h2, h3, h4, _⟩
  · omega
  · refine ⟨g, cap, rfl, h2, (Array.getElem?_eq_some_iff.1 h3).1, h4, fun k x hx => ?_⟩
    have hc := h.cells (g := g) rfl
    have ha : (⟨g, 0, none⟩ : Addr).add k = ⟨g, k, none⟩ := by
      unfold Addr.add; split
      · next h0 => rw [h0]
      · simp
    have e1 := hc k (strV x) (by unfold vS; rw [List.getElem?_map, hx]; rfl)
    rwa [ha] at e1
theorem s_new (w : World) (x : Value) (t : TypeId) (base : Nat) (hb : base ≤ w.heap.size) : (w.alloc (.cells #[x] t)).ownsRow base t 1 (.slice (some ⟨w.heap.size, 0, none⟩) 1 1) 1 [x] :=
  ⟨rfl, .inr ⟨w.heap.size, 1, #[x], rfl, hb, by unfold World.alloc; simp, Nat.le_refl _, by unfold maxLen; omega, rfl, rfl⟩⟩
theorem strInfoT : (Tryd.prog.info? 9).map (fun i => (i.zero, i.size, i.bytes)) = some (some (.string ⟨#[]⟩), 1, 16) := by kernel_rfl
/-- The names of a tag and of its first k attributes. -/
def nmsK (s : List UInt8) (ps : Prs) (k : Nat) : List (List UInt8) := s :: (ps.take k).map Prod.fst
theorem nmsK_next {s : List UInt8} {ps : Prs} {k : Nat} {p : List UInt8 × List UInt8} (hp : ps[k]? = some p) : nmsK s ps (k + 1) = nmsK s ps k ++ [p.1] := by
  unfold nmsK
  rw [List.take_add_one, hp]
  simp
theorem nmsK_len (s : List UInt8) (ps : Prs) (k : Nat) (hk : k ≤ ps.length) : (nmsK s ps k).length = k + 1 := by
  unfold nmsK
  rw [List.length_cons, List.length_map, List.length_take]
  omega
set_option maxHeartbeats 2000000 in
theorem rhasS_any (ps : Prs) (s : List UInt8) (A : Option Addr) (n c : Nat) (w : World) (hn : ps.length = n) (hn9 : n ≤ 1000000) (hs : Sees w A (vQ ps)) :
    Calls Tryd.prog 61 #[.slice A n c, strV s] w fun e w' => e = .returned (.bool (hasN ps s)) ∧ w = w' := by
  have HS := Lib.hid hs
  have HN := Lib.hid hn
  clear hs hn
  go_enter Tryd.func61, Tryd.ntmps61
  go_wp2_with fail
  go_loopw [5] (fun i wr => ∃ k : Nat, i = .int .i64 k ∧ k ≤ n ∧ Hid (hasN (ps.take k) s = false) ∧ wr = w) (fun i _ => n - (intOf i).toNat)
  case atStart => exact ⟨0, rfl, Nat.zero_le _, Lib.hid rfl, rfl⟩
  case round =>
    obtain ⟨k, rfl, hk, hno, rfl⟩ := hrel
    by_cases hlt : k < n
    · obtain ⟨p, hp⟩ : ∃ p, ps[k]? = some p := ⟨_, List.getElem?_eq_getElem (by rw [HN.out]; exact hlt)⟩
      obtain ⟨a1, rfl, hcell, _⟩ := HS.out.pair hp
      have HT := Lib.hid (hasN_take hp hno.out)
      clear hp
      cases hpq : (p.1 == s) with
      | true =>
        rw [hpq] at HT
        have HV := Lib.hid (hasN_yes HT.out)
        unfold strV at hcell
        go_wp2_with fail
        go_ret
        exact ⟨by rw [HV.out]; rfl, rfl⟩
      | false =>
        rw [hpq] at HT
        unfold strV at hcell
        go_wp2_with fail
        go_roundw
        case rel => exact ⟨k + 1, by go_num, by omega, HT, trivial⟩
        case measure => simp [intOf]; omega
    · have hv : hasN ps s = false := by
        have h1 := hno.out
        rwa [List.take_of_length_le (by rw [HN.out]; omega)] at h1
      have HV := Lib.hid hv
      clear hv
      go_wp2_with fail
      go_ret
      exact ⟨by rw [HV.out]; rfl, rfl⟩
/-- A part of a row of attributes. -/
theorem seesTake {w : World} {A : Option Addr} {ps : Prs} (h : Sees w A (vQ ps)) (k : Nat) : Sees w A (vQ (ps.take k)) := by
  intro h0
  have e : vQ ps = vQ (ps.take k) ++ vQ (ps.drop k) := by rw [← vQ_append, List.take_append_drop]
  obtain ⟨ad, e1, hc⟩ := h (by rw [e]; simp [h0])
  exact ⟨ad, e1, fun j u hu => hc j u (by rw [e, List.getElem?_append_left (List.getElem?_eq_some_iff.1 hu).1]; exact hu)⟩
/-- A malformed value. -/
def badV (v : List UInt8) : Bool := decide (refsE v ≠ 0) || (decide (0 ≤ Lib.indexByte v (UInt8.ofNat 60)) || decide (0 ≤ Lib.indexByte v (UInt8.ofNat 34)))
theorem any_or (l : Prs) (f g h : List UInt8 × List UInt8 → Bool) : l.any (fun p => f p || (g p || h p)) = (l.any g || l.any fun p => f p || h p) := by
  induction l with
  | nil => rfl
  | cons a t ih =>
    rw [List.any_cons, List.any_cons, List.any_cons, ih]
    cases f a <;> cases g a <;> cases h a <;> simp
theorem badV_eq (v : List UInt8) : badV v = (decide (refsE v ≠ 0) || Lib.containsAny v [60, 34]) := by
  unfold badV
  congr 1
  rw [cany_iff, show UInt8.ofNat 60 = 60 from rfl, show UInt8.ofNat 34 = 34 from rfl, ← Lib.contains_iff_indexByte, ← Lib.contains_iff_indexByte]
  induction v with
  | nil => rfl
  | cons a t ih =>
    rw [List.any_cons, ← ih, List.contains_cons, List.contains_cons, BEq.comm (a := (60 : UInt8)), BEq.comm (a := (34 : UInt8))]
    cases (a == 60) <;> cases (a == 34) <;> cases t.contains (60 : UInt8) <;> cases t.contains (34 : UInt8) <;> rfl
theorem malK_split (s : List UInt8) (ps : Prs) : malK s ps ps.length = ((nmsK s ps ps.length).any (fun x => !(wholeB x startN charN)) || ps.any fun p => badV p.2) := by
  unfold malK nmsK
  rw [List.take_length, List.any_cons, List.any_map, Bool.or_assoc]
  congr 1
  rw [show (fun p : List UInt8 × List UInt8 => badV p.2) = fun p => decide (refsE p.2 ≠ 0) || Lib.containsAny p.2 [60, 34] from funext fun p => badV_eq p.2]
  exact any_or ps _ _ _
theorem longK_split (s : List UInt8) (ps : Prs) : longK s ps ps.length = (nmsK s ps ps.length).any fun x => decide (1024 < x.length) := by
  unfold longK nmsK
  rw [List.take_length, List.any_cons, List.any_map]
  rfl
end Go.Proofs.YtdmfladcldkmeaaDoor
namespace Go.Proofs.YtdmfladcldkmeaaDoor
open Go.ChangeShapes Go.WideShapes Go.ChangeAt Go.RowKit Go.Maps
set_option linter.unusedVariables false
set_option maxRecDepth 100000

def C1Rel (ps : Prs) (B : Nat) (WA : World) (e i : Value) (wr : World) : Prop := ∃ (k : Nat) (z : Int), k ≤ ps.length ∧ i = .int .i64 k ∧ e = .int .i64 z ∧ z = (if dupK ps k then 12 else 0) ∧ Below B WA wr
theorem C1Rel_mk {ps : Prs} {B : Nat} {WA wr : World} {z : Int} (k : Nat) (h1 : k ≤ ps.length) (h2 : z = if dupK ps k then 12 else 0) (h3 : Below B WA wr) : C1Rel ps B WA (.int .i64 z) (.int .i64 k) wr := ⟨k, z, h1, rfl, rfl, h2, h3⟩
def C2Rel (s : List UInt8) (ps : Prs) (B G : Nat) (WA : World) (v i : Value) (wr : World) : Prop := ∃ k : Nat, k ≤ ps.length ∧ i = .int .i64 k ∧ wr.ownsRow G 9 1 v (k + 1) (vS (nmsK s ps k)) ∧ Below B WA wr ∧ G ≤ wr.heap.size
theorem C2Rel_mk {s : List UInt8} {ps : Prs} {B G : Nat} {WA wr : World} {v : Value} (k : Nat) (h1 : k ≤ ps.length) (h2 : wr.ownsRow G 9 1 v (k + 1) (vS (nmsK s ps k))) (h3 : Below B WA wr) (h4 : G ≤ wr.heap.size) : C2Rel s ps B G WA v (.int .i64 k) wr := ⟨k, h1, rfl, h2, h3, h4⟩
set_option maxHeartbeats 8000000 in
theorem rcheck10_any (s : List UInt8) (ps : Prs) (e : Bool) (A : Option Addr) (n c : Nat) (w : World) (hn : ps.length = n) (hnc : n ≤ c) (hn9 : n ≤ 1000) (hsl : s.length ≤ 2000) (hpl : ∀ p ∈ ps, p.1.length ≤ 2000 ∧ p.2.length ≤ 2000) (hs : Sees w A (vQ ps)) (ht : TabN w) :
    Calls Tryd.prog 19 #[.agg #[strV s, .slice A n c, .bool e]] w fun e1 w' => e1 = .returned (.int .i64 (faultT s ps)) ∧ Below w.heap.size w w' := by
  have B0 := (Below.refl w.heap.size w).alloc (Nat.le_refl _) (.cells #[strV s, .slice A n c, .bool e] 24)
  obtain ⟨WA, hWA⟩ : ∃ WA, w.alloc (.cells #[strV s, .slice A n c, .bool e] 24) = WA := ⟨_, rfl⟩
  have T0 := Lib.hid (show Tri WA w.heap.size (strV s) (.slice A n c) (.bool e) 24 from hWA ▸ Tri.new w (strV s) (.slice A n c) (.bool e) 24 _ rfl)
  have hz0 : WA.heap.size = w.heap.size + 1 := by rw [← hWA]; simp
  rw [hWA] at B0
  have HN := Lib.hid hn
  have HS := Lib.hid (fun (W' : World) (hb : Below w.heap.size w W') => hs.below hb)
  have KT := Lib.hid (fun (W' : World) (hb : Below w.heap.size w W') => ht.below hb)
  have HB0 := Lib.hid B0
  have HWA := Lib.hid hWA
  have HPL := Lib.hid hpl
  have HZ0 := Lib.hid hz0
  have KG := Lib.hid (fun (W' : World) (hb : Below (w.heap.size + 1) WA W') => B0.trans (hb.mono (Nat.le_succ _)))
  have KC := Lib.hid (fun (W' : World) (hb : Below (w.heap.size + 1) WA W') => T0.out.low hb (Nat.lt_succ_self _))
  have z0 := str_size s
  obtain ⟨V, hV⟩ : ∃ V, faultT s ps = V := ⟨_, rfl⟩
  have HV := Lib.hid hV
  have HLEN := Lib.hid (nmsK_len s ps)
  rw [hV]
  clear hn hs ht B0 hWA hpl hz0 hV
  go_enter Tryd.func19, Tryd.ntmps19
  go_wp2_with fail
  rw [HWA.out]
  go_loopw [3, 4] (fun e i wr => C1Rel ps (w.heap.size + 1) WA e i wr) (fun _ i _ => n - (intOf i).toNat)
  case atStart => exact C1Rel_mk 0 (Nat.zero_le _) rfl (Below.refl _ _)
  case round =>
    obtain ⟨k, z, hk, rfl, rfl, hz, hG⟩ := hrel
    rw [HN.out] at hk
    obtain ⟨t0, t1, t2⟩ := (KC.out _ hG).at
    have HZ := Lib.hid hz
    have HG := Lib.hid hG
    by_cases hlt : k < n
    · obtain ⟨p, hp⟩ : ∃ p, ps[k]? = some p := ⟨_, List.getElem?_eq_getElem (by rw [HN.out]; exact hlt)⟩
      have hS := HS.out wr (KG.out _ hG)
      obtain ⟨a1, rfl, h1, h2⟩ := hS.pair hp
      have HD := Lib.hid (dupK_next hp)
      have hpp := HPL.out p (List.mem_of_getElem? hp)
      obtain ⟨x, y⟩ := p
      simp only at hpp
      have z1 := str_size x
      obtain ⟨hv, hhv⟩ : ∃ hv, hasN (ps.take k) x = hv := ⟨_, rfl⟩
      have hQ := fun m => quiet_l (rhasS_any (ps.take k) x (some a1) k c (wr.drewN m) (by rw [List.length_take, HN.out]; omega) (by omega) ((seesTake hS k).drewN m))
      rw [hhv] at hQ
      have HQ := Lib.hid hQ
      have HHV := Lib.hid hhv
      unfold strV at h1 h2
      simp only at h1 h2
      have i1 : (k : Int) < (n : Int) := by omega
      clear hp hS hQ hhv hG hz
      cases hv
      all_goals
        go_wp2_with fail
        go_quiet ((go_at_call 61; exact HQ.out _))
        go_wp2_with fail
        go_roundw
        case rel => exact C1Rel_mk (k + 1) (by rw [HN.out]; omega) (by rw [HD.out, HHV.out]; first | (rw [Bool.or_false]; exact HZ.out) | (rw [Bool.or_true]; rfl)) (below_drw HG.out _)
        case measure => simp [intOf]; omega
    · obtain rfl : n = k := by omega
      have hz0 : w.heap.size + 1 ≤ wr.heap.size := by have h1 := hG.size; rw [HZ0.out] at h1; exact h1
      obtain ⟨nms, hnms⟩ : ∃ nms, nmsK s ps n = nms := ⟨_, rfl⟩
      have HNM := Lib.hid hnms
      have hnl : nms.length = n + 1 := by rw [← hnms]; exact HLEN.out n (by rw [HN.out]; omega)
      have HNL := Lib.hid hnl
      have HNP := Lib.hid (show ∀ x ∈ nms, x.length ≤ 2000 from by
        intro x hx
        rw [← hnms] at hx
        unfold nmsK at hx
        rcases List.mem_cons.1 hx with rfl | hx
        · exact hsl
        · obtain ⟨q, hq, rfl⟩ := List.mem_map.1 hx
          exact (HPL.out q (List.mem_of_mem_take hq)).1)
      have HML := Lib.hid (show malK s ps n = (nms.any (fun x => !(wholeB x startN charN)) || ps.any fun p => badV p.2) from by have h := malK_split s ps; rw [HN.out, hnms] at h; exact h)
      have HLL := Lib.hid (show longK s ps n = nms.any fun x => decide (1024 < x.length) from by have h := longK_split s ps; rw [HN.out, hnms] at h; exact h)
      have HVV := Lib.hid (show V = if malK s ps n then 7 else if longK s ps n then 11 else if dupK ps n then 12 else 0 by rw [← HV.out]; unfold faultT; rw [HN.out])
      have SN := Lib.hid (s_new wr (strV s) 9 wr.heap.size (Nat.le_refl _))
      obtain ⟨i0, hi0, hz0', hz1, hz2⟩ := info_parts strInfoT
      obtain ⟨G, hGe⟩ : ∃ G, wr.heap.size = G := ⟨_, rfl⟩
      have HGE := Lib.hid hGe
      rw [hGe] at hz0
      clear hG hz hnms hnl hGe HV
      go_wp2_with fail
      go_loopw [5, 6] (fun v i wr2 => C2Rel s ps (w.heap.size + 1) G WA v i wr2) (fun _ i _ => n - (intOf i).toNat)
      case atStart => exact C2Rel_mk 0 (Nat.zero_le _) (HGE.out ▸ SN.out) (HG.out.alloc (by rw [HGE.out]; exact hz0) _) (by simp; have := HGE.out; omega)
      case round =>
        obtain ⟨k, hk, rfl, hown, hG2, hG2s⟩ := hrel
        rw [HN.out] at hk
        obtain ⟨t0, t1, t2⟩ := (KC.out _ hG2).at
        have HO := Lib.hid hown
        have HG2 := Lib.hid hG2
        by_cases hlt : k < n
        · obtain ⟨p, hp⟩ : ∃ p, ps[k]? = some p := ⟨_, List.getElem?_eq_getElem (by rw [HN.out]; exact hlt)⟩
          obtain ⟨a1, rfl, h1, h2⟩ := (HS.out _ (KG.out _ hG2)).pair hp
          have HX := Lib.hid (nmsK_next (s := s) hp)
          obtain ⟨x, y⟩ := p
          unfold strV at h1 h2
          simp only at h1 h2
          have i1 : (k : Int) < (n : Int) := by omega
          clear hp hown hG2
          go_wp2_with (first
            | (at_builtin; refine wpList_append_own _ rfl _ _ 56 rfl G 9 i0 (.string ⟨#[]⟩) 1 16 Tryd.underlying56 hi0 hz0' hz1 hz2 rfl (by decide) _ (k + 1) (vS (nmsK s ps k)) rfl (HO.out.alloc _) ⟨wr.heap.size, 0, none⟩ 1 1 (vS [x]) rfl rfl (q_cells wr (vS [x]) _) (vS_one _) (by unfold maxLen; omega) (by omega) (by simp; omega) ?_; intro v' w4 hown4 hgrow4 _; rw [← vS_snoc] at hown4; have HO4 := Lib.hid hown4; have HB4 := Lib.hid ((HG2.out.alloc (by omega) _).grown hgrow4 (by simp; omega) (fun j hj => by have := (HO.out.lt j hj).1; omega)); have hsz4 := hgrow4.size; clear hown4 hgrow4))
          go_roundw
          case rel => exact C2Rel_mk (k + 1) (by rw [HN.out]; omega) (by rw [HX.out]; exact HO4.out) HB4.out (by simp at hsz4; omega)
          case measure => simp [intOf]; omega
        · obtain rfl : n = k := by omega
          obtain ⟨g, cp, rfl, hg1, hg2, hcp, hcells⟩ := s_form (l := nms) (by rw [← HNM.out]; exact HO.out) (Nat.succ_pos _)
          have HCL := Lib.hid hcells
          have HG2' := Lib.hid hg2
          have HSZ := Lib.hid (show w.heap.size ≤ wr.heap.size by omega)
          clear hcells hown hG2 SN HO hg1 hg2 hi0 hz0' hz1 hz2
          go_wp2_with fail
          clear t0 t1 t2
          go_loopw [3, 7] (fun e i wr3 => ∃ (k : Nat) (z' : Int), k ≤ n + 1 ∧ i = .int .i64 k ∧ e = .int .i64 z' ∧ Hid (z' = (if (nms.take k).any (fun x => decide (1024 < x.length)) then 11 else z)) ∧ wr3 = wr) (fun _ i _ => n + 1 - (intOf i).toNat)
          case atStart => exact ⟨0, z, Nat.zero_le _, rfl, rfl, Lib.hid rfl, rfl⟩
          case round =>
            obtain ⟨k, z', hk, rfl, rfl, hz', rfl⟩ := hrel
            by_cases hlt : k < n + 1
            · obtain ⟨x, hx⟩ : ∃ x, nms[k]? = some x := ⟨_, List.getElem?_eq_getElem (by rw [HNL.out]; exact hlt)⟩
              have hc := HCL.out k x hx
              have HT := Lib.hid (show (nms.take (k + 1)).any (fun x => decide (1024 < x.length)) = ((nms.take k).any (fun x => decide (1024 < x.length)) || decide (1024 < x.length)) by rw [List.take_add_one, hx, List.any_append]; simp)
              have hxl := HNP.out x (List.mem_of_getElem? hx)
              have zx := str_size x
              unfold strV at hc
              have i1 : (k : Int) < (n : Int) + 1 := by omega
              clear hx
              by_cases hl : 1024 < x.length
              · have HV2 := Lib.hid (decide_eq_true hl)
                have i2 : (1024 : Int) < (x.length : Int) := by omega
                clear hl
                go_wp2_with fail
                go_roundw
                case rel => exact ⟨k + 1, 11, by omega, by go_num, rfl, Lib.hid (by rw [HT.out, HV2.out, Bool.or_true]; rfl), trivial⟩
                case measure => simp [intOf]; omega
              · have HV2 := Lib.hid (decide_eq_false hl)
                have i2 : ¬ (1024 : Int) < (x.length : Int) := by omega
                clear hl
                go_wp2_with fail
                go_roundw
                case rel => exact ⟨k + 1, z', by omega, by go_num, rfl, Lib.hid (by rw [HT.out, HV2.out, Bool.or_false]; exact hz'.out), trivial⟩
                case measure => simp [intOf]; omega
            · have hkn : k = n + 1 := by omega
              have i1 : ¬ (k : Int) < (n : Int) + 1 := by omega
              have HZ3 := Lib.hid (show z' = if longK s ps n then 11 else z from by
                rw [HLL.out]
                have h := hz'.out
                rwa [List.take_of_length_le (by rw [HNL.out, hkn]; exact Nat.le_refl _)] at h)
              obtain ⟨W4, rfl⟩ : ∃ W4, W4 = wr := ⟨_, rfl⟩
              clear hz' hkn hk hlt
              go_wp2_with fail
              clear i1
              go_loopw [8] (fun i wr4 => ∃ k : Nat, k ≤ n + 1 ∧ i = .int .i64 k ∧ Hid ((nms.take k).any (fun x => !(wholeB x startN charN)) = false) ∧ Below W4.heap.size W4 wr4) (fun i _ => n + 1 - (intOf i).toNat)
              case atStart => exact ⟨0, Nat.zero_le _, rfl, Lib.hid rfl, Below.refl _ _⟩
              case round =>
                obtain ⟨k, hk, rfl, hno, hB⟩ := hrel
                have HB4 := Lib.hid hB
                by_cases hlt : k < n + 1
                · obtain ⟨x, hx⟩ : ∃ x, nms[k]? = some x := ⟨_, List.getElem?_eq_getElem (by rw [HNL.out]; exact hlt)⟩
                  have hc := (hB.cell (p := ⟨g, k, none⟩) HG2'.out).trans (HCL.out k x hx)
                  have hxl := HNP.out x (List.mem_of_getElem? hx)
                  have h := risB_any x wr false (by omega)
                  rw [show wholeB x (kindP false startN) (kindP false charN) = wholeB x startN charN from rfl] at h
                  obtain ⟨bn, hbn⟩ : ∃ bn, wholeB x startN charN = bn := ⟨_, rfl⟩
                  rw [hbn] at h
                  have KI := Lib.hid h
                  have HT := Lib.hid (show (nms.take (k + 1)).any (fun x => !(wholeB x startN charN)) = !bn by rw [List.take_add_one, hx, List.any_append, hno.out]; simp [hbn])
                  have HAN := Lib.hid (show bn = false → nms.any (fun x => !(wholeB x startN charN)) = true from fun h0 => List.any_eq_true.2 ⟨x, List.mem_of_getElem? hx, by rw [hbn, h0]; rfl⟩)
                  have zx := str_size x
                  unfold strV at hc
                  have i1 : (k : Int) < (n : Int) + 1 := by omega
                  clear hx h hbn hno hB
                  cases bn with
                  | false =>
                    go_wp2_with fail
                    refine KI.out.mono ?_
                    rintro e1 w5 ⟨rfl, hb5⟩
                    go_wp2_with fail
                    go_ret
                    exact ⟨by rw [HVV.out, HML.out, HAN.out (by first | rfl | trivial)]; rfl, (KG.out _ HG2.out).trans ((HB4.out.trans (hb5.mono HB4.out.size)).mono HSZ.out)⟩
                  | true =>
                    go_wp2_with fail
                    refine KI.out.mono ?_
                    rintro e1 w5 ⟨rfl, hb5⟩
                    have HB5 := Lib.hid (HB4.out.trans (hb5.mono HB4.out.size))
                    clear hb5
                    go_wp2_with fail
                    go_roundw
                    case rel => exact ⟨k + 1, by omega, by go_num, Lib.hid HT.out, HB5.out⟩
                    case measure => simp [intOf]; omega
                · have hkn : k = n + 1 := by omega
                  have i1 : ¬ (k : Int) < (n : Int) + 1 := by omega
                  have HNO := Lib.hid (show nms.any (fun x => !(wholeB x startN charN)) = false from by
                    have h := hno.out
                    rwa [List.take_of_length_le (by rw [HNL.out, hkn]; exact Nat.le_refl _)] at h)
                  clear hno hB hkn hk hlt
                  go_wp2_with fail
                  clear i1
                  go_loopw [9] (fun i wr5 => ∃ k : Nat, k ≤ n ∧ i = .int .i64 k ∧ Hid ((ps.take k).any (fun p => badV p.2) = false) ∧ Below W4.heap.size W4 wr5) (fun i _ => n - (intOf i).toNat)
                  case atStart => exact ⟨0, Nat.zero_le _, rfl, Lib.hid rfl, HB4.out⟩
                  case round =>
                    obtain ⟨k, hk, rfl, hno, hB⟩ := hrel
                    have HB5 := Lib.hid hB
                    have HG5 := Lib.hid (HG2.out.trans (hB.mono (by have := HG2.out.size; rw [HZ0.out] at this; exact this)))
                    obtain ⟨t0, t1, t2⟩ := (KC.out _ HG5.out).at
                    by_cases hlt : k < n
                    · obtain ⟨p, hp⟩ : ∃ p, ps[k]? = some p := ⟨_, List.getElem?_eq_getElem (by rw [HN.out]; exact hlt)⟩
                      obtain ⟨a1, rfl, h1, h2⟩ := (HS.out _ (KG.out _ HG5.out)).pair hp
                      have hpp := HPL.out p (List.mem_of_getElem? hp)
                      have HT := Lib.hid (show (ps.take (k + 1)).any (fun p => badV p.2) = badV p.2 by rw [List.take_add_one, hp, List.any_append, hno.out]; simp)
                      have HAN := Lib.hid (show badV p.2 = true → ps.any (fun p => badV p.2) = true from fun h0 => List.any_eq_true.2 ⟨p, List.mem_of_getElem? hp, h0⟩)
                      obtain ⟨x, y⟩ := p
                      simp only at hpp HT HAN
                      obtain ⟨r, hr⟩ : ∃ r, refsE y = r := ⟨_, rfl⟩
                      obtain ⟨b6, hb6⟩ : ∃ b6, decide (0 ≤ Lib.indexByte y (UInt8.ofNat 60)) = b6 := ⟨_, rfl⟩
                      obtain ⟨b3, hb3⟩ : ∃ b3, decide (0 ≤ Lib.indexByte y (UInt8.ofNat 34)) = b3 := ⟨_, rfl⟩
                      have HBV := Lib.hid (show badV y = (decide (r ≠ 0) || (b6 || b3)) by unfold badV; rw [hr, hb6, hb3])
                      have KR := Lib.hid (show Calls Tryd.prog 62 #[strV y] wr fun e w' => e = .returned (.tuple #[.int .i64 (refsN y y.length 0).1, .int .i64 r]) ∧ Below wr.heap.size wr w' from
                        (rrefs_any y wr (by omega) (KT.out wr (KG.out _ HG5.out))).mono fun e w' h2 => ⟨by rw [h2.1, ← hr]; rfl, h2.2⟩)
                      have K6 := Lib.hid (fun W : World => show Calls Tryd.prog 46 #[strV y, .int .u8 60] W fun e w' => e = .returned (.bool b6) ∧ W = w' from hb6 ▸ rhas_any y 60 W (by omega) (by omega))
                      have K3 := Lib.hid (fun W : World => show Calls Tryd.prog 46 #[strV y, .int .u8 34] W fun e w' => e = .returned (.bool b3) ∧ W = w' from hb3 ▸ rhas_any y 34 W (by omega) (by omega))
                      have zy := str_size y
                      unfold strV at h1 h2
                      simp only at h1 h2
                      have i1 : (k : Int) < (n : Int) := by omega
                      clear hp hr hb6 hb3 hno hB
                      have FIN : badV y = true → V = 7 := fun h0 => by rw [HVV.out, HML.out, HNO.out, HAN.out h0]; rfl
                      have HFIN := Lib.hid FIN
                      have FB := Lib.hid (fun (W' : World) (h : Below wr.heap.size wr W') => (KG.out _ HG5.out).trans (h.mono (KG.out _ HG5.out).size))
                      have HB6 := Lib.hid (fun (W' : World) (h : Below wr.heap.size wr W') => HB5.out.trans (h.mono HB5.out.size))
                      clear FIN HAN
                      by_cases hr0 : r = 0
                      · subst hr0
                        cases b6 with
                        | true =>
                          have hV : V = 7 := HFIN.out (by rw [HBV.out]; rfl)
                          subst hV
                          go_wp2_with fail
                          refine KR.out.mono ?_
                          rintro e1 w6 ⟨rfl, hb6⟩
                          have HH := Lib.hid hb6
                          clear hb6
                          go_wp2_with fail
                          refine (K6.out _).mono ?_
                          rintro e1 w7 ⟨rfl, rfl⟩
                          go_wp2_with fail
                          go_ret
                          exact ⟨rfl, FB.out _ HH.out⟩
                        | false =>
                          cases b3 with
                          | true =>
                            have hV : V = 7 := HFIN.out (by rw [HBV.out]; rfl)
                            subst hV
                            go_wp2_with fail
                            refine KR.out.mono ?_
                            rintro e1 w6 ⟨rfl, hb6⟩
                            have HH := Lib.hid hb6
                            clear hb6
                            go_wp2_with fail
                            refine (K6.out _).mono ?_
                            rintro e1 w7 ⟨rfl, rfl⟩
                            go_wp2_with fail
                            refine (K3.out _).mono ?_
                            rintro e1 w7 ⟨rfl, rfl⟩
                            go_wp2_with fail
                            go_ret
                            exact ⟨rfl, FB.out _ HH.out⟩
                          | false =>
                            go_wp2_with fail
                            refine KR.out.mono ?_
                            rintro e1 w6 ⟨rfl, hb6⟩
                            have HH := Lib.hid (HB6.out _ hb6)
                            clear hb6
                            go_wp2_with fail
                            refine (K6.out _).mono ?_
                            rintro e1 w7 ⟨rfl, rfl⟩
                            go_wp2_with fail
                            refine (K3.out _).mono ?_
                            rintro e1 w7 ⟨rfl, rfl⟩
                            go_wp2_with fail
                            go_roundw
                            case rel => exact ⟨k + 1, by omega, by go_num, Lib.hid (by rw [HT.out, HBV.out]; rfl), HH.out⟩
                            case measure => simp [intOf]; omega
                      · have hV : V = 7 := HFIN.out (by rw [HBV.out, decide_eq_true hr0]; rfl)
                        have t7 : (r != 0) = true := by simpa using hr0
                        subst hV
                        clear hr0
                        go_wp2_with fail
                        refine KR.out.mono ?_
                        rintro e1 w6 ⟨rfl, hb6⟩
                        have HH := Lib.hid hb6
                        clear hb6
                        go_wp2_with fail
                        go_ret
                        exact ⟨rfl, FB.out _ HH.out⟩
                    · obtain rfl : n = k := by omega
                      have HNO5 := Lib.hid (show ps.any (fun p => badV p.2) = false from by
                        have h := hno.out
                        rwa [List.take_of_length_le (by rw [HN.out]; exact Nat.le_refl _)] at h)
                      clear hno hB
                      go_wp2_with fail
                      go_ret
                      exact ⟨by rw [HVV.out, HML.out, HNO.out, HNO5.out, HZ3.out, HZ.out]; rfl, KG.out _ HG5.out⟩
end Go.Proofs.YtdmfladcldkmeaaDoor
namespace Go.Proofs.YtdmfladcldkmeaaDoor
open Go.ChangeShapes Go.WideShapes Go.ChangeAt Go.RowKit Go.Maps
set_option linter.unusedVariables false
set_option maxRecDepth 100000

end Go.Proofs.YtdmfladcldkmeaaDoor
namespace Go.Proofs.YtdmfladcldkmeaaDoor
open Go.ChangeShapes Go.WideShapes Go.ChangeAt Go.RowKit Go.Maps
set_option linter.unusedVariables false
set_option maxRecDepth 100000

/-- Where the rest of a row begins. -/
def tailA (A : Option Addr) (c q : Nat) : Option Addr := if c = q then A else A.map (·.add q)
theorem slice_from (W : World) (A : Option Addr) (n c q : Nat) (hq : q ≤ n) : (Instr.slice 36 (.slice A n c) (some (.int .i64 (q : Int))) none none).run Tryd.prog W = .ok (.slice (tailA A c q) (n - q) (c - q)) W := by
  have he : Tryd.prog.elem 36 = 5 := by simp [Program.elem, Tryd.underlying36]
  have hz : ∀ w, (Go.sizeOf 5).run Tryd.prog w = .ok 1 w := fun w => by kernel_rfl
  rw [run_slice_l W 36 _ _ _ (by rw [he]; exact Tryd.underlying36) .i64 _ (by omega) (by omega), he, hz]
  simp [Result.andThen, sliced, tailA]
theorem sees_tail {w : World} {A : Option Addr} {l : List UInt8} {c : Nat} (hs : Sees w A (vB l)) (hl : l.length ≤ c) (q : Nat) : Sees w (tailA A c q) (vB (l.drop q)) := by
  unfold tailA
  rw [vB_drop]
  exact hs.drop (by rw [vB_len]; omega)
/-- A constant's bytes, as a new row shows them. -/
theorem pre_const (l m : List UInt8) (A : Option Addr) (n c k : Nat) (w : World) (B : Nat) (f : Nat × Nat) (hn : l.length = n) (hnc : n ≤ c) (h9 : n ≤ 1000000) (hk : m.length = k) (h0 : 0 < k) (h8 : k ≤ 1000000) (hB : w.heap.size = B) (hs : Sees w A (vB l)) :
    Calls Tryd.prog 66 #[.slice A n c, .slice (some ⟨B, 0, none⟩) k k] (w.alloc (.cells (vB m).toArray 5 f)) fun e w' => e = .returned (.bool (l.take k == m)) ∧ w.alloc (.cells (vB m).toArray 5 f) = w' := by
  subst hB
  exact hasPre_any l m A _ n k c k _ hn hnc h9 hk h0 h8 (hs.below ((Below.refl _ w).alloc (Nat.le_refl _) _)) (sees_lit w (vB m) _ _)
theorem atB_take (l m : List UInt8) (q : Nat) : atB l (q : Int) m = ((l.drop q).take m.length == m) := by
  unfold atB; rw [decide_eq_true (by omega), Int.toNat_natCast]; rfl

/-- A new tag's cells, as every later world shows them. -/
def NewTagP (w W : World) : Prop := ∀ w', Below W.heap.size W w' →
  w'.cell? ⟨w.heap.size, 0, none⟩ = some (.string ⟨#[]⟩) ∧ w'.cell? ⟨w.heap.size, 1, none⟩ = some (.slice none 0 0) ∧ w'.cell? ⟨w.heap.size, 2, none⟩ = some (.bool false) ∧ w'.frozen? ⟨w.heap.size, 0, none⟩ = false ∧ w'.frozen? ⟨w.heap.size, 1, none⟩ = false ∧ w'.frozen? ⟨w.heap.size, 2, none⟩ = false ∧ Below w.heap.size w w'
theorem newTagP (w : World) : NewTagP w (w.alloc (.cells #[.string ⟨#[]⟩, .slice none 0 0, .bool false] 30)) := by
  intro w' hb
  have B0 := (Below.refl w.heap.size w).alloc (Nat.le_refl _) (.cells #[.string ⟨#[]⟩, .slice none 0 0, .bool false] 30)
  refine ⟨(hb.cell (by simp)).trans (by simp [World.cell?_alloc_new]), (hb.cell (by simp)).trans (by simp [World.cell?_alloc_new]), (hb.cell (by simp)).trans (by simp [World.cell?_alloc_new]), (hb.frozen (by simp)).trans (World.frozen?_alloc_new ..), (hb.frozen (by simp)).trans (World.frozen?_alloc_new ..), (hb.frozen (by simp)).trans (World.frozen?_alloc_new ..), B0.trans (hb.mono B0.size)⟩
theorem own_set1 {w : World} {b0 : Nat} {e : TypeId} {size n o : Nat} {v : Value} {xs : List Value} (h : w.ownsRow (b0 + 1) e size v n xs) (u : Value) : (w.setCell ⟨b0, o, none⟩ u).ownsRow (b0 + 1) e size v n xs := by
  refine ⟨h.1, ?_⟩
  rcases h.2 with hn | ⟨g, cap, cur, e1, h1, h2, h3⟩
  · exact .inl hn
  · exact .inr ⟨g, cap, cur, e1, h1, by rw [Below.heap_setCell _ _ _ _ (by simp; omega)]; exact h2, h3⟩

set_option maxHeartbeats 4000000 in
theorem open_any (l : List UInt8) (A : Option Addr) (n c : Nat) (k : Int) (w : World) (hn : l.length = n) (hnc : n ≤ c) (hm : c ≤ 9223372036854775807) (hn9 : n ≤ 1000000) (hk : I64 k) (hs : Sees w A (vB l)) (ht : TabC w) :
    Calls Tryd.prog 21 #[.slice A n c, .int .i64 k] w (OpenPost (openT l k) w) := by
  have hkl := hk.1
  have hkh := hk.2
  have B0 := (Below.refl w.heap.size w).alloc (Nat.le_refl _) (.cells #[.string ⟨#[]⟩, .slice none 0 0, .bool false] 30)
  have NP := Lib.hid (newTagP w)
  have H1 := fun (w' : World) (hb : Below w.heap.size w w') => begin_any l [60] A n c k w' hn hnc hm hn9 hk (by simp) (by simp) (hs.below hb) (ht.toN.below hb)
  -- what an error leaves
  have fin : ∀ (e0 : Int) (W : World), Below w.heap.size w W → W.cell? ⟨w.heap.size, 0, none⟩ = some (.string ⟨#[]⟩) → OpenPost (noG e0) w (.returned (.tuple #[.agg #[.string ⟨#[]⟩, .slice none 0 0, .bool false], .int .i64 0, .int .i64 e0]))
      (((W.setCell ⟨w.heap.size, 0, none⟩ (.string ⟨#[]⟩)).setCell ⟨w.heap.size, 1, none⟩ (.slice none 0 0)).setCell ⟨w.heap.size, 2, none⟩ (.bool false)) := fun e0 W hB _ =>
    ⟨_, rfl, World.ownsRow_nil _ _ _ _, ((hB.setCell (Nat.le_refl _) _).setCell (Nat.le_refl _) _).setCell (Nat.le_refl _) _⟩
  have FIN := Lib.hid fin
  clear fin
  by_cases h0 : (begT l k [60]).2.2 = 0
  rotate_left
  · have hv : openT l k = noG (begT l k [60]).2.2 := by unfold openT; rw [if_pos h0]
    rw [hv]
    rw [begT_err l k _ h0] at H1
    obtain ⟨e0, he0⟩ : ∃ e0, (begT l k [60]).2.2 = e0 := ⟨_, rfl⟩
    rw [he0] at h0 H1 ⊢
    rw [trV_no] at H1
    have K1 := Lib.hid H1
    have t1 : (e0 != 0) = true := by simpa using h0
    clear H1 h0 he0 hs ht hn hv
    go_enter Tryd.func21, Tryd.ntmps21
    go_wp2_with fail
    refine (K1.out _ B0).mono ?_
    rintro e w1 ⟨rfl, hb1⟩
    obtain ⟨x0, x1, x2, v0, v1, v2, B1⟩ := NP.out w1 hb1
    go_wp2_with fail
    (try simp only [Exit.inBlock, Exit.then])
    obtain ⟨c0, c1, c2⟩ := three_cells (.string ⟨#[]⟩) (.slice none 0 0) (.bool false) x0 x1 x2
    refine bodyPost_ret (by simp [results, Tryd.results21, go_sem, c0, c1, c2]; first | rfl | done) rfl (FIN.out e0 w1 B1 x0)
  obtain ⟨s, z, hb, hzl, hsl⟩ := begT_go (by simp) h0
  rw [hb] at H1
  unfold openT
  rw [hb, if_neg (by simp)]
  simp only
  unfold trV at H1
  have K1 := Lib.hid H1
  have H4 := fun (w' : World) (hb : Below w.heap.size w w') => pairs_any l A n c (z : Int) w' hn hnc hm hn9 ⟨by omega, by omega⟩ (hs.below hb) (ht.below hb)
  clear H1 hb h0
  by_cases h5 : (parsT l (z : Int)).2.2 = 0
  rotate_left
  · rw [if_pos h5]
    rw [parsT_err _ _ h5] at H4
    obtain ⟨e0, he0⟩ : ∃ e0, (parsT l (z : Int)).2.2 = e0 := ⟨_, rfl⟩
    rw [he0] at h5 H4 ⊢
    have K4 := Lib.hid H4
    have t1 : (e0 != 0) = true := by simpa using h5
    clear H4 h5 he0 hs ht hn
    go_enter Tryd.func21, Tryd.ntmps21
    go_wp2_with fail
    refine (K1.out _ B0).mono ?_
    rintro e w1 ⟨rfl, hb1⟩
    obtain ⟨x0, x1, x2, v0, v1, v2, B1⟩ := NP.out w1 hb1
    go_wp2_with fail
    refine (K4.out w1 B1).mono ?_
    rintro e w2 ⟨v, rfl, hown, hb2⟩
    obtain ⟨A', c', rfl⟩ := row_slice hown
    clear x0 x1 x2 v0 v1 v2 B1
    obtain ⟨x0, x1, x2, v0, v1, v2, B1⟩ := NP.out w2 (hb1.trans (hb2.mono hb1.size))
    clear hb1 hb2 hown
    go_wp2_with fail
    (try simp only [Exit.inBlock, Exit.then])
    obtain ⟨c0, c1, c2⟩ := three_cells (.string ⟨#[]⟩) (.slice none 0 0) (.bool false) x0 x1 x2
    refine bodyPost_ret (by simp [results, Tryd.results21, go_sem, c0, c1, c2]; first | rfl | done) rfl (FIN.out e0 w2 B1 x0)
  obtain ⟨ps, i, hp, hzi, hil⟩ := parsT_go hzl h5
  rw [hp] at H4 ⊢
  rw [if_neg (by simp)]
  simp only [Int.toNat_natCast]
  have hbl := blkN_le l l.length i hil
  have H5 := fun (w' : World) (hb : Below w.heap.size w w') => blanks_any l A n c (i : Int) w' hn hnc (by omega) ⟨by omega, by omega⟩ (hs.below hb)
  rw [blkV_in hil] at H5
  obtain ⟨q, hqq⟩ : ∃ q, blkN l l.length i = q := ⟨_, rfl⟩
  rw [hqq] at H5 hbl ⊢
  have hqn : q ≤ n := by omega
  have K4 := Lib.hid H4
  have K5 := Lib.hid H5
  have HSL := fun (W : World) => slice_from W A n c q hqn
  obtain ⟨A2, hA2⟩ : ∃ A2, tailA A c q = A2 := ⟨_, rfl⟩
  rw [hA2] at HSL
  have H6 := fun (w' : World) (hb : Below w.heap.size w w') (B : Nat) (hB : w'.heap.size = B) => pre_const (l.drop q) [47, 62] A2 (n - q) (c - q) 2 w' B (2, 3) (by rw [List.length_drop, hn]) (by omega) (by omega) rfl (by omega) (by omega) hB (hA2 ▸ sees_tail (hs.below hb) (by omega) q)
  have H7 := fun (w' : World) (hb : Below w.heap.size w w') (B : Nat) (hB : w'.heap.size = B) => pre_const (l.drop q) [62] A2 (n - q) (c - q) 1 w' B (1, 2) (by rw [List.length_drop, hn]) (by omega) (by omega) rfl (by omega) (by omega) hB (hA2 ▸ sees_tail (hs.below hb) (by omega) q)
  have kc := fun (w : World) (C : Array Value) (n c : Nat) => Lib.run_convert_bytes_const (P := Tryd.prog) w 36 5 C n c Tryd.underlying36 Tryd.underlying5
  have e6 := atB_take l [47, 62] q
  have e7 := atB_take l [62] q
  rw [show ([47, 62] : List UInt8).length = 2 from rfl] at e6
  rw [show ([62] : List UInt8).length = 1 from rfl] at e7
  rw [← e6] at H6
  rw [← e7] at H7
  unfold tailT
  clear H4 H5 hp h5 hqq hbl hs ht hn hzi hil hzl hA2 e6 e7
  have NAL : ∀ (W : World) (o : Obj), Below w.heap.size w W → Below w.heap.size w (W.alloc o) := fun W o h => h.alloc h.size o
  cases h6 : atB l (q : Int) [47, 62] with
  | true =>
    rw [h6] at H6
    have K6 := Lib.hid H6
    rw [if_pos rfl]
    clear H6 H7 h6
    go_enter Tryd.func21, Tryd.ntmps21
    go_wp2_with fail
    refine (K1.out _ B0).mono ?_
    rintro e w1 ⟨rfl, hb1⟩
    obtain ⟨x0, x1, x2, v0, v1, v2, B1⟩ := NP.out w1 hb1
    go_wp2_with fail
    refine (K4.out w1 B1).mono ?_
    rintro e w2 ⟨v, rfl, hown, hb2⟩
    obtain ⟨A', c', rfl⟩ := row_slice hown
    have hw1 : w.heap.size + 1 ≤ w1.heap.size := by have h9 := hb1.size; simp at h9; omega
    have HO := Lib.hid (q_base hown hw1)
    clear x0 x1 x2 v0 v1 v2 B1
    have hb12 := hb1.trans (hb2.mono hb1.size)
    obtain ⟨x0, x1, x2, v0, v1, v2, B1⟩ := NP.out w2 hb12
    clear hb1 hb2 hown
    go_wp2_with fail
    refine (K5.out w2 B1).mono ?_
    rintro e w3 ⟨rfl, rfl⟩
    go_wp2_with fail
    have hb13 := hb12.alloc hb12.size (.cells (vB [47, 62]).toArray 5 (2, 3))
    clear x0 x1 x2 v0 v1 v2
    refine (K6.out w2 B1 _ rfl).mono ?_
    rintro e w3 ⟨rfl, rfl⟩
    obtain ⟨x0, x1, x2, v0, v1, v2, B3⟩ := NP.out _ hb13
    go_wp2_with fail
    (try simp only [Exit.inBlock, Exit.then])
    obtain ⟨c0, c1, c2⟩ := three_cells (strV s) (.slice A' ps.length c') (.bool true) x0 x1 x2
    refine bodyPost_ret (by simp [results, Tryd.results21, go_sem, c0, c1, c2]; first | rfl | done) rfl ?_
    refine ⟨_, rfl, ?_, ((B3.setCell (Nat.le_refl _) _).setCell (Nat.le_refl _) _).setCell (Nat.le_refl _) _⟩
    exact q_base (own_set1 (own_set1 (own_set1 (HO.out.alloc _) _) _) _) (Nat.le_succ _)
  | false =>
    rw [h6] at H6
    have K6 := Lib.hid H6
    rw [if_neg (by simp)]
    cases h7 : atB l (q : Int) [62] with
    | true =>
      rw [h7] at H7
      have K7 := Lib.hid H7
      rw [if_pos rfl]
      clear H6 H7 h6 h7
      go_enter Tryd.func21, Tryd.ntmps21
      go_wp2_with fail
      refine (K1.out _ B0).mono ?_
      rintro e w1 ⟨rfl, hb1⟩
      obtain ⟨x0, x1, x2, v0, v1, v2, B1⟩ := NP.out w1 hb1
      go_wp2_with fail
      refine (K4.out w1 B1).mono ?_
      rintro e w2 ⟨v, rfl, hown, hb2⟩
      obtain ⟨A', c', rfl⟩ := row_slice hown
      have hw1 : w.heap.size + 1 ≤ w1.heap.size := by have h9 := hb1.size; simp at h9; omega
      have HO := Lib.hid (q_base hown hw1)
      clear x0 x1 x2 v0 v1 v2 B1
      have hb12 := hb1.trans (hb2.mono hb1.size)
      obtain ⟨x0, x1, x2, v0, v1, v2, B1⟩ := NP.out w2 hb12
      clear hb1 hb2 hown
      go_wp2_with fail
      refine (K5.out w2 B1).mono ?_
      rintro e w3 ⟨rfl, rfl⟩
      go_wp2_with fail
      have hb13 := hb12.alloc hb12.size (.cells (vB [47, 62]).toArray 5 (2, 3))
      have C3 := NAL _ (.cells (vB [47, 62]).toArray 5 (2, 3)) B1
      have HO3 := HO.out.alloc (.cells (vB [47, 62]).toArray 5 (2, 3))
      clear x0 x1 x2 v0 v1 v2
      refine (K6.out w2 B1 _ rfl).mono ?_
      rintro e w3 ⟨rfl, hw3⟩
      rw [hw3] at hb13 C3 HO3
      have hb14 := hb13.alloc hb13.size (.cells (vB [62]).toArray 5 (1, 2))
      have HO4 := Lib.hid HO3
      clear hw3 HO3
      go_wp2_with fail
      refine (K7.out w3 C3 _ rfl).mono ?_
      rintro e w4 ⟨rfl, rfl⟩
      obtain ⟨x0, x1, x2, v0, v1, v2, B3⟩ := NP.out _ hb14
      go_wp2_with fail
      (try simp only [Exit.inBlock, Exit.then])
      obtain ⟨c0, c1, c2⟩ := three_cells (strV s) (.slice A' ps.length c') (.bool false) x0 x1 x2
      refine bodyPost_ret (by simp [results, Tryd.results21, go_sem, c0, c1, c2]; first | rfl | done) rfl ?_
      refine ⟨_, rfl, ?_, ((B3.setCell (Nat.le_refl _) _).setCell (Nat.le_refl _) _).setCell (Nat.le_refl _) _⟩
      exact q_base (own_set1 (own_set1 (own_set1 (HO4.out.alloc _) _) _) _) (Nat.le_succ _)
    | false =>
      rw [h7] at H7
      have K7 := Lib.hid H7
      rw [if_neg (by simp)]
      clear H6 H7 h6 h7
      go_enter Tryd.func21, Tryd.ntmps21
      go_wp2_with fail
      refine (K1.out _ B0).mono ?_
      rintro e w1 ⟨rfl, hb1⟩
      obtain ⟨x0, x1, x2, v0, v1, v2, B1⟩ := NP.out w1 hb1
      go_wp2_with fail
      refine (K4.out w1 B1).mono ?_
      rintro e w2 ⟨v, rfl, hown, hb2⟩
      obtain ⟨A', c', rfl⟩ := row_slice hown
      clear x0 x1 x2 v0 v1 v2 B1
      have hb12 := hb1.trans (hb2.mono hb1.size)
      obtain ⟨x0, x1, x2, v0, v1, v2, B1⟩ := NP.out w2 hb12
      clear hb1 hb2 hown
      go_wp2_with fail
      refine (K5.out w2 B1).mono ?_
      rintro e w3 ⟨rfl, rfl⟩
      go_wp2_with fail
      have hb13 := hb12.alloc hb12.size (.cells (vB [47, 62]).toArray 5 (2, 3))
      have C3 := NAL _ (.cells (vB [47, 62]).toArray 5 (2, 3)) B1
      clear x0 x1 x2 v0 v1 v2
      refine (K6.out w2 B1 _ rfl).mono ?_
      rintro e w3 ⟨rfl, hw3⟩
      rw [hw3] at hb13 C3
      have hb14 := hb13.alloc hb13.size (.cells (vB [62]).toArray 5 (1, 2))
      clear hw3
      go_wp2_with fail
      refine (K7.out w3 C3 _ rfl).mono ?_
      rintro e w4 ⟨rfl, rfl⟩
      obtain ⟨x0, x1, x2, v0, v1, v2, B3⟩ := NP.out _ hb14
      go_wp2_with fail
      (try simp only [Exit.inBlock, Exit.then])
      obtain ⟨c0, c1, c2⟩ := three_cells (.string ⟨#[]⟩) (.slice none 0 0) (.bool false) x0 x1 x2
      refine bodyPost_ret (by simp [results, Tryd.results21, go_sem, c0, c1, c2]; first | rfl | done) rfl (FIN.out 7 _ B3 x0)
end Go.Proofs.YtdmfladcldkmeaaDoor
namespace Go.Proofs.YtdmfladcldkmeaaDoor
open Go.ChangeShapes Go.WideShapes Go.ChangeAt Go.RowKit Go.Maps
set_option linter.unusedVariables false
set_option maxRecDepth 100000

theorem parsN_len (l : List UInt8) : ∀ f ps k, k ≤ l.length → ps.length ≤ k → (parsN l f ps k).1.length ≤ l.length
  | 0, ps, k, hk, h => Nat.le_trans h hk
  | f + 1, ps, k, hk, h => by
    rw [parsN]
    split
    · exact Nat.le_trans h hk
    · next h1 =>
      split
      · simp
      · next h2 =>
        split
        · simp
        · next h3 =>
          have hb := blkN_le l l.length k hk
          obtain ⟨s, v, b, hp, h4, h5, _, _⟩ := pair_go hb.2 (by simpa using h2)
          rw [hp]
          simp only [Int.toNat_natCast]
          exact parsN_len l f _ b h5 (by rw [List.length_append]; simp; omega)
theorem parsT_len (l : List UInt8) (k : Int) : (parsT l k).1.length ≤ l.length := by
  unfold parsT
  split
  · simp
  · exact parsN_len l _ [] _ (by omega) (by simp)
theorem openT_len (l : List UInt8) (k : Int) : (openT l k).2.1.length ≤ l.length := by
  have := parsT_len l (begT l k [60]).2.1
  unfold openT
  split
  · simp [noG]
  · split
    · simp [noG]
    · unfold tailT
      split
      · exact this
      · split
        · exact this
        · simp [noG]
theorem ot1 : openT [60, 97, 32, 98, 61, 39, 99, 39, 32, 47, 62] 0 = ([97], [([98], [99])], true, 11, 0) := by kernel_rfl
theorem ot2 : openT [60, 97, 32, 98, 61, 39, 49, 39, 32, 98, 61, 39, 50, 39, 62] 0 = ([], [], false, 0, 12) := by kernel_rfl
theorem pair_lit (w : World) (s v : List UInt8) (t : TypeId) : ∀ k p, ([(s, v)] : Prs)[k]? = some p → (w.alloc (.cells #[strV s, strV v] t)).cell? ⟨w.heap.size, k * 2, none⟩ = some (strV p.1) ∧ (w.alloc (.cells #[strV s, strV v] t)).cell? ⟨w.heap.size, k * 2 + 1, none⟩ = some (strV p.2) := by
  intro k p h
  cases k with
  | zero =>
    obtain rfl : (s, v) = p := by simpa using h
    exact ⟨by simp [World.cell?_alloc_new], by simp [World.cell?_alloc_new]⟩
  | succ k => simp at h

theorem const_at2 (w : World) (o : Obj) (C : Array Value) (n c : Nat) : (convert 36 36 (.slice (some ⟨w.heap.size + 1, 0, none⟩) n c)).run Tryd.prog ((w.alloc o).alloc (.cells C 5)) = .ok (.slice (some ⟨w.heap.size + 1, 0, none⟩) n c) ((w.alloc o).alloc (.cells C 5 (C.size, C.size + 1))) := by
  have h := Lib.run_convert_bytes_const (P := Tryd.prog) (w.alloc o) 36 5 C n c Tryd.underlying36 Tryd.underlying5
  rwa [World.size_alloc] at h
set_option maxHeartbeats 2000000 in
theorem live10_any (w : World) (ht : TabC w) : Calls Tryd.prog 16 #[] w fun e w' => e = .returned (.bool true) ∧ Below w.heap.size w w' := by
  have H1 := open_any [60, 97, 32, 98, 61, 39, 99, 39, 32, 47, 62] (some ⟨w.heap.size, 0, none⟩) 11 11 0 (w.alloc (.cells (vB [60, 97, 32, 98, 61, 39, 99, 39, 32, 47, 62]).toArray 5 (11, 12))) rfl (by omega) (by omega) (by omega) ⟨by omega, by omega⟩
    (sees_lit w _ _ _) (ht.below ((Below.refl _ w).alloc (Nat.le_refl _) _))
  have kc2 := const_at2
  have H2 := fun (w' : World) (B : Nat) (hB : w'.heap.size = B) (hb : Below w.heap.size w w') => open_any [60, 97, 32, 98, 61, 39, 49, 39, 32, 98, 61, 39, 50, 39, 62] (some ⟨B, 0, none⟩) 15 15 0 (w'.alloc (.cells (vB [60, 97, 32, 98, 61, 39, 49, 39, 32, 98, 61, 39, 50, 39, 62]).toArray 5 (15, 16))) rfl (by omega) (by omega) (by omega) ⟨by omega, by omega⟩
    (hB ▸ sees_lit w' _ _ _) (ht.below (hb.alloc hb.size _))
  rw [ot1] at H1
  rw [ot2] at H2
  have K1 := Lib.hid H1
  have K2 := Lib.hid H2
  have hb0 : Below w.heap.size w (w.alloc (.cells (vB [60, 97, 32, 98, 61, 39, 99, 39, 32, 47, 62]).toArray 5 (11, 12))) := (Below.refl _ w).alloc (Nat.le_refl _) _
  have kc := fun (w : World) (C : Array Value) (n c : Nat) => Lib.run_convert_bytes_const (P := Tryd.prog) w 36 5 C n c Tryd.underlying36 Tryd.underlying5
  clear H1 H2 ht
  go_enter Tryd.func16, Tryd.ntmps16
  go_wp2_with fail
  refine K1.out.mono ?_
  rintro e w1 ⟨v, rfl, hown, hb1⟩
  have hb1' := hb0.trans (hb1.mono (by simp))
  rcases q_form hown rfl with ⟨_, h0⟩ | ⟨g1, c1, rfl, hg1, _, hc1⟩
  · exact absurd h0 (by simp)
  have HC1 := Lib.hid hc1
  clear hown hc1
  go_wp2_with fail
  have hbT := hb1'.alloc hb1'.size (.cells #[strV [97], .slice (some ⟨g1, 0, none⟩) 1 c1, .bool true] 30)
  have hcell : ∀ w', Below (w1.heap.size + 1) (w1.alloc (.cells #[strV [97], .slice (some ⟨g1, 0, none⟩) 1 c1, .bool true] 30)) w' → w'.cell? ⟨w1.heap.size, 0, none⟩ = some (strV [97]) ∧ w'.cell? ⟨w1.heap.size, 1, none⟩ = some (.slice (some ⟨g1, 0, none⟩) 1 c1) ∧ w'.cell? ⟨w1.heap.size, 2, none⟩ = some (.bool true) := fun w' h =>
    ⟨(h.cell (by simp)).trans (by simp [World.cell?_alloc_new]), (h.cell (by simp)).trans (by simp [World.cell?_alloc_new]), (h.cell (by simp)).trans (by simp [World.cell?_alloc_new])⟩
  have HCELL := Lib.hid hcell
  clear hcell
  refine (K2.out _ (w1.heap.size + 1) (by simp) hbT).mono ?_
  rintro e w2 ⟨v2, rfl, hown2, hb2⟩
  have hbU : Below (w1.heap.size + 1) (w1.alloc (.cells #[strV [97], .slice (some ⟨g1, 0, none⟩) 1 c1, .bool true] 30)) w2 := ((Below.refl _ _).alloc (by simp) _).trans (hb2.mono (by simp))
  have hb2' : Below w.heap.size w w2 := hbT.trans (hbU.mono (by have := hb1'.size; omega))
  obtain ⟨A2, c2, rfl⟩ := row_slice hown2
  have hb3 := hb2'.alloc hb2'.size (.cells #[.string ⟨#[]⟩, .slice A2 0 c2, .bool false] 30)
  have hb4 := hb3.alloc hb3.size (.cells #[strV [98], strV [99]] 41)
  have hsz2 : w1.heap.size + 1 ≤ w2.heap.size := by have h9 := hb2.size; simp at h9; omega
  have hU3 := hbU.alloc hsz2 (.cells #[.string ⟨#[]⟩, .slice A2 0 c2, .bool false] 30)
  obtain ⟨x0, x1, x2⟩ := HCELL.out _ hU3
  have hU4 := hU3.alloc (Nat.le_trans hsz2 (by simp)) (.cells #[strV [98], strV [99]] 41)
  have hV4 : Below w1.heap.size w1 _ := ((Below.refl w1.heap.size w1).alloc (Nat.le_refl _) (.cells #[strV [97], .slice (some ⟨g1, 0, none⟩) 1 c1, .bool true] 30)).trans (hU4.mono (Nat.le_succ _))
  have hlit := pair_lit (w2.alloc (.cells #[.string ⟨#[]⟩, .slice A2 0 c2, .bool false] 30)) [98] [99] 41
  rw [World.size_alloc] at hlit
  have HSM := Lib.hid (rsameP_some [([98], [99])] 1 g1 (w2.heap.size + 1) c1 1 _ rfl (by omega) (fun k p hp => ⟨cell_later hV4 (HC1.out k p hp).1, cell_later hV4 (HC1.out k p hp).2⟩) hlit)
  have hsz4 := hU4.size
  clear hlit hV4
  go_wp2_with fail
  refine HSM.out.mono ?_
  rintro e w4 ⟨rfl, hb5⟩
  obtain ⟨y0, y1, y2⟩ := HCELL.out _ (hU4.trans (hb5.mono (by simp; omega)))
  clear x0 x1 x2
  go_wp2_with fail
  go_ret
  exact ⟨rfl, hb4.trans (hb5.mono hb4.size)⟩
end Go.Proofs.YtdmfladcldkmeaaDoor
namespace Go.Proofs.YtdmfladcldkmeaaDoor
open Go.ChangeShapes Go.WideShapes Go.ChangeAt Go.RowKit
set_option linter.unusedVariables false

theorem sees_row8 {w : World} {x : Addr} {len cap : Nat} {zs : List Int} (hz : zs.length = cap) (hl : len ≤ cap) (hc : ∀ i, i < zs.length → w.cell? (x.add i) = some (.int .u8 (zs.getD i 0)))
    (hw : ∀ n ∈ zs, (Lit.int .u8 n).wf = true) : ∃ l : List UInt8, l.length = len ∧ Sees w (some x) (vB l) := by
  obtain ⟨h1, h2⟩ := sees_row hz hl hc
  refine ⟨(zs.take len).map fun z => UInt8.ofNat z.toNat, by rw [List.length_map, h1], ?_⟩
  have e : vB ((zs.take len).map fun z => UInt8.ofNat z.toNat) = (zs.take len).map (Value.int .u8) := by
    unfold vB
    rw [List.map_map]
    apply List.map_congr_left
    intro z hz
    have := bounds_u8 (hw z (List.mem_of_mem_take hz))
    show Value.int .u8 _ = _
    rw [ofNat_toNat (by omega), Int.toNat_of_nonneg this.1]
  rw [e]
  exact h2

end Go.Proofs.YtdmfladcldkmeaaDoor
namespace Go.Proofs.YtdmfladcldkmeaaDoor
open Go.ChangeShapes Go.WideShapes Go.ChangeAt Go.RowKit Go.Maps
set_option linter.unusedVariables false
set_option maxRecDepth 100000

theorem badV_eq_aux (v : List UInt8) : (decide (0 ≤ Lib.indexByte v 60) || decide (0 ≤ Lib.indexByte v 34)) = Lib.containsAny v [60, 34] := by
  rw [cany_iff, ← Lib.contains_iff_indexByte, ← Lib.contains_iff_indexByte]
  induction v with
  | nil => rfl
  | cons a t ih =>
    rw [List.any_cons, ← ih, List.contains_cons, List.contains_cons, BEq.comm (a := (60 : UInt8)), BEq.comm (a := (34 : UInt8))]
    cases (a == 60) <;> cases (a == 34) <;> cases t.contains (60 : UInt8) <;> cases t.contains (34 : UInt8) <;> rfl
theorem fault_nil (s : List UInt8) : faultT s [] = if wholeB s startN charN = false then 7 else if 1024 < s.length then 11 else 0 := by
  unfold faultT malK longK dupK
  cases wholeB s startN charN
  · rfl
  · by_cases h : 1024 < s.length
    · simp [h]
    · simp [h]
theorem peT_two (s : List UInt8) : (peT s).2 = faultT s [] := by
  rw [fault_nil]
  unfold peT
  split
  · rfl
  · split <;> rfl
theorem peT_bad {s : List UInt8} (h : faultT s [] ≠ 0) : (peT s).1 = [] := by
  rw [fault_nil] at h
  unfold peT
  split
  · rfl
  · next h1 =>
    rw [if_neg h1] at h
    split
    · rfl
    · next h2 => rw [if_neg h2] at h; exact absurd rfl h
theorem peT_ok {s : List UInt8} (h : faultT s [] = 0) : (peT s).1 = endB s ∧ okN s := by
  rw [fault_nil] at h
  unfold peT
  split
  · next h1 => rw [if_pos h1] at h; exact absurd h (by decide)
  · next h1 =>
    rw [if_neg h1] at h
    split
    · next h2 => rw [if_pos h2] at h; exact absurd h (by decide)
    · next h2 => exact ⟨rfl, by simpa using h1, by omega⟩
/-- A tag that nothing keeps from being written. -/
theorem fault_ok {s : List UInt8} {ps : Prs} (h : faultT s ps = 0) : okTag s ps := by
  unfold faultT at h
  split at h
  · exact absurd h (by decide)
  · next h1 =>
    split at h
    · exact absurd h (by decide)
    · next h2 =>
      split at h
      · exact absurd h (by decide)
      · next h3 =>
        have h1' : malK s ps ps.length = false := by simpa using h1
        have h2' : longK s ps ps.length = false := by simpa using h2
        have h3' : dupK ps ps.length = false := by simpa using h3
        unfold malK at h1'
        unfold longK at h2'
        rw [List.take_length, Bool.or_eq_false_iff] at h1' h2'
        obtain ⟨m1, m2⟩ := h1'
        obtain ⟨l1, l2⟩ := h2'
        rw [List.any_eq_false] at m2 l2
        refine ⟨⟨by simpa using m1, by simpa using l1⟩, fun p hp => ?_, fun i p hp => ?_⟩
        · have a1 := m2 p hp
          have a2 := l2 p hp
          have a3 : badP p = false := by simpa using a1
          unfold badP at a3
          rw [← badV_eq_aux p.2] at a3
          rw [Bool.or_eq_false_iff, Bool.or_eq_false_iff, Bool.or_eq_false_iff] at a3
          obtain ⟨b1, b2, b3, b4⟩ := a3
          exact ⟨⟨by simpa using b2, by simpa using a2⟩, by simpa using b3, by simpa using b4, by simpa using b1⟩
        · unfold dupK at h3'
          rw [List.any_eq_false] at h3'
          have hi := (List.getElem?_eq_some_iff.1 hp).1
          have := h3' i (List.mem_range.2 hi)
          rw [hp] at this
          simpa using this
end Go.Proofs.YtdmfladcldkmeaaDoor
