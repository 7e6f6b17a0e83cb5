/- Attributes, one behind the other, by the program. Rows of pairs of texts, wherever they lie: their cells; two rows of the same attributes are the same. Has some attribute a name? As the document asks it. Attributes, one behind the other, as the document has them. Two rows of the same attributes are the same, as the document compares them. -/
import Derived.Maps.OwnSet
import Derived.Deep.QuietTactic
import Derived.BigQuiet
import Derived.Test.YtdmfladcldkmeaaDoorPkak
namespace Go.Proofs.YtdmfladcldkmeaaDoor
open Go.ChangeShapes Go.WideShapes Go.ChangeAt Go.RowKit Go.Maps
set_option linter.unusedVariables false
set_option maxRecDepth 100000

theorem pairInfo : (Tryd.prog.info? 41).map (fun i => (i.zero, i.size, i.bytes)) = some (some (.agg #[.string ⟨#[]⟩, .string ⟨#[]⟩]), 2, 32) := by kernel_rfl
theorem lawPlaces : Keyed Tryd.prog 9 := string_keyed Tryd.underlying9
theorem zeroPlace (w : World) : (zeroValue 3).run Tryd.prog w = .ok (.int .i64 0) w := by kernel_rfl
theorem q_cells (w : World) (l : List Value) (t : TypeId) : ∀ j u, l[j]? = some u → (w.alloc (.cells l.toArray t)).cell? ((⟨w.heap.size, 0, none⟩ : Addr).add j) = some u := by
  intro j u h
  have e : (⟨w.heap.size, 0, none⟩ : Addr).add j = ⟨w.heap.size, j, none⟩ := by
    unfold Addr.add; split
    · next h0 => rw [h0]
    · simp
  rw [e]
  simp [World.cell?_alloc_new, h]
theorem q_below {w w' : World} {base : Nat} {e : TypeId} {size n : Nat} {v : Value} {xs : List Value} (h : w.ownsRow base e size v n xs) (hb : Below w.heap.size w w') : w'.ownsRow base e size v n xs := by
  refine ⟨h.1, ?_⟩
  rcases h.2 with hn | ⟨g, cap, cur, e, h1, h2, h3⟩
  · exact .inl hn
  · exact .inr ⟨g, cap, cur, e, h1, (hb.block g (Array.getElem?_eq_some_iff.1 h2).1).trans h2, h3⟩
theorem q_base {w : World} {base base' : Nat} {e : TypeId} {size n : Nat} {v : Value} {xs : List Value} (h : w.ownsRow base e size v n xs) (hb : base' ≤ base) : w.ownsRow base' e size v n xs := by
  refine ⟨h.1, ?_⟩
  rcases h.2 with hn | ⟨g, cap, cur, e, h1, h2⟩
  · exact .inl hn
  · exact .inr ⟨g, cap, cur, e, Nat.le_trans hb h1, h2⟩
theorem m_below {H : Type} {w w' : World} {P : Program} {k : TypeId} {R : Value → Option (DataW H × List MemPlace)} {b n : Nat} {D : DataW H} (h : w.ownsMap P k R b n D) (hb : Below w.heap.size w w') : w'.ownsMap P k R b n D := by
  have hlt := h.lt
  obtain ⟨es, clock, h1, F, hs, hD⟩ := h
  exact ⟨es, clock, (hb.block b hlt).trans h1, F, hs, hD⟩
/-- The map's keys are the names read. -/
def HasIs (D : DataW Unit) (ps : Prs) : Prop := ∀ s : List UInt8, Maps.has D (.string s) = hasN ps s
theorem hasIs_nil : HasIs (.map []) [] := fun _ => rfl
theorem hasIs_put {D d : DataW Unit} {ps : Prs} (h : HasIs D ps) (hD : IsMap D) (s v : List UInt8) : HasIs (D.put (.string s) d) (ps ++ [(s, v)]) := by
  intro t
  unfold hasN
  rw [List.any_append]
  by_cases hst : t = s
  · subst hst
    rw [has_put_same hD (by trivial)]
    simp
  · rw [has_put_other (by simpa using hst), h t]
    have : (s == t) = false := by rw [beq_eq_false_iff_ne]; exact fun e => hst e.symm
    simp [hasN, this]
theorem key_str (s : List UInt8) (h : s.length ≤ 1024) : keyOf Tryd.prog 9 (strV s) = some (.string s) := Go.WideMaps.keyOf_string_mk (s := ⟨s.toArray⟩) Tryd.underlying9 (by have := str_size s; unfold maxLen; omega)
theorem own_ne {w : World} {B : Nat} {e : TypeId} {size n : Nat} {v : Value} {xs : List Value} (h : w.ownsRow (B + 1) e size v n xs) : v.ownBlock ≠ some B := fun hh => by have := (h.lt _ hh).1; omega
/-- What holds at the head of each round. -/
def PRel (l : List UInt8) (R : Prs × Int × Int) (B : Nat) (W : World) (v i : Value) (wr : World) : Prop :=
  ∃ (k f : Nat) (ps : Prs) (D : DataW Unit), i = .int .i64 k ∧ k ≤ l.length ∧ l.length < f + k ∧ parsN l f ps k = R ∧ ps.length ≤ k ∧ wr.ownsRow (B + 1) 41 2 v ps.length (vQ ps) ∧
    wr.ownsMap Tryd.prog 9 (plainElem Tryd.prog 3) B ps.length D ∧ HasIs D ps ∧ Below B W wr ∧ B + 1 ≤ wr.heap.size
theorem PRel_mk {l : List UInt8} {R : Prs × Int × Int} {B : Nat} {W : World} {v : Value} {wr : World} (k f : Nat) (ps : Prs) (D : DataW Unit) (h1 : k ≤ l.length) (h2 : l.length < f + k) (h3 : parsN l f ps k = R) (h4 : ps.length ≤ k) (h5 : wr.ownsRow (B + 1) 41 2 v ps.length (vQ ps))
    (h6 : wr.ownsMap Tryd.prog 9 (plainElem Tryd.prog 3) B ps.length D) (h7 : HasIs D ps) (h8 : Below B W wr) (h9 : B + 1 ≤ wr.heap.size) : PRel l R B W v (.int .i64 k) wr := ⟨k, f, ps, D, rfl, h1, h2, h3, h4, h5, h6, h7, h8, h9⟩
/-- What Pairs tells. -/
def PairsPost (x : Prs × Int × Int) (W : World) (e : Ending) (w' : World) : Prop :=
  ∃ v, e = .returned (.tuple #[v, .int .i64 x.2.1, .int .i64 x.2.2]) ∧ w'.ownsRow W.heap.size 41 2 v x.1.length (vQ x.1) ∧ Below W.heap.size W w'
theorem pairsPost_no {w w' : World} {e : Int} (hb : Below w.heap.size w w') : PairsPost ([], 0, e) w (.returned (.tuple #[.slice none 0 0, .int .i64 0, .int .i64 e])) w' := ⟨_, rfl, World.ownsRow_nil _ _ _ _, hb⟩

set_option maxHeartbeats 4000000 in
theorem pairs_any (l : List UInt8) (A : Option Addr) (n c : Nat) (k : Int) (w : World) (hn : l.length = n) (hnc : n ≤ c) (hm : c ≤ 9223372036854775807) (hn9 : n ≤ 1000000) (hk : I64 k) (hs : Sees w A (vB l)) (ht : TabC w) :
    Calls Tryd.prog 64 #[.slice A n c, .int .i64 k] w (PairsPost (parsT l k) w) := by
  have hkl := hk.1
  have hkh := hk.2
  by_cases hout : k < 0 ∨ (n : Int) < k
  · have hv : parsT l k = ([], 0, 3) := by unfold parsT; rw [if_pos (by rw [hn]; exact hout)]
    rw [hv]
    clear hv hs
    rcases hout with h0 | h0
    all_goals
      go_enter Tryd.func64, Tryd.ntmps64
      go_wp2_with fail
      go_step3
      go_wp2_with fail
      try rw [Exit.noGoto_ret]
      go_ret3
      exact pairsPost_no (Below.refl _ _)
  · obtain ⟨j, rfl⟩ : ∃ j : Nat, k = j := ⟨k.toNat, by omega⟩
    have hj : j ≤ n := by omega
    obtain ⟨R, hR⟩ : ∃ R, parsT l (j : Int) = R := ⟨_, rfl⟩
    have hR' : parsN l (l.length + 1) [] j = R := by rw [← hR]; unfold parsT; rw [if_neg (by omega), Int.toNat_natCast]
    rw [hR]
    clear hR
    obtain ⟨i0, hi0, hz0, hz1, hz2⟩ := info_parts pairInfo
    have hmm := @run_makeMap Tryd.prog
    have HR := Lib.hid hR'
    have HN := Lib.hid hn
    have KB := Lib.hid (fun (x : Int) (w' : World) (hx : I64 x) (hb : Below w.heap.size w w') => blanks_any l A n c x w' hn hnc (by omega) hx (hs.below hb))
    have KP := Lib.hid (fun (x : Int) (w' : World) (hx : I64 x) (h0 : 0 ≤ x) (h1 : x ≤ n) (hb : Below w.heap.size w w') => pair_any l A n c x w' hn hnc hm hn9 hx (hs.below hb) (ht.below hb) h0 h1)
    have KC := Lib.hid (fun (q : Nat) (hq : q < n) => hs.byte (k := q) (by omega))
    clear hs ht hR' hn
    go_enter Tryd.func64, Tryd.ntmps64
    go_wp2_with fail
    go_step3
    go_wp2_with fail
    (try go_step3)
    go_wp2_with fail
    have dj : decide ((j : Int) < 0) = false := by simp
    have dj2 : decide (n < j) = false := by simp; omega
    simp only [dj, dj2, Bool.or_self]
    clear dj dj2
    go_loopw [7, 9] (fun v i wr => PRel l R w.heap.size w v i wr) (fun _ i _ => n - (intOf i).toNat)
    case atStart =>
      exact PRel_mk j _ [] (.map []) (by rw [HN.out]; omega) (by omega) HR.out (Nat.zero_le _) (World.ownsRow_nil _ _ _ _) (World.ownsMap_made _ _ _ _) hasIs_nil ((Below.refl _ _).alloc (Nat.le_refl _) _) (by simp)
    case round =>
      obtain ⟨k, f, ps, D, rfl, hkn, hf, hrun, hps, hown, hmap, hD, hB, hB1⟩ := hrel
      have hbl := blkN_le l l.length k hkn
      have H2 := KB.out (k : Int) wr ⟨by omega, by rw [HN.out] at hkn; omega⟩ hB
      rw [blkV_in hkn] at H2
      obtain ⟨q, hq⟩ : ∃ q, blkN l l.length k = q := ⟨_, rfl⟩
      rw [hq] at H2 hbl
      have K2 := Lib.hid H2
      have HRUN := Lib.hid hrun
      have HQ := Lib.hid hq
      have HO := Lib.hid hown
      have HM := Lib.hid hmap
      have HD := Lib.hid hD
      rw [HN.out] at hkn hbl hf
      clear hrun hq hown hmap hD H2
      have HF0 : (q = k ∨ q = n ∨ byteAt l q = 47 ∨ byteAt l q = 62) → PairsPost R w (.returned (.tuple #[u7, .int .i64 k, .int .i64 0])) wr := by
        intro h
        have hR0 : R = (ps, (k : Int), 0) := by rw [← HRUN.out]; exact pars_stop f HQ.out (by rw [HN.out]; exact h)
        exact ⟨u7, by rw [hR0], by rw [hR0]; exact q_base HO.out (Nat.le_succ _), hB⟩
      have HF := Lib.hid HF0
      clear HF0
      by_cases hqk : q = k
      · subst hqk
        go_wp2_with fail
        refine K2.out.mono ?_
        rintro e w1 ⟨rfl, rfl⟩
        go_wp2_with fail
        try rw [Exit.noGoto_ret]
        go_ret3
        exact HF.out (.inl (by first | rfl | trivial))
      have tqk : ((q : Int) == (k : Int)) = false := by simp; omega
      by_cases hqn : q = n
      · subst hqn
        go_wp2_with fail
        refine K2.out.mono ?_
        rintro e w1 ⟨rfl, rfl⟩
        go_wp2_with fail
        try rw [Exit.noGoto_ret]
        go_ret3
        exact HF.out (.inr (.inl (by first | rfl | trivial)))
      have tqn : ((q : Int) == (n : Int)) = false := by simp; omega
      have hql : q < n := by omega
      obtain ⟨ad, rfl, hcell0⟩ := KC.out q hql
      have hcell := cell_later hB hcell0
      obtain ⟨d, hd⟩ : ∃ d, byteAt l q = d := ⟨_, rfl⟩
      have hd9 := byteAt_lt l q
      rw [hd] at hcell hd9
      have HDD := Lib.hid hd
      clear hcell0 hd
      by_cases h47 : d = 47
      · subst h47
        go_wp2_with fail
        refine K2.out.mono ?_
        rintro e w1 ⟨rfl, rfl⟩
        go_wp2_with fail
        try rw [Exit.noGoto_ret]
        go_ret3
        exact HF.out (.inr (.inr (.inl HDD.out)))
      by_cases h62 : d = 62
      · subst h62
        go_wp2_with fail
        refine K2.out.mono ?_
        rintro e w1 ⟨rfl, rfl⟩
        go_wp2_with fail
        try rw [Exit.noGoto_ret]
        go_ret3
        exact HF.out (.inr (.inr (.inr HDD.out)))
      have HNS := Lib.hid (show ¬ (q = k ∨ q = l.length ∨ byteAt l q = 47 ∨ byteAt l q = 62) by rw [HN.out, HDD.out]; omega)
      have H3 := KP.out (q : Int) wr ⟨by omega, by omega⟩ (by omega) (by omega) hB
      obtain ⟨f', rfl⟩ : ∃ f', f = f' + 1 := ⟨f - 1, by omega⟩
      clear HF
      by_cases he : (pairT l (q : Int)).2.2.2 = 0
      rotate_left
      · have hpe := pair_err l q he
        obtain ⟨e0, he0⟩ : ∃ e0, (pairT l (q : Int)).2.2.2 = e0 := ⟨_, rfl⟩
        rw [he0] at hpe he
        rw [hpe, quV_no] at H3
        have hR0 : R = ([], 0, e0) := by rw [← HRUN.out]; exact pars_bad f' HQ.out HNS.out hpe he
        subst hR0
        have K3 := Lib.hid H3
        have t1 : (e0 != 0) = true := by simpa using he
        have t47 : ((d : Int) == 47) = false := by simp; omega
        have t62 : ((d : Int) == 62) = false := by simp; omega
        clear H3 hpe he0 he HRUN HR
        go_wp2_with fail
        refine K2.out.mono ?_
        rintro e w1 ⟨rfl, rfl⟩
        go_wp2_with fail
        refine K3.out.mono ?_
        rintro e w1 ⟨rfl, hb1⟩
        have hB2 := Lib.hid (((hB.trans (hb1.mono hB.size)).alloc (hB.trans (hb1.mono hB.size)).size (.cells #[.string ⟨#[]⟩, .string ⟨#[]⟩] 41)))
        have hs2 := (hB.trans (hb1.mono hB.size)).size
        go_wp2_with fail
        try rw [Exit.noGoto_ret]
        go_ret3
        exact pairsPost_no hB2.out
      obtain ⟨s, v1, b, hp, hqb, hbl2, hsl, hvl⟩ := pair_go (by rw [HN.out]; omega) he
      rw [hp] at H3
      unfold quV at H3
      have K3 := Lib.hid H3
      have HP := Lib.hid hp
      have HKEY := Lib.hid (key_str s hsl)
      have t47 : ((d : Int) == 47) = false := by simp; omega
      have t62 : ((d : Int) == 62) = false := by simp; omega
      rw [HN.out] at hbl2 hvl
      have HHAS := Lib.hid (HD.out s)
      clear H3 hp he
      have NC : ∀ w1, Below wr.heap.size wr w1 → Below wr.heap.size wr (w1.alloc (.cells #[.string ⟨s.toArray⟩, .string ⟨v1.toArray⟩] 41)) :=
        fun w1 h => h.alloc h.size _
      have KNC := Lib.hid NC
      clear NC
      cases hh : hasN ps s with
      | true =>
        have hR0 : R = ([], 0, 12) := by rw [← HRUN.out]; exact pars_twice f' HQ.out HNS.out HP.out hh
        subst hR0
        rw [hh] at HHAS
        clear HRUN HR hh
        go_wp2_with fail
        refine K2.out.mono ?_
        rintro e w1 ⟨rfl, rfl⟩
        go_wp2_with fail
        refine K3.out.mono ?_
        rintro e w1 ⟨rfl, hb1⟩
        have c0 : (w1.alloc (.cells #[.string ⟨s.toArray⟩, .string ⟨v1.toArray⟩] 41)).cell? ⟨w1.heap.size, 0, none⟩ = some (.string ⟨s.toArray⟩) := by simp [World.cell?_alloc_new]
        have c1 : (w1.alloc (.cells #[.string ⟨s.toArray⟩, .string ⟨v1.toArray⟩] 41)).cell? ⟨w1.heap.size, 1, none⟩ = some (.string ⟨v1.toArray⟩) := by simp [World.cell?_alloc_new]
        have HB2 := Lib.hid (KNC.out w1 hb1)
        have HM2 := Lib.hid (m_below HM.out HB2.out)
        go_wp2_with (first | (at_lookup; refine wpList_lookup_own_ok_int _ rfl _ _ 148 rfl 9 3 .i64 lawPlaces Tryd.underlying148 Tryd.underlying3 (zeroPlace _) w.heap.size ps.length D rfl HM2.out _ _ rfl HKEY.out ?_; intro cc hat hwc; rw [HHAS.out]; clear hat))
        try rw [Exit.noGoto_ret]
        go_ret3
        exact pairsPost_no (hB.trans (HB2.out.mono hB.size))
      | false =>
        have hR1 : parsN l f' (ps ++ [(s, v1)]) b = R := by rw [← HRUN.out]; exact (pars_on f' HQ.out HNS.out HP.out hh).symm
        have HR1 := Lib.hid hR1
        have HWF := Lib.hid (show (Lit.int .i64 (q : Int)).wf = true from WalkArith.wf_i64 (by omega))
        rw [hh] at HHAS
        clear hR1 hh
        go_wp2_with fail
        refine K2.out.mono ?_
        rintro e w1 ⟨rfl, rfl⟩
        go_wp2_with fail
        refine K3.out.mono ?_
        rintro e w1 ⟨rfl, hb1⟩
        have c0 : (w1.alloc (.cells #[.string ⟨s.toArray⟩, .string ⟨v1.toArray⟩] 41)).cell? ⟨w1.heap.size, 0, none⟩ = some (.string ⟨s.toArray⟩) := by simp [World.cell?_alloc_new]
        have c1 : (w1.alloc (.cells #[.string ⟨s.toArray⟩, .string ⟨v1.toArray⟩] 41)).cell? ⟨w1.heap.size, 1, none⟩ = some (.string ⟨v1.toArray⟩) := by simp [World.cell?_alloc_new]
        have HB2 := Lib.hid (KNC.out w1 hb1)
        have HM2 := Lib.hid (m_below HM.out HB2.out)
        have HO2 := Lib.hid (q_below HO.out HB2.out)
        have hB3 := Lib.hid (hB.trans (HB2.out.mono hB.size))
        have hw1 := hb1.size
        have hne := Lib.hid (own_ne HO.out)
        go_wp2_with (first
          | (at_lookup; refine wpList_lookup_own_ok_int _ rfl _ _ 148 rfl 9 3 .i64 lawPlaces Tryd.underlying148 Tryd.underlying3 (zeroPlace _) w.heap.size ps.length D rfl HM2.out _ _ rfl HKEY.out ?_; intro cc hat hwc; rw [HHAS.out]; clear hat hwc)
          | (at_mapUpdate; refine wpList_mapUpdate_own _ rfl _ _ _ 148 rfl 9 3 lawPlaces Tryd.underlying148 _ w.heap.size ps.length D rfl HM2.out (by unfold maxLen; omega) _ _ _ rfl rfl HKEY.out _ [] (plainElem_int Tryd.underlying3 HWF.out) ?_; intro w3 hown3 hgrow3; have HM3 := Lib.hid hown3; have HO3 := Lib.hid (HO2.out.kept hgrow3 (.inr hne.out)); have HB4 := Lib.hid (hB3.out.grown hgrow3 hB3.out.size (fun j hj => by cases hj; exact Nat.le_refl _)); have hsz := hB3.out.size; have hsz2 := HB2.out.size; have hsz3 := hgrow3.size; have x0 := (World.cell?_of_block (hgrow3.block w1.heap.size (by simp) (by simp; omega)) : w3.cell? ⟨w1.heap.size, 0, none⟩ = _).trans c0; have x1 := (World.cell?_of_block (hgrow3.block w1.heap.size (by simp) (by simp; omega)) : w3.cell? ⟨w1.heap.size, 1, none⟩ = _).trans c1; clear hown3 hgrow3)
          | (at_builtin; refine wpList_append_own _ rfl _ _ 22 rfl (w.heap.size + 1) 41 i0 (.agg #[.string ⟨#[]⟩, .string ⟨#[]⟩]) 2 32 Tryd.underlying22 hi0 hz0 hz1 hz2 rfl (by decide) _ ps.length (vQ ps) rfl (HO3.out.alloc _) ⟨w3.heap.size, 0, none⟩ 1 1 (vQ [(s, v1)]) rfl rfl (q_cells w3 (vQ [(s, v1)]) _) (vQ_one _) (by unfold maxLen; omega) (by omega) (by simp; omega) ?_; intro v' w4 hown4 hgrow4 _; rw [← vQ_append] at hown4; have HO4 := Lib.hid hown4; have HM4 := Lib.hid ((HM3.out.alloc _).kept hgrow4 (fun e => hne.out e.symm)); have HB5 := Lib.hid ((HB4.out.alloc HB4.out.size _).grown hgrow4 (by simp; omega) (fun j hj => by have := (HO3.out.lt j hj).1; omega)); have hsz4 := hgrow4.size; clear hown4 hgrow4))
        go_roundw
        case rel => exact PRel_mk b f' (ps ++ [(s, v1)]) _ (by rw [HN.out]; omega) (by rw [HN.out]; omega) HR1.out (by rw [List.length_append]; simp; omega) (by rw [List.length_append]; exact HO4.out) (by rw [List.length_append]; exact HM4.out) (hasIs_put HD.out HM.out.isMap s v1) HB5.out (by simp at hsz4; omega)
        case measure => simp [intOf]; omega
end Go.Proofs.YtdmfladcldkmeaaDoor
namespace Go.Proofs.YtdmfladcldkmeaaDoor
open Go.ChangeShapes Go.WideShapes Go.ChangeAt Go.RowKit Go.Maps
set_option linter.unusedVariables false
set_option maxRecDepth 100000

theorem vQ_get (ps : Prs) (k : Nat) (p : List UInt8 × List UInt8) (h : ps[k]? = some p) : (vQ ps)[k * 2]? = some (strV p.1) ∧ (vQ ps)[k * 2 + 1]? = some (strV p.2) := by
  have := vQ_at ps k p h
  rw [Nat.mul_comm] at this
  exact this
theorem fld2 (a : Addr) (j n : Nat) (hn : n ≠ 0) : a.add (j + n) = ⟨(a.add j).block, (a.add j).off + n, none⟩ := by
  rw [← addr_add_add a j n]
  generalize a.add j = b
  unfold Addr.add
  rw [if_neg hn]
/-- The two cells of a pair. -/
theorem Sees.pair {w : World} {A : Option Addr} {ps : Prs} (h : Sees w A (vQ ps)) {k : Nat} {p : List UInt8 × List UInt8} (hk : ps[k]? = some p) :
    ∃ ad, A = some ad ∧ w.cell? (ad.add (k * 2)) = some (strV p.1) ∧ w.cell? ⟨(ad.add (k * 2)).block, (ad.add (k * 2)).off + 1, none⟩ = some (strV p.2) := by
  obtain ⟨h1, h2⟩ := vQ_get ps k p hk
  obtain ⟨ad, e, hc⟩ := h (by intro h0; rw [h0] at h1; simp at h1)
  exact ⟨ad, e, hc _ _ h1, by rw [← fld2 ad (k * 2) 1 (by omega)]; exact hc _ _ h2⟩
theorem own_sees {w : World} {base : Nat} {e : TypeId} {n : Nat} {v : Value} {ps : Prs} (h : w.ownsRow base e 2 v n (vQ ps)) : ∃ A c, v = .slice A n c ∧ Sees w A (vQ ps) ∧ n ≤ c ∧ c ≤ 9223372036854775807 := by
  rcases h.2 with ⟨rfl, h1⟩ | ⟨g, cap, cur, rfl, h2, h3, h4, h5⟩
  · subst h1
    have : ps = [] := by
      have h6 := h.1
      rw [vQ_len] at h6
      exact List.eq_nil_of_length_eq_zero (by omega)
    subst this
    exact ⟨none, 0, rfl, sees_nil _ _, Nat.le_refl _, by omega⟩
  · refine ⟨_, _, rfl, fun _ => ⟨_, rfl, h.cells (g := g) rfl⟩, h4, ?_⟩
    have := h5.1
    unfold maxLen at this
    omega
set_option maxHeartbeats 2000000 in
theorem rsameS_any (ps : Prs) (A B : Option Addr) (n c1 c2 : Nat) (w : World) (hn : ps.length = n) (hn9 : n ≤ 1000000) (h1 : Sees w A (vQ ps)) (h2 : Sees w B (vQ ps)) :
    Calls Tryd.prog 23 #[.slice A n c1, .slice B n c2] w fun e w' => e = .returned (.bool true) ∧ Below w.heap.size w w' := by
  have HC1 := Lib.hid h1
  have HC2 := Lib.hid h2
  have HN := Lib.hid hn
  clear h1 h2 hn
  go_enter Tryd.func23, Tryd.ntmps23
  go_wp2_with fail
  go_loopw [5] (fun i wr => ∃ k : Nat, k ≤ n ∧ i = .int .i64 k ∧ ∃ nq, wr = w.drewN nq) (fun i _ => n - (intOf i).toNat)
  case atStart => exact ⟨0, by omega, rfl, 0, rfl⟩
  case round =>
    obtain ⟨k, hk, rfl, nq, rfl⟩ := hrel
    by_cases hlt : k < n
    · obtain ⟨p, hp⟩ : ∃ p, ps[k]? = some p := ⟨_, List.getElem?_eq_getElem (by rw [HN.out]; exact hlt)⟩
      obtain ⟨a1, rfl, h1, h2⟩ := HC1.out.pair hp
      obtain ⟨a2, rfl, h3, h4⟩ := HC2.out.pair hp
      obtain ⟨x, y⟩ := p
      unfold strV at h1 h2 h3 h4
      simp only at h1 h2 h3 h4
      have i0 : (0 : Int) ≤ (k : Int) := by omega
      have i1 : (k : Int) < (n : Int) := by omega
      clear hp
      go_wp2_with fail
      go_quiet (fail)
      go_wp2_with fail
      go_roundw
      case rel => exact ⟨k + 1, by omega, by go_num, _, rfl⟩
      case measure => simp [intOf]; omega
    · go_wp2_with fail
      go_ret
      exact ⟨rfl, below_dr (Below.refl _ _) _⟩
end Go.Proofs.YtdmfladcldkmeaaDoor
namespace Go.Proofs.YtdmfladcldkmeaaDoor
open Go.ChangeShapes Go.WideShapes Go.ChangeAt Go.RowKit Go.Maps
set_option linter.unusedVariables false
set_option maxRecDepth 100000

theorem q_form {w : World} {base : Nat} {e : TypeId} {n : Nat} {v : Value} {ps : Prs} (h : w.ownsRow base e 2 v n (vQ ps)) (hn : ps.length = n) :
    (v = .slice none 0 0 ∧ n = 0) ∨ ∃ g cp, v = .slice (some ⟨g, 0, none⟩) n cp ∧ base ≤ g ∧ n ≤ cp ∧ ∀ k p, ps[k]? = some p → w.cell? ⟨g, k * 2, none⟩ = some (strV p.1) ∧ w.cell? ⟨g, k * 2 + 1, none⟩ = some (strV p.2) := by
  rcases h.2 with h1 | ⟨g, cap, cur, rfl, h2, _, h4, _⟩
  · exact .inl h1
  · refine .inr ⟨g, cap, rfl, h2, h4, fun k p hp => ?_⟩
    have hc := h.cells (g := g) rfl
    have ha : ∀ j, (⟨g, 0, none⟩ : Addr).add j = ⟨g, j, none⟩ := by
      intro j; unfold Addr.add; split
      · next h0 => rw [h0]
      · simp
    obtain ⟨q1, q2⟩ := vQ_at ps k p hp
    have e1 := hc _ _ q1
    have e2 := hc _ _ q2
    rw [ha] at e1 e2
    rw [Nat.mul_comm] at e1 e2
    exact ⟨e1, e2⟩
theorem hasN_take {ps : Prs} {s : List UInt8} {k : Nat} {p : List UInt8 × List UInt8} (hp : ps[k]? = some p) (h : hasN (ps.take k) s = false) : hasN (ps.take (k + 1)) s = (p.1 == s) := by
  unfold hasN at h ⊢
  rw [List.take_add_one, List.any_append, h, hp]
  simp
theorem hasN_yes {ps : Prs} {s : List UInt8} {k : Nat} (h : hasN (ps.take k) s = true) : hasN ps s = true := by
  unfold hasN at h ⊢
  rw [List.any_eq_true] at h ⊢
  obtain ⟨x, hx, h2⟩ := h
  exact ⟨x, List.mem_of_mem_take hx, h2⟩
set_option maxHeartbeats 2000000 in
theorem rhasP_any (ps : Prs) (s : List UInt8) (base : Nat) (v : Value) (n : Nat) (w : World) (hn : ps.length = n) (hn9 : n ≤ 1000000) (h : w.ownsRow base 41 2 v n (vQ ps)) :
    Calls Tryd.prog 61 #[v, strV s] w fun e w' => e = .returned (.bool (hasN ps s)) ∧ w = w' := by
  rcases q_form h hn with ⟨rfl, rfl⟩ | ⟨g, cp, rfl, _, hcp, hc⟩
  · have hv : hasN ps s = false := by rw [List.eq_nil_of_length_eq_zero hn]; rfl
    rw [hv]
    clear h hv hn
    go_enter Tryd.func61, Tryd.ntmps61
    go_wp2_with fail
    go_loopw [5] (fun i wr => i = .int .i64 0 ∧ wr = w) (fun _ _ => 0)
    case atStart => exact ⟨rfl, rfl⟩
    case round =>
      obtain ⟨rfl, rfl⟩ := hrel
      go_wp2_with fail
      go_ret
      exact ⟨rfl, rfl⟩
  · have HC := Lib.hid hc
    have HN := Lib.hid hn
    clear h hc hn
    go_enter Tryd.func61, Tryd.ntmps61
    go_wp2_with fail
    go_loopw [5] (fun i wr => ∃ k : Nat, i = .int .i64 k ∧ k ≤ n ∧ Hid (hasN (ps.take k) s = false) ∧ wr = w) (fun i _ => n - (intOf i).toNat)
    case atStart => exact ⟨0, rfl, Nat.zero_le _, Lib.hid rfl, rfl⟩
    case round =>
      obtain ⟨k, rfl, hk, hno, rfl⟩ := hrel
      by_cases hlt : k < n
      · obtain ⟨p, hp⟩ : ∃ p, ps[k]? = some p := ⟨_, List.getElem?_eq_getElem (by rw [HN.out]; exact hlt)⟩
        have hcell := (HC.out k p hp).1
        have HT := Lib.hid (hasN_take hp hno.out)
        clear hp
        cases hpq : (p.1 == s) with
        | true =>
          rw [hpq] at HT
          have HV := Lib.hid (hasN_yes HT.out)
          unfold strV at hcell
          go_wp2_with fail
          go_ret
          exact ⟨by rw [HV.out]; rfl, rfl⟩
        | false =>
          rw [hpq] at HT
          unfold strV at hcell
          go_wp2_with fail
          go_roundw
          case rel => exact ⟨k + 1, by go_num, by omega, HT, trivial⟩
          case measure => simp [intOf]; omega
      · have hv : hasN ps s = false := by
          have h1 := hno.out
          rwa [List.take_of_length_le (by rw [HN.out]; omega)] at h1
        have HV := Lib.hid hv
        clear hv
        go_wp2_with fail
        go_ret
        exact ⟨by rw [HV.out]; rfl, rfl⟩
end Go.Proofs.YtdmfladcldkmeaaDoor
namespace Go.Proofs.YtdmfladcldkmeaaDoor
open Go.ChangeShapes Go.WideShapes Go.ChangeAt Go.RowKit Go.Maps
set_option linter.unusedVariables false
set_option maxRecDepth 100000


end Go.Proofs.YtdmfladcldkmeaaDoor
namespace Go.Proofs.YtdmfladcldkmeaaDoor
open Go.ChangeShapes Go.WideShapes Go.ChangeAt Go.RowKit Go.Maps
set_option linter.unusedVariables false
set_option maxRecDepth 100000

set_option maxHeartbeats 1000000 in
theorem rsameP_none (A B : Option Addr) (c1 c2 : Nat) (w : World) :
    Calls Tryd.prog 23 #[.slice A 0 c1, .slice B 0 c2] w fun e w' => e = .returned (.bool true) ∧ Below w.heap.size w w' := by
  go_enter Tryd.func23, Tryd.ntmps23
  go_wp2_with fail
  go_loopw [5] (fun i wr => i = .int .i64 0 ∧ wr = w) (fun _ _ => 0)
  case atStart => exact ⟨rfl, rfl⟩
  case round =>
    obtain ⟨rfl, rfl⟩ := hrel
    go_wp2_with fail
    go_ret
    exact ⟨rfl, Below.refl _ _⟩
set_option maxHeartbeats 2000000 in
theorem rsameP_some (ps : Prs) (n g1 g2 c1 c2 : Nat) (w : World) (hn : ps.length = n) (hn9 : n ≤ 1000000)
    (hc1 : ∀ k p, ps[k]? = some p → w.cell? ⟨g1, k * 2, none⟩ = some (strV p.1) ∧ w.cell? ⟨g1, k * 2 + 1, none⟩ = some (strV p.2))
    (hc2 : ∀ k p, ps[k]? = some p → w.cell? ⟨g2, k * 2, none⟩ = some (strV p.1) ∧ w.cell? ⟨g2, k * 2 + 1, none⟩ = some (strV p.2)) :
    Calls Tryd.prog 23 #[.slice (some ⟨g1, 0, none⟩) n c1, .slice (some ⟨g2, 0, none⟩) n c2] w fun e w' => e = .returned (.bool true) ∧ Below w.heap.size w w' := by
  have HC1 := Lib.hid hc1
  have HC2 := Lib.hid hc2
  have HN := Lib.hid hn
  clear hc1 hc2 hn
  go_enter Tryd.func23, Tryd.ntmps23
  go_wp2_with fail
  go_loopw [5] (fun i wr => ∃ k : Nat, k ≤ n ∧ i = .int .i64 k ∧ ∃ nq, wr = w.drewN nq) (fun i _ => n - (intOf i).toNat)
  case atStart => exact ⟨0, by omega, rfl, 0, rfl⟩
  case round =>
    obtain ⟨k, hk, rfl, nq, rfl⟩ := hrel
    by_cases hlt : k < n
    · obtain ⟨p, hp⟩ : ∃ p, ps[k]? = some p := ⟨_, List.getElem?_eq_getElem (by rw [HN.out]; exact hlt)⟩
      obtain ⟨h1, h2⟩ := HC1.out k p hp
      obtain ⟨h3, h4⟩ := HC2.out k p hp
      obtain ⟨x, y⟩ := p
      unfold strV at h1 h2 h3 h4
      simp only at h1 h2 h3 h4
      have i0 : (0 : Int) ≤ (k : Int) := by omega
      have i1 : (k : Int) < (n : Int) := by omega
      clear hp
      go_wp2_with fail
      go_quiet (fail)
      go_wp2_with fail
      go_roundw
      case rel => exact ⟨k + 1, by omega, by go_num, _, rfl⟩
      case measure => simp [intOf]; omega
    · go_wp2_with fail
      go_ret
      exact ⟨rfl, below_dr (Below.refl _ _) _⟩
theorem rsameP_any (ps : Prs) (b1 b2 : Nat) (v1 v2 : Value) (n : Nat) (w : World) (hn : ps.length = n) (hn9 : n ≤ 1000000) (h1 : w.ownsRow b1 41 2 v1 n (vQ ps)) (h2 : w.ownsRow b2 41 2 v2 n (vQ ps)) :
    Calls Tryd.prog 23 #[v1, v2] w fun e w' => e = .returned (.bool true) ∧ Below w.heap.size w w' := by
  rcases q_form h1 hn with ⟨rfl, h3⟩ | ⟨g1, c1, rfl, _, _, hc1⟩
  · subst h3
    rcases q_form h2 hn with ⟨rfl, h4⟩ | ⟨g2, c2, rfl, _, _, hc2⟩
    · exact rsameP_none _ _ _ _ _
    · exact rsameP_none _ _ _ _ _
  · rcases q_form h2 hn with ⟨rfl, h4⟩ | ⟨g2, c2, rfl, _, _, hc2⟩
    · subst h4
      exact rsameP_none _ _ _ _ _
    · exact rsameP_some ps n g1 g2 c1 c2 w hn hn9 hc1 hc2
end Go.Proofs.YtdmfladcldkmeaaDoor
