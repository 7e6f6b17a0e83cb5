/- The page's example of layer 35; what attributes bind, whatever they are. Rows of attributes, and structures of texts, that came in. Which prefix may be bound to which namespace: BindMay's walk. Tags: what is written is read as itself (pure). Escape and Digits, by the document. -/
import Derived.Deep.Slices
import Derived.ChangeSame
import Derived.Lib.SmallJoins
import Derived.Lib.ItoaNum
import Derived.Lib.ItoaLen
import Derived.Lib.ItoaMem
import Derived.Test.YtdmfladcldkmeaaDoorPkae
import Derived.Test.YtdmfladcldkmeaaDoorPkaf
import Derived.Test.YtdmfladcldkmeaaDoorPkag
import Derived.Test.YtdmfladcldkmeaaDoorPkak
import Derived.Test.YtdmfladcldkmeaaDoorPkal
import Derived.Test.YtdmfladcldkmeaaDoorPkam
namespace Go.Proofs.YtdmfladcldkmeaaDoor
open Go.ChangeShapes Go.WideShapes Go.ChangeAt Go.RowKit
set_option linter.unusedVariables false
set_option maxRecDepth 100000

def liveP : Prs := [([120, 109, 108, 110, 115, 58, 112], [117]), ([97], [49])]
theorem liveP_bn : bnN liveP [] [] = ([([112], [117])], [([97], [49])], 0) := by kernel_rfl
theorem eqBind (s t : ByteArray) (w : World) : (binOp .eql 80 (.agg #[.string s, .string t]) (.agg #[.string s, .string t])).run Tryd.prog w = .ok (.bool true) w := by simp [go_sem]
/-- The first pair of a row of the call's own. -/
theorem q_first {w : World} {base : Nat} {e : TypeId} {v : Value} {s t : List UInt8} (h : w.ownsRow base e 2 v 1 (vQ [(s, t)])) : ∃ g cp, v = .slice (some ⟨g, 0, none⟩) 1 cp ∧ w.cell? ⟨g, 0, none⟩ = some (.string ⟨s.toArray⟩) ∧ w.cell? ⟨g, 1, none⟩ = some (.string ⟨t.toArray⟩) ∧ base ≤ g := by
  rcases q_form h rfl with ⟨_, h0⟩ | ⟨g, cp, hv, hg, _, hc⟩
  · cases h0
  · have := hc 0 (s, t) rfl
    exact ⟨g, cp, hv, by simpa using this.1, by simpa using this.2, hg⟩
set_option maxHeartbeats 2000000 in
theorem live35_any (w : World) (ht : TabN w) : Calls Tryd.prog 47 #[] w fun e w' => e = .returned (.bool true) ∧ Below w.heap.size w w' := by
  have B0 := (Below.refl w.heap.size w).alloc (Nat.le_refl _) (.cells (vQ liveP).toArray 41)
  have H := split_any liveP (some ⟨w.heap.size, 0, none⟩) 2 2 _ rfl (by omega) (sees_lit w (vQ liveP) 41 (0, 0)) (by decide) (ht.below B0)
  rw [liveP_bn] at H
  have K := Lib.hid H
  have e1 := eqBind ⟨#[112]⟩ ⟨#[117]⟩
  clear H ht
  go_enter Tryd.func47, Tryd.ntmps47
  go_wp2_with fail
  refine K.out.mono ?_
  rintro e w1 ⟨v1, v2, rfl, o1, o2, hb⟩
  have hb1 := B0.trans (hb.mono (by simp))
  obtain ⟨g1, d1, rfl, x0, x1, _⟩ := q_first o1
  obtain ⟨g2, d2, rfl, y0, y1, _⟩ := q_first o2
  clear o1 o2 hb B0 K
  simp only
  go_wp2_with fail
  go_ret
  exact ⟨rfl, hb1⟩
set_option maxHeartbeats 4000000 in
theorem bindSplits_any (l : Prs) (A : Option Addr) (n c : Nat) (w : World) (hn : l.length = n) (hn9 : n ≤ 9223372036854775807) (hs : Sees w A (vQ l)) (ht : TabN w) :
    Calls Tryd.prog 14 #[.slice A n c] w fun e w' => e = .returned (.bool true) ∧ Below w.heap.size w w' := by
  have HL := Lib.hid (fun (w' : World) (hb : Below w.heap.size w w') => live35_any w' (ht.below hb))
  have HG := great35_any l A n c w hn hn9 hs
  cases hg : greatP l with
  | true =>
    rw [hg] at HG
    have KG := Lib.hid HG
    clear hs ht hn hg HG
    go_enter Tryd.func14, Tryd.ntmps14
    go_wp2_with fail
    refine KG.out.mono ?_
    rintro e w1 ⟨rfl, hb1⟩
    go_wp2_with fail
    refine (HL.out w1 hb1).mono ?_
    rintro e w2 ⟨rfl, hb2⟩
    go_wp2_with fail
    go_ret
    exact ⟨rfl, hb1.trans (hb2.mono hb1.size)⟩
  | false =>
    obtain ⟨h20, h300⟩ := greatP_no hg
    rw [hg] at HG
    have KG := Lib.hid HG
    have H1 := Lib.hid (fun (w' : World) (hb : Below w.heap.size w w') => split_any l A n c w' hn (by omega) (hs.below hb) (fun p hp => by have := h300 p hp; omega) (ht.below hb))
    have H2 := Lib.hid (fun (w' : World) (hb : Below w.heap.size w w') => rsplit_any l A n c w' hn (by omega) (hs.below hb) (fun p hp => by have := h300 p hp; omega))
    have hlen := bn_len l [] []
    obtain ⟨a, b, e0, hR⟩ : ∃ a b e0, bnN l [] [] = (a, b, e0) := ⟨_, _, _, rfl⟩
    have herr := bn_err_form l [] []
    rw [hR] at H1 H2 hlen herr
    simp only [List.length_nil, Nat.zero_add] at hlen herr
    have hab : a.length ≤ 20 ∧ b.length ≤ 20 ∧ (e0 = 0 → a.length + b.length = n) := by
      by_cases h0 : e0 = 0
      · have := hlen h0; omega
      · have h1 := herr h0
        injection h1 with h1 h2
        injection h2 with h2 _
        subst h1; subst h2
        exact ⟨by simp, by simp, fun h => absurd h h0⟩
    obtain ⟨ha9, hb9, hsum⟩ := hab
    have S1 := Lib.hid (fun (A B : Option Addr) (c1 c2 : Nat) (w : World) (h1 : Sees w A (vQ a)) (h2 : Sees w B (vQ a)) => same35_any a A B a.length c1 c2 w rfl (by omega) h1 h2)
    have S2 := Lib.hid (fun (A B : Option Addr) (c1 c2 : Nat) (w : World) (h1 : Sees w A (vQ b)) (h2 : Sees w B (vQ b)) => rsameS_any b A B b.length c1 c2 w rfl (by omega) h1 h2)
    clear hs ht hg HG hR herr hlen
    by_cases h0 : e0 = 0
    · have t2 : ((a.length : Int) + (b.length : Int) == (n : Int)) = true := by have := hsum h0; simp; omega
      subst h0
      clear hn hsum h300
      go_enter Tryd.func14, Tryd.ntmps14
      go_wp2_with fail
      refine KG.out.mono ?_
      rintro e w1 ⟨rfl, hb1⟩
      go_wp2_with fail
      refine (H1.out w1 hb1).mono ?_
      rintro e w2 ⟨v1, v2, rfl, o1, o2, c2⟩
      have hb2 := hb1.trans (c2.mono hb1.size)
      obtain ⟨A1, d1, rfl, s1, _, _⟩ := own_sees o1
      obtain ⟨A2, d2, rfl, s2, _, _⟩ := own_sees o2
      have Q1 := Lib.hid s1
      have Q2 := Lib.hid s2
      clear o1 o2 c2 s1 s2
      simp only
      go_wp2_with fail
      refine (H2.out w2 hb2).mono ?_
      rintro e w3 ⟨v3, v4, rfl, o3, o4, c3⟩
      have hb3 := hb2.trans (c3.mono hb2.size)
      obtain ⟨A3, d3, rfl, s3, _, _⟩ := own_sees o3
      obtain ⟨A4, d4, rfl, s4, _, _⟩ := own_sees o4
      have C1 := Lib.hid (S1.out A1 A3 d1 d3 w3 (Q1.out.below c3) s3)
      have C2 := Lib.hid (fun (w' : World) (hb : Below w3.heap.size w3 w') => S2.out A2 A4 d2 d4 w' ((Q2.out.below c3).below hb) (s4.below hb))
      clear o3 o4 c3 s3 s4
      simp only
      go_wp2_with fail
      refine C1.out.mono ?_
      rintro e w4 ⟨rfl, c4⟩
      have hb4 := hb3.trans (c4.mono hb3.size)
      have C3 := Lib.hid (C2.out w4 c4)
      clear c4
      go_wp2_with fail
      refine C3.out.mono ?_
      rintro e w5 ⟨rfl, c5⟩
      have hb5 := hb4.trans (c5.mono hb4.size)
      clear c5
      go_wp2_with fail
      refine (HL.out w5 hb5).mono ?_
      rintro e w6 ⟨rfl, c6⟩
      go_wp2_with fail
      go_ret
      exact ⟨rfl, hb5.trans (c6.mono hb5.size)⟩
    · have t1 : (e0 != 0) = true := by simpa using h0
      clear hn hsum h300 h0
      go_enter Tryd.func14, Tryd.ntmps14
      go_wp2_with fail
      refine KG.out.mono ?_
      rintro e w1 ⟨rfl, hb1⟩
      go_wp2_with fail
      refine (H1.out w1 hb1).mono ?_
      rintro e w2 ⟨v1, v2, rfl, o1, o2, c2⟩
      have hb2 := hb1.trans (c2.mono hb1.size)
      obtain ⟨A1, d1, rfl, s1, _, _⟩ := own_sees o1
      obtain ⟨A2, d2, rfl, s2, _, _⟩ := own_sees o2
      have Q1 := Lib.hid s1
      have Q2 := Lib.hid s2
      clear o1 o2 c2 s1 s2
      simp only
      go_wp2_with fail
      refine (H2.out w2 hb2).mono ?_
      rintro e w3 ⟨v3, v4, rfl, o3, o4, c3⟩
      have hb3 := hb2.trans (c3.mono hb2.size)
      obtain ⟨A3, d3, rfl, s3, _, _⟩ := own_sees o3
      obtain ⟨A4, d4, rfl, s4, _, _⟩ := own_sees o4
      have C1 := Lib.hid (S1.out A1 A3 d1 d3 w3 (Q1.out.below c3) s3)
      have C2 := Lib.hid (fun (w' : World) (hb : Below w3.heap.size w3 w') => S2.out A2 A4 d2 d4 w' ((Q2.out.below c3).below hb) (s4.below hb))
      clear o3 o4 c3 s3 s4
      simp only
      go_wp2_with fail
      refine C1.out.mono ?_
      rintro e w4 ⟨rfl, c4⟩
      have hb4 := hb3.trans (c4.mono hb3.size)
      have C3 := Lib.hid (C2.out w4 c4)
      clear c4
      go_wp2_with fail
      refine C3.out.mono ?_
      rintro e w5 ⟨rfl, c5⟩
      have hb5 := hb4.trans (c5.mono hb4.size)
      clear c5
      go_wp2_with fail
      refine (HL.out w5 hb5).mono ?_
      rintro e w6 ⟨rfl, c6⟩
      go_wp2_with fail
      go_ret
      exact ⟨rfl, hb5.trans (c6.mono hb5.size)⟩
end Go.Proofs.YtdmfladcldkmeaaDoor
namespace Go.Proofs.YtdmfladcldkmeaaDoor
open Go.ChangeShapes Go.WideShapes Go.ChangeAt Go.RowKit
set_option linter.unusedVariables false
set_option maxRecDepth 100000

theorem fl_get {α : Type} {C : α → List Value} {k : Nat} (hk : 0 < k) (hC : ∀ x, (C x).length = k) : ∀ (l : List α) (j : Nat) (u : Value), (l.flatMap C)[j]? = some u → ∃ (i r : Nat) (x : α), l[i]? = some x ∧ j = i * k + r ∧ r < k ∧ (C x)[r]? = some u
  | [], j, u, h => by simp at h
  | x :: l, j, u, h => by
    rw [List.flatMap_cons] at h
    by_cases hj : j < k
    · rw [List.getElem?_append_left (by rw [hC]; exact hj)] at h
      exact ⟨0, j, x, rfl, by omega, hj, h⟩
    · rw [List.getElem?_append_right (by rw [hC]; omega), hC] at h
      obtain ⟨i, r, y, h1, h2, h3, h4⟩ := fl_get hk hC l (j - k) u h
      exact ⟨i + 1, r, y, by simpa using h1, by rw [Nat.add_mul]; omega, h3, h4⟩
theorem se_rows {α : Type} [Inhabited α] {C : α → List Value} {k len : Nat} {w : World} {a : Addr} (hk : 0 < k) (hC : ∀ x, (C x).length = k) (h : ∀ i, i < len → ∃ x, ∀ j, j < k → w.cell? (a.add (i * k + j)) = (C x)[j]?) :
    ∃ l : List α, l.length = len ∧ Sees w (some a) (l.flatMap C) := by
  obtain ⟨f, hf⟩ := Go.Deep.choose_lt h
  have key : ∀ i x, ((List.range len).map f)[i]? = some x → i < len ∧ x = f i := by
    intro i x hx
    rw [List.getElem?_map] at hx
    by_cases hi : i < len
    · rw [List.getElem?_range hi] at hx
      exact ⟨hi, (Option.some.inj hx).symm⟩
    · rw [List.getElem?_eq_none (by simpa using hi)] at hx
      cases hx
  refine ⟨(List.range len).map f, by simp, fun _ => ⟨a, rfl, fun j u hu => ?_⟩⟩
  obtain ⟨i, r, x, h1, rfl, h3, h4⟩ := fl_get hk hC _ j u hu
  obtain ⟨hi, rfl⟩ := key i x h1
  rw [hf i hi r h3, h4]
/-- A pair's cells. -/
def qC (p : List UInt8 × List UInt8) : List Value := [strV p.1, strV p.2]
theorem vQ_flat : ∀ ps : Prs, vQ ps = ps.flatMap qC
  | [] => rfl
  | p :: ps => by rw [vQ, vQ_flat ps]; rfl
theorem str_eta (s : ByteArray) : Value.string s = strV s.data.toList := rfl
section Opn
variable {H : Type} {enc : TypeId × Value → H} {W : World} {base : Nat} {spare : Nat → Bool} {held : Bool}
theorem open_pair {fuel : Nat} {cs : List Value} {x : DataW H × List MemPlace} (h : DataW.trod enc Tryd.prog W base spare held fuel 41 cs = some x) : ∃ p : List UInt8 × List UInt8, cs = qC p := by
  obtain ⟨xs, n, _, _, hl, hxl, hf⟩ := DataW.trod_struct Tryd.underlying41 h
  rw [show Tryd.prog.cellsOf 41 = 2 by kernel_rfl] at hl
  match cs, hl with
  | [c0, c1], _ =>
    have h0 : DataW.trod enc Tryd.prog W base spare held n 9 (([c0, c1].drop 0).take (Tryd.prog.cellsOf 9)) = xs[0]? := hf 0 _ rfl
    have h1 : DataW.trod enc Tryd.prog W base spare held n 9 (([c0, c1].drop 1).take (Tryd.prog.cellsOf 9)) = xs[1]? := hf 1 _ rfl
    rw [show Tryd.prog.cellsOf 9 = 1 by kernel_rfl, List.getElem?_eq_getElem (by rw [hxl]; decide)] at h0 h1
    obtain ⟨s, e0, _⟩ := DataW.trod_string Tryd.underlying9 h0
    obtain ⟨t, e1, _⟩ := DataW.trod_string Tryd.underlying9 h1
    simp at e0 e1
    exact ⟨(s.data.toList, t.data.toList), by rw [e0, e1]; rfl⟩
theorem open_pairs {fuel : Nat} {cs : List Value} {x : DataW H × List MemPlace} (h : DataW.trod enc Tryd.prog W base spare held fuel 22 cs = some x) :
    ∃ (l : Prs) (A : Option Addr) (c : Nat), cs = [.slice A l.length c] ∧ l.length ≤ c ∧ c ≤ 9223372036854775807 ∧ Sees W A (vQ l) := by
  rcases Go.Deep.open_slice Tryd.underlying22 h with ⟨h1, _⟩ | ⟨a, len, cap, m, n, D, Pl, h1, _, hl, hm, hmm, _, hel⟩
  · exact ⟨[], none, 0, h1, Nat.le_refl _, by omega, sees_nil _ _⟩
  · have hlm : len ≤ m := by rw [hmm]; split <;> omega
    rw [show Tryd.prog.cellsOf 41 = 2 by kernel_rfl] at hel
    obtain ⟨l, h2, h3⟩ := se_rows (C := qC) (k := 2) (len := len) (w := W) (a := a) (by omega) (fun _ => rfl) (fun i hi => by
      obtain ⟨cs', hc, ht⟩ := hel i (by omega)
      obtain ⟨_, _, hcell⟩ := World.cells?_some hc
      obtain ⟨p, rfl⟩ := open_pair ht
      exact ⟨p, fun j hj => by rw [← hcell j hj, addr_add_add]⟩)
    exact ⟨l, some a, cap, by rw [h1, h2], by omega, by unfold maxLen at hm; omega, by rw [vQ_flat]; exact h3⟩
/-- An argument that is a row of attributes. -/
theorem opn_prs {v : Value} {d : DataW H} {p : List MemPlace} (h : DataW.Trod enc Tryd.prog W base spare held 22 v d p) (hv : Value.okWide Tryd.prog W .any base 22 v) :
    ∃ x : Prs × Option Addr × Nat, v = .slice x.2.1 x.1.length x.2.2 ∧ x.1.length ≤ x.2.2 ∧ x.2.2 ≤ 9223372036854775807 ∧ Sees W x.2.1 (vQ x.1) := by
  obtain ⟨a, len, cap, rfl⟩ := okWide_slice Tryd.underlying22 hv
  obtain ⟨fuel, hf⟩ := h
  obtain ⟨l, A, c, e, h1, h2, h3⟩ := open_pairs hf
  simp [Value.cells] at e
  obtain ⟨rfl, rfl, rfl⟩ := e
  exact ⟨(l, a, cap), rfl, h1, h2, h3⟩
theorem opn_ext {v : Value} {d : DataW H} {p : List MemPlace} (h : DataW.Trod enc Tryd.prog W base spare held 59 v d p) (hv : Value.okWide Tryd.prog W .any base 59 v) :
    ∃ x : List UInt8 × List UInt8, v = .agg #[strV x.1, strV x.2] ∧ True := by
  obtain ⟨v0, v1, y0, y1, n, rfl, _, _, h0, h1⟩ := Go.Joins.open_agg2 Tryd.underlying59 (by kernel_rfl) (by kernel_rfl) hv h
  obtain ⟨s, e0, _⟩ := DataW.trod_string Tryd.underlying9 h0
  obtain ⟨t, e1, _⟩ := DataW.trod_string Tryd.underlying9 h1
  simp at e0 e1
  exact ⟨(s.data.toList, t.data.toList), by rw [e0, e1], trivial⟩
theorem opn_tag {v : Value} {d : DataW H} {p : List MemPlace} (h : DataW.Trod enc Tryd.prog W base spare held 24 v d p) (hv : Value.okWide Tryd.prog W .any base 24 v) :
    ∃ x : List UInt8 × Prs × Option Addr × Nat × Bool, v = .agg #[strV x.1, .slice x.2.2.1 x.2.1.length x.2.2.2.1, .bool x.2.2.2.2] ∧ x.2.1.length ≤ x.2.2.2.1 ∧ x.2.2.2.1 ≤ 9223372036854775807 ∧ Sees W x.2.2.1 (vQ x.2.1) := by
  obtain ⟨v0, v1, v2, y0, y1, y2, n, rfl, _, _, h0, h1, h2⟩ := Go.Joins.open_agg3 Tryd.underlying24 (by kernel_rfl) (by kernel_rfl) hv h
  obtain ⟨s, e0, _⟩ := DataW.trod_string Tryd.underlying9 h0
  obtain ⟨l, A, c, e1, hlc, hc9, hs⟩ := open_pairs h1
  obtain ⟨b, e2, _⟩ := DataW.trod_bool Tryd.underlying4 h2
  simp at e0 e1 e2
  exact ⟨(s.data.toList, l, A, c, b), by rw [e0, e1, e2], hlc, hc9, hs⟩
theorem opn_dec {v : Value} {d : DataW H} {p : List MemPlace} (h : DataW.Trod enc Tryd.prog W base spare held 47 v d p) (hv : Value.okWide Tryd.prog W .any base 47 v) :
    ∃ x : Bool × List UInt8 × List UInt8 × List UInt8, v = .agg #[.bool x.1, strV x.2.1, strV x.2.2.1, strV x.2.2.2] ∧ True := by
  obtain ⟨v0, v1, v2, v3, y0, y1, y2, y3, n, rfl, _, _, h0, h1, h2, h3⟩ := Go.Joins.open_agg4 Tryd.underlying47 (by kernel_rfl) (by kernel_rfl) hv h
  obtain ⟨b, e0, _⟩ := DataW.trod_bool Tryd.underlying4 h0
  obtain ⟨s, e1, _⟩ := DataW.trod_string Tryd.underlying9 h1
  obtain ⟨t, e2, _⟩ := DataW.trod_string Tryd.underlying9 h2
  obtain ⟨u, e3, _⟩ := DataW.trod_string Tryd.underlying9 h3
  simp at e0 e1 e2 e3
  exact ⟨(b, s.data.toList, t.data.toList, u.data.toList), by rw [e0, e1, e2, e3], trivial⟩
end Opn
end Go.Proofs.YtdmfladcldkmeaaDoor
namespace Go.Proofs.YtdmfladcldkmeaaDoor
open Go.ChangeShapes Go.WideShapes Go.ChangeAt Go.RowKit
set_option linter.unusedVariables false
set_option maxRecDepth 100000

theorem want_join (p : List UInt8) : (⟨#[120, 109, 108, 110, 115, 58]⟩ : ByteArray) ++ ⟨p.toArray⟩ = ⟨(nsC ++ p).toArray⟩ := by
  show (⟨(nsC).toArray⟩ : ByteArray) ++ ⟨p.toArray⟩ = _
  rw [str_app]
def pairL (X s : List UInt8) : Prs := [(X, s)]
/-- What the row of what is put gives. -/
theorem one35_any (X s : List UInt8) (R : Prs × Prs × Int) (hR : bnN (pairL X s) [] [] = R) (w : World) (h9 : X.length ≤ 1000000) (ht : TabN w) :
    Calls Tryd.prog 52 #[.slice (some ⟨w.heap.size, 0, none⟩) 1 1] (w.alloc (.cells #[strV X, strV s] 41)) fun e w' => ∃ v1 v2, e = .returned (.tuple #[v1, v2, .int .i64 R.2.2]) ∧ w'.ownsRow w.heap.size 80 2 v1 R.1.length (vQ R.1) ∧ w'.ownsRow w.heap.size 41 2 v2 R.2.1.length (vQ R.2.1) ∧ Below w.heap.size w w' := by
  have B0 := (Below.refl w.heap.size w).alloc (Nat.le_refl _) (.cells #[strV X, strV s] 41)
  have h := split_any (pairL X s) (some ⟨w.heap.size, 0, none⟩) 1 1 (w.alloc (.cells #[strV X, strV s] 41)) rfl (by omega) (sees_lit w (vQ (pairL X s)) 41 (0, 0)) (by simpa [pairL] using h9) (ht.below B0)
  rw [hR] at h
  refine h.mono ?_
  rintro e w' ⟨v1, v2, he, o1, o2, hb⟩
  exact ⟨v1, v2, he, q_base o1 (by simp), q_base o2 (by simp), B0.trans (hb.mono (by simp))⟩

set_option maxHeartbeats 4000000 in
theorem bindMay_own (s : List UInt8) (w : World) (h9 : s.length ≤ 300) (ht : TabN w) (m : Bool) (hm : mayB [] s = m) :
    Calls Tryd.prog 13 #[strV [], strV s] w fun e w' => e = .returned (.bool true) ∧ Below w.heap.size w w' := by
  have HL := Lib.hid (fun (w' : World) (hb : Below w.heap.size w w') => live35_any w' (ht.below hb))
  have K1 := Lib.hid (show Calls Tryd.prog 48 #[.agg #[strV [], strV s]] w fun e w' => e = .returned (.agg #[strV [120, 109, 108, 110, 115], strV s]) ∧ Below w.heap.size w w' from bput_any [] s w (by simp))
  have K2 := Lib.hid (fun (w' : World) => hm ▸ may_any [] s w')
  have K3 := Lib.hid (fun (w' : World) => hm ▸ rmay_any [] s w')
  have hR := put_own s
  rw [hm] at hR
  have KS := Lib.hid (fun (w' : World) (hb : Below w.heap.size w w') => one35_any [120, 109, 108, 110, 115] s _ hR w' (by simp) (ht.below hb))
  have z1 := str_size s
  have d1 : ¬ (300 : Int) < (s.length : Int) := by omega
  have e1 := eqBind ⟨#[]⟩ ⟨s.toArray⟩
  clear hR ht hm
  cases m
  · go_enter Tryd.func13, Tryd.ntmps13
    go_wp2_with fail
    refine K1.out.mono ?_
    rintro e w1 ⟨rfl, hb1⟩
    have hbA := Lib.hid (hb1.alloc hb1.size (.cells #[strV [120, 109, 108, 110, 115], strV s] 41))
    obtain ⟨x0, x1⟩ := pr_block w1 _ [120, 109, 108, 110, 115] s 41 _ rfl (Below.refl _ _)
    obtain ⟨WA, hWA⟩ : ∃ WA, w1.alloc (.cells #[strV [120, 109, 108, 110, 115], strV s] 41) = WA := ⟨_, rfl⟩
    have KS1 := Lib.hid (KS.out _ hbA.out)
    rw [hWA] at x0 x1 hbA KS1
    clear hb1
    go_wp2_with fail
    (try rw [hWA])
    clear hWA
    refine (K2.out WA).mono ?_
    rintro e w2 ⟨rfl, rfl⟩
    go_wp2_with fail
    refine (K3.out WA).mono ?_
    rintro e w2 ⟨rfl, rfl⟩
    go_wp2_with fail
    refine KS1.out.mono ?_
    rintro e w3 ⟨v1, v2, rfl, o1, o2, hb3⟩
    have hb4 := Lib.hid (hbA.out.trans (hb3.mono hbA.out.size))
    obtain ⟨A2, c2, rfl, _, _, _⟩ := own_sees o2
    obtain ⟨A1, c1, rfl, _, _, _⟩ := own_sees o1
    clear o1 o2 hb3 x0 x1
    simp only
    go_wp2_with fail
    refine (K3.out w3).mono ?_
    rintro e w4 ⟨rfl, rfl⟩
    go_wp2_with fail
    refine (HL.out w3 hb4.out).mono ?_
    rintro e w5 ⟨rfl, hb5⟩
    go_wp2_with fail
    go_ret
    exact ⟨rfl, hb4.out.trans (hb5.mono hb4.out.size)⟩
  · go_enter Tryd.func13, Tryd.ntmps13
    go_wp2_with fail
    refine K1.out.mono ?_
    rintro e w1 ⟨rfl, hb1⟩
    have hbA := Lib.hid (hb1.alloc hb1.size (.cells #[strV [120, 109, 108, 110, 115], strV s] 41))
    obtain ⟨x0, x1⟩ := pr_block w1 _ [120, 109, 108, 110, 115] s 41 _ rfl (Below.refl _ _)
    obtain ⟨WA, hWA⟩ : ∃ WA, w1.alloc (.cells #[strV [120, 109, 108, 110, 115], strV s] 41) = WA := ⟨_, rfl⟩
    have KS1 := Lib.hid (KS.out _ hbA.out)
    rw [hWA] at x0 x1 hbA KS1
    clear hb1
    go_wp2_with fail
    (try rw [hWA])
    clear hWA
    refine (K2.out WA).mono ?_
    rintro e w2 ⟨rfl, rfl⟩
    go_wp2_with fail
    refine (K3.out WA).mono ?_
    rintro e w2 ⟨rfl, rfl⟩
    go_wp2_with fail
    refine KS1.out.mono ?_
    rintro e w3 ⟨v1, v2, rfl, o1, o2, hb3⟩
    have hb4 := Lib.hid (hbA.out.trans (hb3.mono hbA.out.size))
    obtain ⟨A2, c2, rfl, _, _, _⟩ := own_sees o2
    obtain ⟨g, cp, rfl, z0, z1', _⟩ := q_first o1
    clear o1 o2 hb3 x0 x1
    simp only
    go_wp2_with fail
    refine (K3.out w3).mono ?_
    rintro e w4 ⟨rfl, rfl⟩
    go_wp2_with fail
    refine (HL.out w3 hb4.out).mono ?_
    rintro e w5 ⟨rfl, hb5⟩
    go_wp2_with fail
    go_ret
    exact ⟨rfl, hb4.out.trans (hb5.mono hb4.out.size)⟩

set_option maxHeartbeats 4000000 in
theorem bindMay_pre (p s X : List UInt8) (w : World) (h8 : p.length ≤ 300) (h9 : s.length ≤ 300) (ht : TabN w) (m : Bool) (hm : mayB p s = m) (hp : (p == []) = false) (hX : nsC ++ p = X) (hw : wholeB p (plainP startN) (plainP charN) = true) :
    Calls Tryd.prog 13 #[strV p, strV s] w fun e w' => e = .returned (.bool true) ∧ Below w.heap.size w w' := by
  have HL := Lib.hid (fun (w' : World) (hb : Below w.heap.size w w') => live35_any w' (ht.below hb))
  have hj := want_join p
  rw [hX] at hj
  have hX9 : X.length ≤ 306 := by rw [← hX]; simp [nsC]; omega
  have K1 := bput_any p s w (by omega)
  rw [show putN p = X by unfold putN; rw [if_neg (by simp [hp])]; exact hX] at K1
  have K1 := Lib.hid K1
  have K2 := Lib.hid (fun (w' : World) => hm ▸ may_any p s w')
  have K3 := Lib.hid (fun (w' : World) => hm ▸ rmay_any p s w')
  have KI := Lib.hid (fun (w' : World) (hb : Below w.heap.size w w') => show Calls Tryd.prog 51 #[strV p, .bool true] w' fun e w'' => e = .returned (.bool true) ∧ Below w'.heap.size w' w'' from by have h := risB_any p w' true (by omega); rw [show wholeB p (kindP true startN) (kindP true charN) = true from hw] at h; exact h)
  have hR := put_pre s hw
  rw [hm, hX] at hR
  have KS := Lib.hid (fun (w' : World) (hb : Below w.heap.size w w') => one35_any X s _ hR w' (by omega) (ht.below hb))
  have z1 := str_size s
  have z2 := str_size p
  have d1 : ¬ (300 : Int) < (s.length : Int) := by omega
  have d2 : ¬ (300 : Int) < (p.length : Int) := by omega
  have e1 := eqBind ⟨p.toArray⟩ ⟨s.toArray⟩
  clear hR ht hm hX hw hX9
  cases m
  · go_enter Tryd.func13, Tryd.ntmps13
    go_wp2_with fail
    refine K1.out.mono ?_
    rintro e w1 ⟨rfl, hb1⟩
    have hbA := Lib.hid (hb1.alloc hb1.size (.cells #[strV X, strV s] 41))
    obtain ⟨x0, x1⟩ := pr_block w1 _ X s 41 _ rfl (Below.refl _ _)
    obtain ⟨WA, hWA⟩ : ∃ WA, w1.alloc (.cells #[strV X, strV s] 41) = WA := ⟨_, rfl⟩
    have KS1 := Lib.hid (KS.out _ hbA.out)
    rw [hWA] at x0 x1 hbA KS1
    have HLT := Lib.hid (show w1.heap.size < WA.heap.size by rw [← hWA]; simp)
    clear hb1
    go_wp2_with fail
    (try rw [hWA])
    clear hWA
    refine (K2.out WA).mono ?_
    rintro e w2 ⟨rfl, rfl⟩
    go_wp2_with fail
    refine (K3.out WA).mono ?_
    rintro e w2 ⟨rfl, rfl⟩
    go_wp2_with fail
    refine (KI.out WA hbA.out).mono ?_
    rintro e WB ⟨rfl, hbI⟩
    have hbB := Lib.hid (hbA.out.trans (hbI.mono hbA.out.size))
    obtain ⟨y0, y1⟩ : WB.cell? ⟨w1.heap.size, 0, none⟩ = _ ∧ WB.cell? ⟨w1.heap.size, 1, none⟩ = _ := ⟨(hbI.cell (HLT.out)).trans x0, (hbI.cell (HLT.out)).trans x1⟩
    have KS1 := Lib.hid (KS.out _ hbB.out)
    clear hbI
    go_wp2_with fail
    refine KS1.out.mono ?_
    rintro e w3 ⟨v1, v2, rfl, o1, o2, hb3⟩
    have hb4 := Lib.hid (hbB.out.trans (hb3.mono hbB.out.size))
    obtain ⟨A2, c2, rfl, _, _, _⟩ := own_sees o2
    obtain ⟨A1, c1, rfl, _, _, _⟩ := own_sees o1
    clear o1 o2 hb3 x0 x1
    simp only
    go_wp2_with fail
    refine (K3.out w3).mono ?_
    rintro e w4 ⟨rfl, rfl⟩
    go_wp2_with fail
    refine (HL.out w3 hb4.out).mono ?_
    rintro e w5 ⟨rfl, hb5⟩
    go_wp2_with fail
    go_ret
    exact ⟨rfl, hb4.out.trans (hb5.mono hb4.out.size)⟩
  · go_enter Tryd.func13, Tryd.ntmps13
    go_wp2_with fail
    refine K1.out.mono ?_
    rintro e w1 ⟨rfl, hb1⟩
    have hbA := Lib.hid (hb1.alloc hb1.size (.cells #[strV X, strV s] 41))
    obtain ⟨x0, x1⟩ := pr_block w1 _ X s 41 _ rfl (Below.refl _ _)
    obtain ⟨WA, hWA⟩ : ∃ WA, w1.alloc (.cells #[strV X, strV s] 41) = WA := ⟨_, rfl⟩
    have KS1 := Lib.hid (KS.out _ hbA.out)
    rw [hWA] at x0 x1 hbA KS1
    have HLT := Lib.hid (show w1.heap.size < WA.heap.size by rw [← hWA]; simp)
    clear hb1
    go_wp2_with fail
    (try rw [hWA])
    clear hWA
    refine (K2.out WA).mono ?_
    rintro e w2 ⟨rfl, rfl⟩
    go_wp2_with fail
    refine (K3.out WA).mono ?_
    rintro e w2 ⟨rfl, rfl⟩
    go_wp2_with fail
    refine (KI.out WA hbA.out).mono ?_
    rintro e WB ⟨rfl, hbI⟩
    have hbB := Lib.hid (hbA.out.trans (hbI.mono hbA.out.size))
    obtain ⟨y0, y1⟩ : WB.cell? ⟨w1.heap.size, 0, none⟩ = _ ∧ WB.cell? ⟨w1.heap.size, 1, none⟩ = _ := ⟨(hbI.cell (HLT.out)).trans x0, (hbI.cell (HLT.out)).trans x1⟩
    have KS1 := Lib.hid (KS.out _ hbB.out)
    clear hbI
    go_wp2_with fail
    refine KS1.out.mono ?_
    rintro e w3 ⟨v1, v2, rfl, o1, o2, hb3⟩
    have hb4 := Lib.hid (hbB.out.trans (hb3.mono hbB.out.size))
    obtain ⟨A2, c2, rfl, _, _, _⟩ := own_sees o2
    obtain ⟨g, cp, rfl, z0, z1', _⟩ := q_first o1
    clear o1 o2 hb3 x0 x1
    simp only
    go_wp2_with fail
    refine (K3.out w3).mono ?_
    rintro e w4 ⟨rfl, rfl⟩
    go_wp2_with fail
    refine (HL.out w3 hb4.out).mono ?_
    rintro e w5 ⟨rfl, hb5⟩
    go_wp2_with fail
    go_ret
    exact ⟨rfl, hb4.out.trans (hb5.mono hb4.out.size)⟩

set_option maxHeartbeats 4000000 in
theorem bindMay_not (p s X : List UInt8) (w : World) (h8 : p.length ≤ 300) (h9 : s.length ≤ 300) (ht : TabN w) (m : Bool) (hm : mayB p s = m) (hp : (p == []) = false) (hX : nsC ++ p = X) (hw : wholeB p (plainP startN) (plainP charN) = false) :
    Calls Tryd.prog 13 #[strV p, strV s] w fun e w' => e = .returned (.bool true) ∧ Below w.heap.size w w' := by
  have HL := Lib.hid (fun (w' : World) (hb : Below w.heap.size w w') => live35_any w' (ht.below hb))
  have hj := want_join p
  rw [hX] at hj
  have K1 := bput_any p s w (by omega)
  rw [show putN p = X by unfold putN; rw [if_neg (by simp [hp])]; exact hX] at K1
  have K1 := Lib.hid K1
  have K2 := Lib.hid (fun (w' : World) => hm ▸ may_any p s w')
  have K3 := Lib.hid (fun (w' : World) => hm ▸ rmay_any p s w')
  have KI := Lib.hid (fun (w' : World) (hb : Below w.heap.size w w') => show Calls Tryd.prog 51 #[strV p, .bool true] w' fun e w'' => e = .returned (.bool false) ∧ Below w'.heap.size w' w'' from by have h := risB_any p w' true (by omega); rw [show wholeB p (kindP true startN) (kindP true charN) = false from hw] at h; exact h)
  have z1 := str_size s
  have z2 := str_size p
  have d1 : ¬ (300 : Int) < (s.length : Int) := by omega
  have d2 : ¬ (300 : Int) < (p.length : Int) := by omega
  clear ht hm hX hw
  cases m
  all_goals
    go_enter Tryd.func13, Tryd.ntmps13
    go_wp2_with fail
    refine K1.out.mono ?_
    rintro e w1 ⟨rfl, hb1⟩
    have hbA := Lib.hid (hb1.alloc hb1.size (.cells #[strV X, strV s] 41))
    obtain ⟨x0, x1⟩ := pr_block w1 _ X s 41 _ rfl (Below.refl _ _)
    obtain ⟨WA, hWA⟩ : ∃ WA, w1.alloc (.cells #[strV X, strV s] 41) = WA := ⟨_, rfl⟩
    rw [hWA] at x0 x1 hbA
    clear hb1
    go_wp2_with fail
    (try rw [hWA])
    clear hWA
    refine (K2.out WA).mono ?_
    rintro e w2 ⟨rfl, rfl⟩
    go_wp2_with fail
    refine (K3.out WA).mono ?_
    rintro e w2 ⟨rfl, rfl⟩
    go_wp2_with fail
    refine (KI.out WA hbA.out).mono ?_
    rintro e WB ⟨rfl, hbI⟩
    have hbB := Lib.hid (hbA.out.trans (hbI.mono hbA.out.size))
    clear hbI x0 x1
    go_wp2_with fail
    refine (HL.out WB hbB.out).mono ?_
    rintro e w5 ⟨rfl, hb5⟩
    go_wp2_with fail
    go_ret
    exact ⟨rfl, hbB.out.trans (hb5.mono hbB.out.size)⟩
set_option maxHeartbeats 4000000 in
theorem bindMay_big (p s : List UInt8) (w : World) (h : 300 < p.length ∨ 300 < s.length) (ht : TabN w) :
    Calls Tryd.prog 13 #[strV p, strV s] w fun e w' => e = .returned (.bool true) ∧ Below w.heap.size w w' := by
  have HL := Lib.hid (live35_any w ht)
  have z1 := str_size s
  have z2 := str_size p
  clear ht
  by_cases h1 : 300 < p.length
  · have d1 : (300 : Int) < (p.length : Int) := by omega
    clear h h1
    go_enter Tryd.func13, Tryd.ntmps13
    go_wp2_with fail
    refine HL.out.mono ?_
    rintro e w5 ⟨rfl, hb5⟩
    go_wp2_with fail
    go_ret
    exact ⟨rfl, hb5⟩
  · have d1 : ¬ (300 : Int) < (p.length : Int) := by omega
    have d2 : (300 : Int) < (s.length : Int) := by omega
    clear h h1
    go_enter Tryd.func13, Tryd.ntmps13
    go_wp2_with fail
    refine HL.out.mono ?_
    rintro e w5 ⟨rfl, hb5⟩
    go_wp2_with fail
    go_ret
    exact ⟨rfl, hb5⟩
theorem bindMay_any (p s : List UInt8) (w : World) (ht : TabN w) :
    Calls Tryd.prog 13 #[strV p, strV s] w fun e w' => e = .returned (.bool true) ∧ Below w.heap.size w w' := by
  by_cases h : 300 < p.length ∨ 300 < s.length
  · exact bindMay_big p s w h ht
  · by_cases hp : p = []
    · subst hp
      exact bindMay_own s w (by omega) ht _ rfl
    · cases hw : wholeB p (plainP startN) (plainP charN) with
      | true => exact bindMay_pre p s _ w (by omega) (by omega) ht _ rfl (by simpa using hp) rfl hw
      | false => exact bindMay_not p s _ w (by omega) (by omega) ht _ rfl (by simpa using hp) rfl hw
end Go.Proofs.YtdmfladcldkmeaaDoor
namespace Go.Proofs.YtdmfladcldkmeaaDoor
open Go.ChangeShapes Go.WideShapes Go.ChangeAt Go.RowKit
set_option linter.unusedVariables false
set_option maxRecDepth 100000

/-- No name has it, and none begins so. -/
theorem no_name : ∀ b : Nat, b = 32 ∨ b = 47 ∨ b = 62 ∨ b = 61 ∨ b = 9 ∨ b = 10 ∨ b = 13 → startN (b : Int) = false ∧ charN (b : Int) = false := by
  rintro b (rfl | rfl | rfl | rfl | rfl | rfl | rfl) <;> exact ⟨by decide, by decide⟩
theorem first_no {s : List UInt8} (h : wholeB s startN charN = true) {b : Nat} (hb : b = 32 ∨ b = 47 ∨ b = 62 ∨ b = 61 ∨ b = 9 ∨ b = 10 ∨ b = 13) : byteAt s 0 ≠ b := by
  intro e
  have := whole_byte h e (by omega)
  rw [(no_name b hb).1] at this
  cases this
/-- A name within a text. -/
theorem nm_mid (A T B : List UInt8) (hw : wholeB T startN charN = true) (h9 : T.length ≤ 1024) {b : Nat} (hb : byteAt B 0 = b) (h : b = 32 ∨ b = 47 ∨ b = 62 ∨ b = 61) : nmT (A ++ T ++ B) (A.length : Nat) = (T, ((A.length + T.length : Nat) : Int), 0) := by
  obtain ⟨hne, hend⟩ := whole_iff.1 hw
  have hst := no_name b (by omega)
  have hch : chrAt (A ++ T ++ B) (A.length + T.length) = ((b : Int), 1) := xch_asc (by rw [← hb]; exact xbt_end A T B 0) (by omega)
  have hz := xen_mid A T B (by rw [hch]; exact hst.2) T.length (A ++ T ++ B).length startN 0 (by rw [hch]; exact hst.1) (Nat.zero_le _) hend (by omega)
  have h0 := List.length_pos_iff.2 hne
  rw [Nat.add_zero] at hz
  unfold nmT
  rw [if_neg (by simp; omega), Int.toNat_natCast, hz, if_neg (by omega), if_neg (by omega), Nat.add_sub_cancel_left, List.append_assoc, List.drop_left, List.take_left]
/-- No blank stands there. -/
theorem blk_stay {l : List UInt8} {k : Nat} (h : blankB (byteAt l k) = false) : blkN l l.length k = k := blkN_out _ _ (.inr h)
theorem blk_one {l : List UInt8} {k : Nat} (hk : k < l.length) (h : byteAt l k = 32) (h1 : blankB (byteAt l (k + 1)) = false) : blkN l l.length k = k + 1 := by
  obtain ⟨f, hf⟩ : ∃ f, l.length = f + 1 := ⟨l.length - 1, by omega⟩
  rw [hf, blkN_on f k hk (by rw [h]; decide)]
  exact blkN_out _ _ (.inr h1)
theorem no_blank {b : Nat} (h : ¬ (b = 32 ∨ b = 9 ∨ b = 13 ∨ b = 10)) : blankB (b : Int) = false := by
  cases hb : blankB (b : Int) with
  | false => rfl
  | true => exact absurd ((blankB_iff _).1 hb) (by omega)
/-- A text between quotes within a text. -/
theorem ix_mid {v B : List UInt8} (h : Lib.indexByte v 34 < 0) : Lib.indexByte (v ++ 34 :: B) 34 = v.length := by
  have hn : ∀ k : Nat, v[k]? ≠ some 34 := by
    rcases index_cases v 34 with ⟨_, h2⟩ | ⟨i, h2, _⟩
    · exact h2
    · omega
  rcases index_cases (v ++ 34 :: B) 34 with ⟨_, h2⟩ | ⟨i, h2, h3, h4, h5⟩
  · exact absurd (by simp) (h2 v.length)
  · rw [h2]
    rcases Nat.lt_or_ge i v.length with h6 | h6
    · rw [List.getElem?_append_left h6] at h4; exact absurd h4 (hn i)
    · rcases Nat.lt_or_ge v.length i with h7 | h7
      · exact absurd (by simp) (h5 v.length h7)
      · omega
def okV (v : List UInt8) : Prop := Lib.indexByte v 60 < 0 ∧ Lib.indexByte v 34 < 0 ∧ refsE v = 0
theorem str_mid (A v B : List UInt8) (h : okV v) : strT 60 (A ++ (34 :: v ++ 34 :: B)) (A.length : Nat) = (v, ((A.length + 1 + v.length + 1 : Nat) : Int), 0) := by
  obtain ⟨h1, h2, h3⟩ := h
  have e0 : byteAt (A ++ (34 :: v ++ 34 :: B)) A.length = 34 := by
    unfold byteAt; rw [List.getElem?_append_right (Nat.le_refl _)]; simp
  have e1 : (A ++ (34 :: v ++ 34 :: B)).drop (A.length + 1) = v ++ 34 :: B := by
    rw [← List.drop_drop, List.drop_left]; rfl
  have hq := quoT_ok (l := A ++ (34 :: v ++ 34 :: B)) (k := A.length) (b := 34) (i := v.length) (by simp) e0 (.inl rfl) (by rw [e1]; exact ix_mid h2)
  rw [e1, List.take_left] at hq
  unfold strT chkT
  rw [hq]
  have hc : chk [withoutE 60, refsE] v = 0 := by
    have hw : withoutE 60 v = 0 := by unfold withoutE; rw [show UInt8.ofNat 60 = 60 from rfl, if_neg (by omega)]
    simp [chk, hw, h3]
  simp only
  rw [if_neg (by simp), if_neg (by rw [hc]; simp)]
/-- An attribute as it is written. -/
def prB (p : List UInt8 × List UInt8) : List UInt8 := 32 :: (p.1 ++ (61 :: (34 :: p.2 ++ [34])))
def prsB (ps : Prs) : List UInt8 := ps.flatMap prB
theorem prsB_cons (p : List UInt8 × List UInt8) (ps : Prs) : prsB (p :: ps) = prB p ++ prsB ps := rfl
theorem prB_len (p : List UInt8 × List UInt8) : (prB p).length = p.1.length + p.2.length + 4 := by unfold prB; simp; omega
def okN (s : List UInt8) : Prop := wholeB s startN charN = true ∧ s.length ≤ 1024
theorem pair_mid (A B : List UInt8) (p : List UInt8 × List UInt8) (hN : okN p.1) (hV : okV p.2) : pairT (A ++ (prB p ++ B)) ((A.length + 1 : Nat) : Int) = (p.1, p.2, ((A.length + (prB p).length : Nat) : Int), 0) := by
  have hL1 : A ++ (prB p ++ B) = (A ++ [32]) ++ p.1 ++ (61 :: (34 :: p.2 ++ 34 :: B)) := by unfold prB; simp
  have hL2 : A ++ (prB p ++ B) = (A ++ [32] ++ p.1 ++ [61]) ++ (34 :: p.2 ++ 34 :: B) := by unfold prB; simp
  have hn : nmT (A ++ (prB p ++ B)) ((A.length + 1 : Nat) : Int) = (p.1, ((A.length + 1 + p.1.length : Nat) : Int), 0) := by
    rw [hL1, show A.length + 1 = (A ++ [32]).length by simp]
    exact nm_mid (A ++ [32]) p.1 _ hN.1 hN.2 (b := 61) rfl (by omega)
  have b1 : byteAt (A ++ (prB p ++ B)) (A.length + 1 + p.1.length) = 61 := by
    rw [hL1, show A.length + 1 + p.1.length = (A ++ [32]).length + p.1.length + 0 by simp, xbt_end]; rfl
  have b2 : byteAt (A ++ (prB p ++ B)) (A.length + 1 + p.1.length + 1) = 34 := by
    rw [hL1, show A.length + 1 + p.1.length + 1 = (A ++ [32]).length + p.1.length + 1 by simp, xbt_end]; rfl
  have hlen : (A ++ (prB p ++ B)).length = A.length + (p.1.length + p.2.length + 4) + B.length := by rw [List.length_append, List.length_append, prB_len]; omega
  have hs : strT 60 (A ++ (prB p ++ B)) ((A.length + 1 + p.1.length + 1 : Nat) : Int) = (p.2, ((A.length + (prB p).length : Nat) : Int), 0) := by
    rw [hL2, show A.length + 1 + p.1.length + 1 = (A ++ [32] ++ p.1 ++ [61]).length by simp; omega, str_mid _ _ _ hV, prB_len]
    congr 2
    simp; omega
  unfold pairT
  rw [hn]
  simp only [Int.toNat_natCast]
  rw [if_neg (by simp), blk_stay (k := A.length + 1 + p.1.length) (by rw [b1]; decide), if_neg (by rw [b1]; omega), blk_stay (k := A.length + 1 + p.1.length + 1) (by rw [b2]; decide), hs, if_neg (by simp)]
theorem parsN_mid (B : List UInt8) (hB : byteAt B 0 = 47 ∨ byteAt B 0 = 62) : ∀ (ps : Prs) (f : Nat) (acc : Prs) (A : List UInt8), ps.length ≤ f → (∀ p ∈ ps, okN p.1 ∧ okV p.2) → (∀ i p, ps[i]? = some p → hasN (acc ++ ps.take i) p.1 = false) →
    parsN (A ++ (prsB ps ++ B)) f acc A.length = (acc ++ ps, ((A.length + (prsB ps).length : Nat) : Int), 0)
  | [], f, acc, A, _, _, _ => by
    have hb : byteAt (A ++ (prsB [] ++ B)) A.length = byteAt B 0 := by
      unfold byteAt prsB; rw [List.getElem?_append_right (Nat.le_refl _)]; simp
    rw [pars_stop f (q := A.length) (blk_stay (by rw [hb]; exact no_blank (by omega))) (by left; rfl)]
    simp [prsB]
  | p :: ps, f, acc, A, hf, hok, hd => by
    obtain ⟨f, rfl⟩ : ∃ f', f = f' + 1 := ⟨f - 1, by simp at hf; omega⟩
    obtain ⟨hN, hV⟩ := hok p (by simp)
    have hL : A ++ (prsB (p :: ps) ++ B) = A ++ (prB p ++ (prsB ps ++ B)) := by rw [prsB_cons, List.append_assoc]
    have hp := pair_mid A (prsB ps ++ B) p hN hV
    rw [hL]
    have b0 : byteAt (A ++ (prB p ++ (prsB ps ++ B))) A.length = 32 := by
      unfold byteAt prB; rw [List.getElem?_append_right (Nat.le_refl _)]; simp
    have h0 := (whole_first hN.1).1
    have b1 : byteAt (A ++ (prB p ++ (prsB ps ++ B))) (A.length + 1) = byteAt p.1 0 := by
      have e : A ++ (prB p ++ (prsB ps ++ B)) = (A ++ [32]) ++ p.1 ++ (61 :: (34 :: p.2 ++ 34 :: (prsB ps ++ B))) := by unfold prB; simp
      rw [e, show A.length + 1 = (A ++ [32]).length + 0 by simp, xbt_mid _ _ _ h0]
    have hlen : (A ++ (prB p ++ (prsB ps ++ B))).length = A.length + (p.1.length + p.2.length + 4) + (prsB ps ++ B).length := by rw [List.length_append, List.length_append, prB_len]; omega
    have n32 := first_no hN.1 (b := 32) (by omega)
    have n9 := first_no hN.1 (b := 9) (by omega)
    have n10 := first_no hN.1 (b := 10) (by omega)
    have n13 := first_no hN.1 (b := 13) (by omega)
    have n47 := first_no hN.1 (b := 47) (by omega)
    have n62 := first_no hN.1 (b := 62) (by omega)
    have hq := blk_one (l := A ++ (prB p ++ (prsB ps ++ B))) (k := A.length) (by omega) b0 (by rw [b1]; exact no_blank (by omega))
    rw [pars_on f hq (by rw [b1]; omega) hp (by have := hd 0 p rfl; simpa using this)]
    have e2 : A ++ (prB p ++ (prsB ps ++ B)) = (A ++ prB p) ++ (prsB ps ++ B) := by simp
    rw [e2, show A.length + (prB p).length = (A ++ prB p).length by simp]
    rw [parsN_mid B hB ps f (acc ++ [(p.1, p.2)]) (A ++ prB p) (by simp at hf; omega) (fun x hx => hok x (by simp [hx])) (fun i x hx => by
      have := hd (i + 1) x (by simpa using hx)
      simpa using this)]
    rw [prsB_cons]
    simp
    omega
/-- A tag as it is written. -/
def tailB (e : Bool) : List UInt8 := if e then [47, 62] else [62]
def tagB (s : List UInt8) (ps : Prs) (e : Bool) : List UInt8 := 60 :: s ++ (prsB ps ++ tailB e)
def okTag (s : List UInt8) (ps : Prs) : Prop := okN s ∧ (∀ p ∈ ps, okN p.1 ∧ okV p.2) ∧ ∀ i p, ps[i]? = some p → hasN (ps.take i) p.1 = false
theorem prsB_first (ps : Prs) (e : Bool) : byteAt (prsB ps ++ tailB e) 0 = 32 ∨ byteAt (prsB ps ++ tailB e) 0 = 47 ∨ byteAt (prsB ps ++ tailB e) 0 = 62 := by
  cases ps with
  | nil => cases e <;> decide
  | cons p ps => left; rw [prsB_cons]; rfl
theorem prsB_len (ps : Prs) : ps.length ≤ (prsB ps).length := by
  induction ps with
  | nil => simp
  | cons p ps ih => rw [prsB_cons, List.length_append, prB_len, List.length_cons]; omega
theorem open_tag (s : List UInt8) (ps : Prs) (e : Bool) (h : okTag s ps) : openT (tagB s ps e) 0 = (s, ps, e, ((tagB s ps e).length : Int), 0) := by
  obtain ⟨hN, hp, hd⟩ := h
  have hL : tagB s ps e = [60] ++ s ++ (prsB ps ++ tailB e) := rfl
  have hL2 : tagB s ps e = (60 :: s) ++ (prsB ps ++ tailB e) := rfl
  have hlen : (tagB s ps e).length = 1 + s.length + (prsB ps).length + (tailB e).length := by rw [hL2]; simp; omega
  have ht := prsB_len ps
  have hn : nmT (tagB s ps e) (1 : Nat) = (s, ((1 + s.length : Nat) : Int), 0) := by
    rw [hL]
    have hf := prsB_first ps e
    exact nm_mid [60] s _ hN.1 hN.2 rfl (by omega)
  have hb : begT (tagB s ps e) 0 [60] = (s, ((1 + s.length : Nat) : Int), 0) := by
    unfold begT
    rw [if_neg (by omega), if_neg (by unfold atB tagB; simp)]
    exact hn
  have hps : parsT (tagB s ps e) ((1 + s.length : Nat) : Int) = (ps, ((1 + s.length + (prsB ps).length : Nat) : Int), 0) := by
    unfold parsT
    rw [if_neg (by omega), Int.toNat_natCast, hL2, show 1 + s.length = (60 :: s).length by simp; omega]
    rw [parsN_mid (tailB e) (by cases e <;> decide) ps _ [] (60 :: s) (by simp; omega) hp (by simpa using hd)]
    simp
  unfold openT
  rw [hb]
  simp only
  rw [if_neg (by simp), hps]
  simp only
  rw [if_neg (by simp), Int.toNat_natCast]
  have hdr : (tagB s ps e).drop (1 + s.length + (prsB ps).length) = tailB e := by
    rw [show tagB s ps e = (60 :: s ++ prsB ps) ++ tailB e by unfold tagB; simp, show 1 + s.length + (prsB ps).length = (60 :: s ++ prsB ps).length by simp; omega, List.drop_left]
  have hbt : byteAt (tagB s ps e) (1 + s.length + (prsB ps).length) = byteAt (tailB e) 0 := by rw [← hdr, xbt_drop]; rfl
  rw [blk_stay (by rw [hbt]; cases e <;> decide)]
  unfold tailT atB
  simp only [Int.toNat_natCast, hdr, hlen]
  cases e
  · rw [if_neg (by simp [tailB]), if_pos (by simp [tailB]; omega)]
    simp [tailB] <;> omega
  · rw [if_pos (by simp [tailB]; omega)]
    simp [tailB] <;> omega
def endB (s : List UInt8) : List UInt8 := [60, 47] ++ s ++ [62]
theorem close_end (s : List UInt8) (h : okN s) : closeT (endB s) 0 = (s, ((endB s).length : Int), 0) := by
  have hn : nmT (endB s) (2 : Nat) = (s, ((2 + s.length : Nat) : Int), 0) := nm_mid [60, 47] s [62] h.1 h.2 rfl (by decide)
  have hlen : (endB s).length = 2 + s.length + 1 := by unfold endB; simp; omega
  have hb : begT (endB s) 0 [60, 47] = (s, ((2 + s.length : Nat) : Int), 0) := by
    unfold begT
    rw [if_neg (by omega), if_neg (by unfold atB endB; simp)]
    exact hn
  have hbt : byteAt (endB s) (2 + s.length) = 62 := by
    rw [show 2 + s.length = ([60, 47] : List UInt8).length + s.length + 0 by simp]; unfold endB; rw [xbt_end]; rfl
  unfold closeT
  rw [hb]
  simp only [Int.toNat_natCast]
  rw [if_neg (by simp), blk_stay (by rw [hbt]; decide), if_neg (by rw [hbt]; omega), hlen]
end Go.Proofs.YtdmfladcldkmeaaDoor
namespace Go.Proofs.YtdmfladcldkmeaaDoor
open Go.ChangeShapes Go.WideShapes Go.ChangeAt Go.RowKit
set_option linter.unusedVariables false
set_option maxRecDepth 100000

theorem ret_str {a b : ByteArray} (h : a = b) : Ending.returned (.string a) = .returned (.string b) := by rw [h]
theorem dig_piece (j : Nat) (hj : j < 10) : (⟨#[48, 49, 50, 51, 52, 53, 54, 55, 56, 57]⟩ : ByteArray).extract j (j + 1) = ⟨[UInt8.ofNat (48 + j)].toArray⟩ := by
  rw [str_extract]
  congr 1
  match j, hj with
  | 0, _ => rfl
  | 1, _ => rfl
  | 2, _ => rfl
  | 3, _ => rfl
  | 4, _ => rfl
  | 5, _ => rfl
  | 6, _ => rfl
  | 7, _ => rfl
  | 8, _ => rfl
  | 9, _ => rfl
/-- At the loop's head: what is left of the number, and its digits so far. -/
def DigsRel (D : List UInt8) (n s : Value) : Prop := ∃ (m : Nat) (t : List UInt8), m ≤ 4611686018427387904 ∧ n = .int .i64 m ∧ s = .string ⟨t.toArray⟩ ∧ Lib.decDigits m ++ t = D
theorem digsRel_mk {D : List UInt8} {n : Int} {s : ByteArray} (m : Nat) (t : List UInt8) (h0 : m ≤ 4611686018427387904) (h1 : n = m) (h2 : s = ⟨t.toArray⟩) (h3 : Lib.decDigits m ++ t = D) : DigsRel D (.int .i64 n) (.string s) :=
  ⟨m, t, h0, by rw [h1], by rw [h2], h3⟩

set_option maxHeartbeats 1000000 in
theorem rdigits_any (n : Nat) (w : World) (hn : n ≤ 4611686018427387904) :
    Calls Tryd.prog 97 #[.int .i64 (n : Int)] w fun e w' => e = .returned (strV (Lib.decDigits n)) ∧ w = w' := by
  obtain ⟨D, hD⟩ : ∃ D, Lib.decDigits n = D := ⟨_, rfl⟩
  have HD := Lib.hid hD
  have hDl : D.length ≤ 21 := by
    have := Lib.itoa_length_le (n : Int) (by omega) (by omega)
    rwa [Lib.itoa_nonneg, hD] at this
  rw [hD]
  clear hD
  go_enter Tryd.func97, Tryd.ntmps97
  go_wp2_with fail
  go_loop [0, 3] (fun n s => DigsRel D n s) (fun n _ => (intOf n).toNat)
  case atStart => exact digsRel_mk n [] hn rfl rfl (by rw [List.append_nil]; exact HD.out)
  case round =>
    obtain ⟨m, u, hm, rfl, rfl, hr⟩ := hrel
    have hul : u.length ≤ 21 := by have := congrArg List.length hr; rw [List.length_append] at this; omega
    have HR := Lib.hid hr
    clear hr
    by_cases h9 : 9 < m
    · have hq : ((m : Int) % 10).toNat = m % 10 := by omega
      have hq1 : ((m : Int) % 10 + 1).toNat = m % 10 + 1 := by omega
      have HP := Lib.hid (dig_piece (m % 10) (by omega))
      have hov : ¬ 9223372036854775807 < min (m % 10 + 1) 10 - m % 10 + u.length := by omega
      go_wp2_with fail
      go_round
      case rel =>
        refine digsRel_mk (m / 10) (UInt8.ofNat (48 + m % 10) :: u) (by omega) (by omega) (by rw [HP.out, str_app]; rfl) ?_
        have h := HR.out
        rw [Lib.decDigits, dif_neg (by omega), List.append_assoc] at h
        exact h
      case measure => simp [intOf]; omega
    · have hov : ¬ 9223372036854775807 < min (m + 1) 10 - m + u.length := by omega
      have HP := Lib.hid (dig_piece m (by omega))
      have HE := Lib.hid (show [UInt8.ofNat (48 + m)] ++ u = D by have h := HR.out; rw [Lib.decDigits, dif_pos (by omega)] at h; exact h)
      go_wp2_with fail
      go_ret
      exact ⟨ret_str (by rw [HP.out, str_app, HE.out]), rfl⟩

/-- At the loop's head: what is escaped so far. -/
def EscD (l : List UInt8) (s i : Value) : Prop := ∃ k : Nat, k ≤ l.length ∧ i = .int .i64 k ∧ s = .string ⟨(escL (l.take k)).toArray⟩
theorem escD_mk {l : List UInt8} {s : ByteArray} {i : Int} (k : Nat) (h1 : k ≤ l.length) (h2 : i = k) (h3 : s = ⟨(escL (l.take k)).toArray⟩) : EscD l (.string s) (.int .i64 i) :=
  ⟨k, h1, by rw [h2], by rw [h3]⟩
end Go.Proofs.YtdmfladcldkmeaaDoor
