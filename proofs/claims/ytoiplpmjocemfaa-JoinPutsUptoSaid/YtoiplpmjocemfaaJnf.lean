/- Put of what is no text, into what join.All keeps. -/
import Derived.Test.YtoiplpmjocemfaaJne
import Derived.BigQuiet
namespace Go.Proofs.Ytoiplpmjocemfaa
open Go.ChangeShapes Go.WideShapes Go.ChangeAt Go.RowKit
set_option linter.unusedVariables false
set_option maxRecDepth 100000

theorem AllAt.below {b0 C : Nat} {w w' : World} {B : Option Addr} {q d : Nat} {o : List Ev} (h : AllAt b0 C w B q d o) (hb : Below w.heap.size w w') : AllAt b0 C w' B q d o :=
  ⟨(hb.block C (Array.getElem?_eq_some_iff.1 h.cell).1).trans h.cell, own_below2 h.row hb, fun e he => ⟨own_below2 (h.atts e he).1 hb, (h.atts e he).2⟩, h.len⟩
theorem JoinAt.below {b0 C J : Nat} {w w' : World} {T : Option Addr} {n d : Nat} {s : List UInt8} (h : JoinAt b0 C J w T n d s) (hb : Below w.heap.size w w') : JoinAt b0 C J w' T n d s :=
  ⟨(hb.block J (Array.getElem?_eq_some_iff.1 h.cell).1).trans h.cell, own_below2 h.row hb, h.len⟩

set_option maxHeartbeats 4000000 in
theorem putElse_any (e : Ev) (b0 C J : Nat) (B T : Option Addr) (q dq n d : Nat) (o : List Ev) (s : List UInt8) (w : World) (hb0 : b0 ≤ C) (hbJ : b0 ≤ J) (hbw : b0 ≤ w.heap.size) (ha : AllAt b0 C w B q dq o) (h : JoinAt b0 C J w T n d s) (hk : e.kind ≠ 3) (hq9 : q ≤ 3000000)
    (he : EvOk w e) (heB : ∀ w', Below b0 w w' → EvOk w' e) (hn9 : e.at_.length ≤ 1000000) :
    Calls Try.prog 48 #[.pointer (some ⟨J, 0, none⟩), evW e] w fun en w' => en = .returned (.int .i64 0) ∧ ∃ B' q' dq' T' n' d' o', AllAt b0 C w' B' q' dq' o' ∧ o'.map nrm = (flushJ (o, s) ++ [e]).map nrm ∧ q' ≤ q + 2 ∧ JoinAt b0 C J w' T' n' d' [] ∧ Below b0 w w' := by
  have hJl : J < w.heap.size := (Array.getElem?_eq_some_iff.1 h.cell).1
  have hCl : C < w.heap.size := (Array.getElem?_eq_some_iff.1 ha.cell).1
  have HE := Lib.hid (fun w' (hb : Below b0 w w') (B' : Option Addr) (q' dq' : Nat) (o' : List Ev) (h1 : AllAt b0 C w' B' q' dq' o') (h2 : q' ≤ 4000000) => keep1_any e b0 C B' q' dq' o' w' hb0 h1 h2 (heB w' hb) hn9)
  have HK : Hid (∀ A' c', nrm { e with A := A', c := c' } = nrm e) := fun _ _ => rfl
  have hbW := (Below.refl w.heap.size w).alloc (Nat.le_refl _) (.cells #[.int .i64 e.kind, .string e.sp, .string e.lo, .slice e.A e.at_.length e.c, .string e.tx] 76)
  have hX := alloc_at w (.cells #[.int .i64 e.kind, .string e.sp, .string e.lo, .slice e.A e.at_.length e.c, .string e.tx] 76)
  have a0 := cell_at (k := 0) ((hbW.block J hJl).trans h.cell) rfl
  have x0 := cell_at (k := 0) hX rfl
  have t1 : (e.kind == 3) = false := by simpa using hk
  have kf := keepNil C
  have KF := Lib.hid (flush_any b0 C J B T q dq n d o s (w.alloc (.cells #[.int .i64 e.kind, .string e.sp, .string e.lo, .slice e.A e.at_.length e.c, .string e.tx] 76)) hb0 hbJ (ha.below hbW) (h.below hbW) (by omega))
  have hne : some w.heap.size ≠ (Value.slice B q dq).ownBlock := fun ee => by have := (ha.row.lt _ ee.symm).2; omega
  have HX := Lib.hid hX
  unfold evW
  clear h ha hk he heB hX
  go_enter Try.func48, Try.ntmps48
  go_wp2_with fail
  refine KF.out.mono ?_
  rintro en w2 ⟨rfl, B2, q2, dq2, T2, n2, d2, o2, ha2, ho2, hq2, hj2, hb2, hf2⟩
  have hbw2 : Below b0 w w2 := (hbW.mono hbw).trans hb2
  have hX2 := (hf2 w.heap.size (by simp) (by omega) (by omega) hne).trans HX.out
  have b1 := cell_at (k := 0) hj2.cell rfl
  have y0 := cell_at (k := 0) hX2 rfl
  have y1 := cell_at (k := 1) hX2 rfl
  have y2 := cell_at (k := 2) hX2 rfl
  have y3 := cell_at (k := 3) hX2 rfl
  have y4 := cell_at (k := 4) hX2 rfl
  have KE := Lib.hid (HE.out w2.drew hbw2.drew B2 q2 dq2 o2 ⟨ha2.cell, ha2.row.drew, fun e he => ⟨(ha2.atts e he).1.drew, (ha2.atts e he).2⟩, ha2.len⟩ (by omega))
  have HJ2 := Lib.hid hj2
  have HA2 := Lib.hid ha2
  have HO2 := Lib.hid ho2
  clear ha2 ho2 hj2 hb2 hf2 hX2
  go_wp2_with fail
  go_region_with (refine KE.out.mono ?_; rintro en w3 ⟨rfl, A', c', B3, d3, ha3, hf3, hsz3, hb3⟩)
  all_goals
    have HJ3 := Lib.hid (JoinAt.keep (w := w2.drew) ⟨HJ2.out.cell, HJ2.out.row.drew, HJ2.out.len⟩ B2 q2 dq2 ⟨HA2.out.cell, HA2.out.row.drew, fun e he => ⟨(HA2.out.atts e he).1.drew, (HA2.out.atts e he).2⟩, HA2.out.len⟩ hf3)
    have HA3 := Lib.hid ha3
    have HB3 := Lib.hid (hbw2.drew.trans hb3)
    clear ha3 hf3 hsz3 hb3
    go_wp2_with fail
    go_ret
    exact ⟨rfl, B3, q2 + 1, d3, T2, n2, d2, _, HA3.out, by rw [List.map_append, List.map_append, HO2.out]; rfl, by omega, HJ3.out, HB3.out⟩
end Go.Proofs.Ytoiplpmjocemfaa
