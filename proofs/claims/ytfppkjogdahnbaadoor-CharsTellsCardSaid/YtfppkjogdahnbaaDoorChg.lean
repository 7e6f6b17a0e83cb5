/- For any two ints CharsTells returns true: where a number's character may stand, its classes together, and what it says as a digit are as the document's own functions answer, over the tables that the program's text lays; no condition. -/
import Derived.Test.YtfppkjogdahnbaaDoorCards
import Derived.Test.YtfppkjogdahnbaaDoorTie
import Derived.Test.YtfppkjogdahnbaaDoorChf
import Derived.Test.YtfppkjogdahnbaaDoorChk
import Derived.WalkKit
import Derived.ProofKit
import Derived.OpenShut
import Derived.LaidMore
import Derived.MakeChecks
import Derived.Deep.DeepHandedRow
import Derived.Lib.LaidTab
namespace Go.Proofs.YtfppkjogdahnbaaDoor.charsTells
open Go.ChangeShapes Go.WideShapes Go.ChangeAt Go.RowKit
set_option linter.unusedVariables false

theorem own : ownKnob Tryd.prog.godebug = none := by kernel_rfl
theorem gChar : Tryd.prog.globalNamed "narthex/chars.charRuns" = some 3 := by kernel_rfl
theorem gStart : Tryd.prog.globalNamed "narthex/chars.startRuns" = some 0 := by kernel_rfl
theorem gFollow : Tryd.prog.globalNamed "narthex/chars.followRuns" = some 1 := by kernel_rfl
theorem gPubid : Tryd.prog.globalNamed "narthex/chars.pubidRuns" = some 2 := by kernel_rfl
theorem tChar : (Tryd.prog.globals[3]?).map (·.type) = some 40 := by kernel_rfl
theorem tStart : (Tryd.prog.globals[0]?).map (·.type) = some 39 := by kernel_rfl
theorem tFollow : (Tryd.prog.globals[1]?).map (·.type) = some 40 := by kernel_rfl
theorem tPubid : (Tryd.prog.globals[2]?).map (·.type) = some 41 := by kernel_rfl
theorem cInt : Tryd.prog.cellsOf 3 = 1 := by kernel_rfl
theorem cRun : Tryd.prog.cellsOf 38 = 2 := by kernel_rfl
theorem c5 : Tryd.prog.cellsOf 40 = 2 * 5 := by kernel_rfl
theorem c9 : Tryd.prog.cellsOf 41 = 2 * 9 := by kernel_rfl
theorem c16 : Tryd.prog.cellsOf 39 = 2 * 16 := by kernel_rfl

theorem charsTells_any (r b : Int) (w : World) (ht : Tables w) :
    Calls Tryd.prog 3 #[.int .i64 r, .int .i64 b] w fun e w' => e = .returned (.bool true) ∧ Below w.heap.size w w' :=
  tells_core r b w (cls r 0) (cls r 1) (cls r 2) (cls r 3) (cls r 4) (sumN r 5) (digN r b)
    (inv_of ht fun w1 h1 => char_any r w1 h1) (ris_any 0 (by omega) r)
    (inv_of ht fun w1 _ => blankB_any r w1) (ris_any 1 (by omega) r)
    (inv_of ht fun w1 h1 => nameStart_any r w1 h1) (ris_any 2 (by omega) r)
    (inv_of ht fun w1 h1 => nameChar_any r w1 h1) (ris_any 3 (by omega) r)
    (inv_of ht fun w1 h1 => pubid_any r w1 h1) (ris_any 4 (by omega) r)
    (cls_sn r) (cls_bc r) (cls_nc r) (cls_pc r)
    (inv_of ht fun w1 h1 => classes_any r w1 h1) (rclasses_any r) (digit_any r b) (rdigit_any r b)
    (inv_of ht fun w1 h1 => live_any w1 h1)

/-- What the row's list gives: the four tables lie as they were laid. -/
theorem tables {W : World} (h : laidMetH Tryd.prog Rows.charsTellsRow.laid W) : Tables W := by
  rw [MakeChecks.laidMetH_plain _ _ _ (by kernel_rfl)] at h
  obtain ⟨ps, ⟨g0, t0, cs0, f0, p0, q0, hg0, ht0, hv0, hd0, ⟨g1, t1, cs1, f1, p1, q1, hg1, ht1, hv1, hd1, ⟨g2, t2, cs2, f2, p2, q2, hg2, ht2, hv2, hd2, ⟨g3, t3, cs3, f3, p3, q3, hg3, ht3, hv3, hd3, _, _⟩, _⟩, _⟩, _⟩, _, _⟩ := h
  obtain rfl := Option.some.inj (gChar.symm.trans hg0)
  obtain rfl := Option.some.inj (gStart.symm.trans hg1)
  obtain rfl := Option.some.inj (gFollow.symm.trans hg2)
  obtain rfl := Option.some.inj (gPubid.symm.trans hg3)
  obtain rfl := Option.some.inj (tChar.symm.trans ht0)
  obtain rfl := Option.some.inj (tStart.symm.trans ht1)
  obtain rfl := Option.some.inj (tFollow.symm.trans ht2)
  obtain rfl := Option.some.inj (tPubid.symm.trans ht3)
  exact {
    char := tab_of_var gChar hv0 (cells_pairs (T := charT) Tryd.underlying40 Tryd.underlying38 rfl rfl rfl rfl Tryd.underlying3 cInt cRun c5 rfl hd0)
    start := tab_of_var gStart hv1 (cells_pairs (T := startT) Tryd.underlying39 Tryd.underlying38 rfl rfl rfl rfl Tryd.underlying3 cInt cRun c16 rfl hd1)
    follow := tab_of_var gFollow hv2 (cells_pairs (T := followT) Tryd.underlying40 Tryd.underlying38 rfl rfl rfl rfl Tryd.underlying3 cInt cRun c5 rfl hd2)
    pubid := tab_of_var gPubid hv3 (cells_pairs (T := pubidT) Tryd.underlying41 Tryd.underlying38 rfl rfl rfl rfl Tryd.underlying3 cInt cRun c9 rfl hd3) }

theorem contract (H : Type) (enc : TypeId × Value → H) (W : World) (base : Nat) (args : Array Value) (ds gs : List (DataW H)) (before : List MemPlace)
    (hval : ∀ (j : Nat) t v, Tryd.f3.params[j]? = some t → args[j]? = some v → Value.okWide Tryd.prog W .any base t v)
    (hW : DataW.Whole enc Tryd.prog Tryd.f3.params.toList Rows.charsTellsSpec.vars false W args.toList ds gs before) (hL : laidMetH Tryd.prog Rows.charsTellsRow.laid W) :
    Calls Tryd.prog 3 args W fun e W' => ∃ v, e = .returned v ∧ Rows.charsTellsSpec.post enc Tryd.prog Tryd.f3 false true false false W args v W' := by
  have hW' := hW
  obtain ⟨p, q, hA0, hV, rfl, hfz, hnd⟩ := hW
  have hA : DataW.TrodAll enc Tryd.prog W 0 (fun _ => true) true Tryd.f3.params.toList args.toList ds p := hA0
  rw [Tryd.params3] at hA hval
  obtain ⟨v0, vs0, d0, ds0, p0, q0, hargs, rfl, rfl, h0, r0⟩ := trodAll_cons hA
  obtain ⟨v1, vs1, d1, ds1, p1, q1, rfl, rfl, rfl, h1, r1⟩ := trodAll_cons r0
  obtain ⟨rfl, rfl, rfl⟩ := trodAll_nil r1
  obtain rfl : args = #[v0, v1] := by cases args; simp_all
  obtain ⟨rfl, rfl⟩ := trodVars_none hV
  obtain ⟨a0, rfl, rfl, rfl, w0⟩ := open_int Tryd.underlying3 (hval 0 3 v0 rfl rfl) h0
  obtain ⟨a1, rfl, rfl, rfl, w1⟩ := open_int Tryd.underlying3 (hval 1 3 v1 rfl rfl) h1
  clear hA0
  refine (charsTells_any a0 a1 W (tables hL)).mono fun e W' ⟨he, bel⟩ => ?_
  subst he
  exact ⟨_, rfl, _, _, _, [], _, [], hW', trodAll_mk1 (shut_bool Tryd.underlying4 _), (trodAll_cons_mk (shut_int Tryd.underlying3 w0) (trodAll_cons_mk (shut_int Tryd.underlying3 w1) trodAll_mk0)), rfl, bel.frame _, fun h => by cases h⟩

/-- A world for the witness: the heap that the door's own run leaves. -/
theorem laid_met (os : Os) : laidMetH Tryd.prog Rows.charsTellsRow.laid ((World.doorLaid Tryd.prog 400 os).forCall (fun _ _ => 0) ⟨#[], #[.int .i64 0, .int .i64 0], []⟩).memory :=
  laidMetH_of_parts3 (fuel := 8) (laidMet_of_run' 8 (by kernel_rfl) (by kernel_rfl)) (by kernel_rfl) (by kernel_rfl)
theorem reads (os : Os) {H : Type} (enc : TypeId × Value → H) : ∃ places, DataW.whole enc Tryd.prog ((World.doorLaid Tryd.prog 400 os).forCall (fun _ _ => 0) ⟨#[], #[.int .i64 0, .int .i64 0], []⟩).memory Tryd.f3.params.toList Rows.charsTellsSpec.vars false #[Value.int .i64 0, Value.int .i64 0].toList 8 = some ([.lit (.int .i64 0), .lit (.int .i64 0)], [], places) :=
  ⟨[], by kernel_rfl⟩

set_option maxRecDepth 100000 in
/-- The step from the walk to the row. -/
theorem lifted (os : Os) (started : os.Started) (H : Type) (enc : TypeId × Value → H) (F : Stop.Interp) :
    ReturnsInHanded {} Tryd.checked os 3 .any ((OpenSpec.ofChange Rows.charsTellsSpec).preRow enc Tryd.prog Tryd.f3 Rows.charsTellsRow.domain false Rows.charsTellsRow.laid) (((OpenSpec.ofChange Rows.charsTellsSpec).at F).post enc Tryd.prog Tryd.f3 false true false false) := by
  obtain ⟨places, hx⟩ := reads os enc
  refine returnsInHanded_of_row (C := Tryd.checked) (s := OpenSpec.ofChange Rows.charsTellsSpec) own started (by kernel_rfl) Tryd.func3
    (witness_row_at (enc := enc) (C := Tryd.checked) false (World.doorLaid Tryd.prog 400 os) #[.int .i64 0, .int .i64 0] rfl (by kernel_rfl) (by kernel_rfl) (by kernel_rfl)
      (OpenSpec.preRow_of_cond 8 hx (by kernel_rfl) (fun k hk => by cases hk) (by kernel_rfl) (laid_met os))) ?_
  intro W base args ds gs before hval hW _ _ _ hL _ _
  exact contract H enc W base args ds gs before hval hW hL

theorem said : Rows.CharsTellsSaid :=
  OpenClaim.holds_of_cond 3 Tryd.f3 rfl rfl rfl rfl rfl rfl rfl ⟨rfl, rfl, rfl, rfl, rfl⟩ rfl rfl rfl rfl rfl (by kernel_rfl) Tryd.func3 (by kernel_rfl)
    (of_decide_eq_true (by kernel_rfl)) (by unfold Func.isWrapper; first | (rw [if_pos (by decide +kernel)]; kernel_rfl) | (rw [if_neg (by decide +kernel)]; exact ⟨rfl, rfl⟩))
    (fun os started H enc _ F => by rw [OpenClaim.pre_eq_preRow]; exact lifted os started H enc F)

/-- No parameter wants a stand-in; the program's own looks are off. -/
theorem plain (f : FuncId) (fn : Func) (hf : Tryd.pinned.checked.prog.funcNamed "narthex/narthexlaw03.CharsTells" = some f) (hfn : Tryd.pinned.checked.prog.funcs[f]? = some fn) :
    false = Tryd.pinned.checked.prog.looks [] ∧ ∀ (j : Nat) t, fn.params[j]? = some t → Tryd.pinned.checked.prog.wantsStandIn t = false := by
  obtain rfl : f = 3 := Option.some.inj ((show Tryd.prog.funcNamed "narthex/narthexlaw03.CharsTells" = some 3 by kernel_rfl).symm.trans hf) |>.symm
  obtain rfl : fn = Tryd.f3 := (Option.some.inj (Tryd.func3.symm.trans hfn)).symm
  refine ⟨by kernel_rfl, fun j t ht => ?_⟩
  rw [Tryd.params3] at ht
  obtain rfl : t = 3 := by simpa using Array.mem_of_getElem? ht
  exact (show Tryd.prog.wantsStandIn 3 = false by kernel_rfl)

/-- The card. -/
theorem card : Rows.CharsTellsCardSaid :=
  Claim7.holds_tied_plain_at .later [] _ _ _ _ said (fun _ h => by cases h) (by kernel_rfl) (fun _ h => by cases h) charsTells_row_tie rfl ⟨rfl, rfl⟩ (by kernel_rfl) rfl plain (by kernel_rfl)
#print axioms card
end Go.Proofs.YtfppkjogdahnbaaDoor.charsTells
