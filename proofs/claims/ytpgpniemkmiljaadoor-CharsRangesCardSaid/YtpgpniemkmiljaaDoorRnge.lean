/- For any int, any number of numbers and any class CharsRanges returns true: the runs of a class are rising, lie apart, and have just those numbers that are of it; over the tables that the program's text lays; no condition. -/
import Derived.Test.YtpgpniemkmiljaaDoorCards
import Derived.Test.YtpgpniemkmiljaaDoorTie
import Derived.Test.YtpgpniemkmiljaaDoorRngd
import Derived.WalkKit
import Derived.ProofKit
import Derived.OpenShut
import Derived.LaidMore
import Derived.MakeChecks
import Derived.Deep.DeepHandedRow
import Derived.Lib.LaidTab
namespace Go.Proofs.YtpgpniemkmiljaaDoor.charsRanges
open Go.ChangeShapes Go.WideShapes Go.ChangeAt Go.RowKit
set_option linter.unusedVariables false

theorem own : ownKnob Tryd.prog.godebug = none := by kernel_rfl
theorem laidOut : laidOutB Tryd.prog = true := by kernel_rfl
theorem gChar : Tryd.prog.globalNamed "narthex/chars.charRuns" = some 0 := by kernel_rfl
theorem gStart : Tryd.prog.globalNamed "narthex/chars.startRuns" = some 1 := by kernel_rfl
theorem gFollow : Tryd.prog.globalNamed "narthex/chars.followRuns" = some 2 := by kernel_rfl
theorem gPubid : Tryd.prog.globalNamed "narthex/chars.pubidRuns" = some 3 := by kernel_rfl
theorem tChar : (Tryd.prog.globals[0]?).map (·.type) = some 46 := by kernel_rfl
theorem tStart : (Tryd.prog.globals[1]?).map (·.type) = some 47 := by kernel_rfl
theorem tFollow : (Tryd.prog.globals[2]?).map (·.type) = some 46 := by kernel_rfl
theorem tPubid : (Tryd.prog.globals[3]?).map (·.type) = some 53 := by kernel_rfl
theorem cInt : Tryd.prog.cellsOf 3 = 1 := by kernel_rfl
theorem cRun : Tryd.prog.cellsOf 45 = 2 := by kernel_rfl
theorem c5 : Tryd.prog.cellsOf 46 = 2 * 5 := by kernel_rfl
theorem c9 : Tryd.prog.cellsOf 53 = 2 * 9 := by kernel_rfl
theorem c16 : Tryd.prog.cellsOf 47 = 2 * 16 := by kernel_rfl

/-- What the row's list gives: the four tables lie as they were laid. -/
theorem tables {W : World} (h : laidMetH Tryd.prog Rows.charsRangesRow.laid W) : Tables W := by
  rw [MakeChecks.laidMetH_plain _ _ _ (by kernel_rfl)] at h
  obtain ⟨ps, ⟨g0, t0, cs0, f0, p0, q0, hg0, ht0, hv0, hd0, ⟨g1, t1, cs1, f1, p1, q1, hg1, ht1, hv1, hd1, ⟨g2, t2, cs2, f2, p2, q2, hg2, ht2, hv2, hd2, ⟨g3, t3, cs3, f3, p3, q3, hg3, ht3, hv3, hd3, _, _⟩, _⟩, _⟩, _⟩, _, _⟩ := h
  obtain rfl := Option.some.inj (gChar.symm.trans hg0)
  obtain rfl := Option.some.inj (gStart.symm.trans hg1)
  obtain rfl := Option.some.inj (gFollow.symm.trans hg2)
  obtain rfl := Option.some.inj (gPubid.symm.trans hg3)
  obtain rfl := Option.some.inj (tChar.symm.trans ht0)
  obtain rfl := Option.some.inj (tStart.symm.trans ht1)
  obtain rfl := Option.some.inj (tFollow.symm.trans ht2)
  obtain rfl := Option.some.inj (tPubid.symm.trans ht3)
  exact {
    char := tab_of_var gChar hv0 (cells_pairs (T := charT) Tryd.underlying46 Tryd.underlying45 rfl rfl rfl rfl Tryd.underlying3 cInt cRun c5 rfl hd0)
    start := tab_of_var gStart hv1 (cells_pairs (T := startT) Tryd.underlying47 Tryd.underlying45 rfl rfl rfl rfl Tryd.underlying3 cInt cRun c16 rfl hd1)
    follow := tab_of_var gFollow hv2 (cells_pairs (T := followT) Tryd.underlying46 Tryd.underlying45 rfl rfl rfl rfl Tryd.underlying3 cInt cRun c5 rfl hd2)
    pubid := tab_of_var gPubid hv3 (cells_pairs (T := pubidT) Tryd.underlying53 Tryd.underlying45 rfl rfl rfl rfl Tryd.underlying3 cInt cRun c9 rfl hd3) }

theorem contract (H : Type) (enc : TypeId × Value → H) (W : World) (base : Nat) (args : Array Value) (ds gs : List (DataW H)) (before : List MemPlace)
    (hval : ∀ (j : Nat) t v, Tryd.f4.params[j]? = some t → args[j]? = some v → Value.okWide Tryd.prog W .any base t v)
    (hW : DataW.Whole enc Tryd.prog Tryd.f4.params.toList Rows.charsRangesSpec.vars false W args.toList ds gs before) (hL : laidMetH Tryd.prog Rows.charsRangesRow.laid W) :
    Calls Tryd.prog 4 args W fun e W' => ∃ v, e = .returned v ∧ Rows.charsRangesSpec.post enc Tryd.prog Tryd.f4 false true false false W args v W' := by
  have hW' := hW
  obtain ⟨p, q, hA0, hV, rfl, hfz, hnd⟩ := hW
  have hA : DataW.TrodAll enc Tryd.prog W 0 (fun _ => true) true Tryd.f4.params.toList args.toList ds p := hA0
  rw [Tryd.params4] at hA hval
  obtain ⟨v0, vs0, d0, ds0, p0, q0, hargs, rfl, rfl, h0, r0⟩ := trodAll_cons hA
  obtain ⟨v1, vs1, d1, ds1, p1, q1, rfl, rfl, rfl, h1, r1⟩ := trodAll_cons r0
  obtain ⟨v2, vs2, d2, ds2, p2, q2, rfl, rfl, rfl, h2, r2⟩ := trodAll_cons r1
  obtain ⟨rfl, rfl, rfl⟩ := trodAll_nil r2
  obtain rfl : args = #[v0, v1, v2] := by cases args; simp_all
  obtain ⟨rfl, rfl⟩ := trodVars_none hV
  obtain ⟨a0, rfl, rfl, rfl, w0⟩ := open_int Tryd.underlying3 (hval 0 3 v0 rfl rfl) h0
  obtain ⟨a1, rfl, rfl, rfl, w1⟩ := open_int Tryd.underlying29 (hval 1 29 v1 rfl rfl) h1
  obtain ⟨a2, rfl, rfl, rfl, w2⟩ := open_int Tryd.underlying5 (hval 2 5 v2 rfl rfl) h2
  have hb1 := bounds_u16 w1
  have hb2 := bounds_u8 w2
  clear hA0
  refine (show Calls Tryd.prog 4 #[.int .i64 a0, .int .u16 a1, .int .u8 a2] W fun e w' => e = .returned (.bool true) ∧ Below W.heap.size W w' from by
    have h := charsRanges_any a0 a1.toNat a2.toNat W (i64_of_wf w0) (by omega) (by omega) (tables hL)
    rwa [show ((a1.toNat : Nat) : Int) = a1 by omega, show ((a2.toNat : Nat) : Int) = a2 by omega] at h).mono fun e W' ⟨he, bel⟩ => ?_
  subst he
  exact ⟨_, rfl, _, _, _, [], _, [], hW', trodAll_mk1 (shut_bool Tryd.underlying4 _), (trodAll_cons_mk (shut_int Tryd.underlying3 w0) (trodAll_cons_mk (shut_int Tryd.underlying29 w1) (trodAll_cons_mk (shut_int Tryd.underlying5 w2) trodAll_mk0))), rfl, bel.frame _, fun h => by cases h⟩

/-- A world for the witness: the heap that the door's own run leaves. -/
theorem laid_met (os : Os) : laidMetH Tryd.prog Rows.charsRangesRow.laid ((World.doorLaid Tryd.prog 400 os).forCall (fun _ _ => 0) ⟨#[], #[.int .i64 0, .int .u16 0, .int .u8 0], []⟩).memory :=
  laidMetH_of_parts3 (fuel := 8) (laidMet_of_run' 8 (by kernel_rfl) (by kernel_rfl)) (by kernel_rfl) (by kernel_rfl)
theorem reads (os : Os) {H : Type} (enc : TypeId × Value → H) : ∃ places, DataW.whole enc Tryd.prog ((World.doorLaid Tryd.prog 400 os).forCall (fun _ _ => 0) ⟨#[], #[.int .i64 0, .int .u16 0, .int .u8 0], []⟩).memory Tryd.f4.params.toList Rows.charsRangesSpec.vars false #[Value.int .i64 0, Value.int .u16 0, Value.int .u8 0].toList 8 = some ([.lit (.int .i64 0), .lit (.int .u16 0), .lit (.int .u8 0)], [], places) :=
  ⟨[], by kernel_rfl⟩

set_option maxRecDepth 100000 in
/-- The step from the walk to the row. -/
theorem lifted (os : Os) (started : os.Started) (H : Type) (enc : TypeId × Value → H) (F : Stop.Interp) :
    ReturnsInHanded {} Tryd.checked os 4 .any ((OpenSpec.ofChange Rows.charsRangesSpec).preRow enc Tryd.prog Tryd.f4 Rows.charsRangesRow.domain false Rows.charsRangesRow.laid) (((OpenSpec.ofChange Rows.charsRangesSpec).at F).post enc Tryd.prog Tryd.f4 false true false false) := by
  obtain ⟨places, hx⟩ := reads os enc
  refine returnsInHanded_of_row (C := Tryd.checked) (s := OpenSpec.ofChange Rows.charsRangesSpec) own started (by kernel_rfl) Tryd.func4
    (witness_row_at (enc := enc) (C := Tryd.checked) false (World.doorLaid Tryd.prog 400 os) #[.int .i64 0, .int .u16 0, .int .u8 0] rfl (by kernel_rfl) (by kernel_rfl) (by kernel_rfl)
      (OpenSpec.preRow_of_cond 8 hx (by kernel_rfl) (fun k hk => by cases hk) (by kernel_rfl) (laid_met os))) ?_
  intro W base args ds gs before hval hW _ _ _ hL _ _
  exact contract H enc W base args ds gs before hval hW hL

theorem said : Rows.CharsRangesSaid :=
  OpenClaim.holds_of_cond 4 Tryd.f4 rfl rfl rfl rfl rfl rfl rfl ⟨rfl, rfl, rfl, rfl, rfl⟩ rfl rfl rfl rfl rfl (by kernel_rfl) Tryd.func4 (by kernel_rfl)
    (of_decide_eq_true (by kernel_rfl)) (by unfold Func.isWrapper; first | (rw [if_pos (by decide +kernel)]; kernel_rfl) | (rw [if_neg (by decide +kernel)]; exact ⟨rfl, rfl⟩))
    (fun os started H enc _ F => by rw [OpenClaim.pre_eq_preRow]; exact lifted os started H enc F)

/-- No parameter wants a stand-in; the program's own looks are off. -/
theorem plain (f : FuncId) (fn : Func) (hf : Tryd.pinned.checked.prog.funcNamed "narthex/narthexlaw03.CharsRanges" = some f) (hfn : Tryd.pinned.checked.prog.funcs[f]? = some fn) :
    false = Tryd.pinned.checked.prog.looks [] ∧ ∀ (j : Nat) t, fn.params[j]? = some t → Tryd.pinned.checked.prog.wantsStandIn t = false := by
  obtain rfl : f = 4 := Option.some.inj ((show Tryd.prog.funcNamed "narthex/narthexlaw03.CharsRanges" = some 4 by kernel_rfl).symm.trans hf) |>.symm
  obtain rfl : fn = Tryd.f4 := (Option.some.inj (Tryd.func4.symm.trans hfn)).symm
  refine ⟨by kernel_rfl, fun j t ht => ?_⟩
  rw [Tryd.params4] at ht
  have hm : t = 3 ∨ t = 29 ∨ t = 5 := by simpa using Array.mem_of_getElem? ht
  rcases hm with rfl | rfl | rfl
  · exact (show Tryd.prog.wantsStandIn 3 = false by kernel_rfl)
  · exact (show Tryd.prog.wantsStandIn 29 = false by kernel_rfl)
  · exact (show Tryd.prog.wantsStandIn 5 = false by kernel_rfl)

/-- The card. -/
theorem card : Rows.CharsRangesCardSaid :=
  Claim7.holds_tied_plain_at .later [] _ _ _ _ said (fun _ h => by cases h) (by kernel_rfl) (fun _ h => by cases h) charsRanges_row_tie rfl ⟨rfl, rfl⟩ (by kernel_rfl) rfl plain (by kernel_rfl)
#print axioms card
end Go.Proofs.YtpgpniemkmiljaaDoor.charsRanges
