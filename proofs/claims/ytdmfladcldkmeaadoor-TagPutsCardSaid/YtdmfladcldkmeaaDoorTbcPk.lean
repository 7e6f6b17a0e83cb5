/- For any tag TagPuts returns true: it is written as the document has it, and read as itself, or what keeps it from being written is told; the package chars' tables are as the program's text lays them; no other condition. -/
import Derived.Test.YtdmfladcldkmeaaDoorCards
import Derived.Test.YtdmfladcldkmeaaDoorTie
import Derived.WalkKit
import Derived.ProofKit
import Derived.OpenShut
import Derived.LaidMore
import Derived.Lay
import Derived.MakeChecks
import Derived.ChangeMaps5
import Derived.Deep.DeepHandedRow
import Derived.Lib.LaidTab
import Derived.Test.YtdmfladcldkmeaaDoorPtaf
namespace Go.Proofs.YtdmfladcldkmeaaDoor.tagPuts
open Go.ChangeShapes Go.WideShapes Go.ChangeAt Go.RowKit
set_option linter.unusedVariables false

theorem own : ownKnob Tryd.prog.godebug = none := by kernel_rfl
theorem laidOut : laidOutB Tryd.prog = true := by kernel_rfl

theorem gChar : Tryd.prog.globalNamed "narthex/chars.charRuns" = some 1 := by kernel_rfl
theorem tChar : (Tryd.prog.globals[1]?).map (·.type) = some 191 := by kernel_rfl
theorem gStart : Tryd.prog.globalNamed "narthex/chars.startRuns" = some 2 := by kernel_rfl
theorem tStart : (Tryd.prog.globals[2]?).map (·.type) = some 199 := by kernel_rfl
theorem gFollow : Tryd.prog.globalNamed "narthex/chars.followRuns" = some 3 := by kernel_rfl
theorem tFollow : (Tryd.prog.globals[3]?).map (·.type) = some 191 := by kernel_rfl
theorem cInt : Tryd.prog.cellsOf 3 = 1 := by kernel_rfl
theorem cRun : Tryd.prog.cellsOf 164 = 2 := by kernel_rfl
theorem c5 : Tryd.prog.cellsOf 191 = 2 * 5 := by kernel_rfl
theorem c16 : Tryd.prog.cellsOf 199 = 2 * 16 := by kernel_rfl

/-- What the row's list gives: the tables lie as they were laid. -/
theorem tables {W : World} (h : laidMetH Tryd.prog Rows.tagPutsRow.laid W) : TabC W := by
  rw [MakeChecks.laidMetH_plain _ _ _ (by kernel_rfl)] at h
  obtain ⟨ps, ⟨g0, t0, cs0, f0, p0, q0, hg0, ht0, hv0, hd0, ⟨g1, t1, cs1, f1, p1, q1, hg1, ht1, hv1, hd1, ⟨g2, t2, cs2, f2, p2, q2, hg2, ht2, hv2, hd2, _, _⟩, _⟩, _⟩, _, _⟩ := h
  obtain rfl := Option.some.inj (gChar.symm.trans hg0)
  obtain rfl := Option.some.inj (tChar.symm.trans ht0)
  obtain rfl := Option.some.inj (gStart.symm.trans hg1)
  obtain rfl := Option.some.inj (tStart.symm.trans ht1)
  obtain rfl := Option.some.inj (gFollow.symm.trans hg2)
  obtain rfl := Option.some.inj (tFollow.symm.trans ht2)
  exact {
    char := tab_of_var gChar hv0 (cells_pairs (T := charT) Tryd.underlying191 Tryd.underlying164 rfl rfl rfl rfl Tryd.underlying3 cInt cRun c5 rfl hd0)
    start := tab_of_var gStart hv1 (cells_pairs (T := startT) Tryd.underlying199 Tryd.underlying164 rfl rfl rfl rfl Tryd.underlying3 cInt cRun c16 rfl hd1)
    follow := tab_of_var gFollow hv2 (cells_pairs (T := followT) Tryd.underlying191 Tryd.underlying164 rfl rfl rfl rfl Tryd.underlying3 cInt cRun c5 rfl hd2) }

set_option maxRecDepth 100000 in
theorem contract (H : Type) (enc : TypeId × Value → H) (W : World) (base : Nat) (args : Array Value) (ds gs : List (DataW H)) (before : List MemPlace)
    (hval : ∀ (j : Nat) t v, Tryd.f3.params[j]? = some t → args[j]? = some v → Value.okWide Tryd.prog W .any base t v)
    (hW : DataW.Whole enc Tryd.prog Tryd.f3.params.toList Rows.tagPutsSpec.vars false W args.toList ds gs before) (hL : laidMetH Tryd.prog Rows.tagPutsRow.laid W) :
    Calls Tryd.prog 3 args W fun e W' => ∃ v, e = .returned v ∧ Rows.tagPutsSpec.post enc Tryd.prog Tryd.f3 false true false false W args v W' := by
  have hW' := hW
  obtain ⟨p, q, hA0, hV, rfl, hfz, hnd⟩ := hW
  have hA : DataW.TrodAll enc Tryd.prog W 0 (fun _ => true) true Tryd.f3.params.toList args.toList ds p := hA0
  rw [Tryd.params3] at hA hval
  obtain ⟨v0, vs0, d0, ds0, p0, q0, hargs, rfl, rfl, h0, r0⟩ := trodAll_cons hA
  obtain ⟨rfl, rfl, rfl⟩ := trodAll_nil r0
  obtain rfl : args = #[v0] := by cases args; simp_all
  obtain ⟨rfl, rfl⟩ := trodVars_none hV
  have k0 := h0
  have lt0 : ∀ x ∈ p0, x.block < W.heap.size := by obtain ⟨m, hm⟩ := k0; exact DataW.trod_lt m _ _ _ hm
  obtain ⟨x0, rfl, F0⟩ := opn_tag h0 (hval 0 24 v0 rfl rfl)
  clear hA0
  have tab := tables hL
  refine (show Calls Tryd.prog 3 #[.agg #[strV x0.1, .slice x0.2.2.1 x0.2.1.length x0.2.2.2.1, .bool x0.2.2.2.2]] W fun e w' => e = .returned (.bool true) ∧ Below W.heap.size W w' from tagPuts_any x0.1 x0.2.1 x0.2.2.2.2 x0.2.2.1 x0.2.1.length x0.2.2.2.1 W rfl F0.1 F0.2.1 F0.2.2 tab).mono fun e W' ⟨he, bel⟩ => ?_
  subst he
  exact ⟨_, rfl, _, _, _, [], _, [], hW', trodAll_mk1 (shut_bool Tryd.underlying4 _), (trodAll_cons_mk (Below.trod laidOut (by kernel_rfl) (of_decide_eq_true (by kernel_rfl)) k0 bel lt0) trodAll_mk0), rfl, bel.frame _, fun h => by cases h⟩

/-- A world for the witness: the listed variables laid as they read. -/
theorem laid_met (os : Os) : laidMetH Tryd.prog Rows.tagPutsRow.laid ((World.laidAll Tryd.prog os Rows.tagPutsRow.laid).forCall (fun _ _ => 0) ⟨#[], #[.agg #[.string ⟨#[]⟩, .slice none 0 0, .bool false]], []⟩).memory :=
  by rw [MakeChecks.laidMetH_plain _ _ _ (by kernel_rfl)]; exact laidMet_laidAll _ (by kernel_rfl) (by kernel_rfl)
theorem reads (os : Os) {H : Type} (enc : TypeId × Value → H) : ∃ places, DataW.whole enc Tryd.prog ((World.laidAll Tryd.prog os Rows.tagPutsRow.laid).forCall (fun _ _ => 0) ⟨#[], #[.agg #[.string ⟨#[]⟩, .slice none 0 0, .bool false]], []⟩).memory Tryd.f3.params.toList Rows.tagPutsSpec.vars false #[Value.agg #[.string ⟨#[]⟩, .slice none 0 0, .bool false]].toList 8 = some ([.agg [.lit (.string []), .nil, .lit (.bool false)]], [], places) :=
  ⟨[], by kernel_rfl⟩

set_option maxRecDepth 100000 in
/-- The step from the walk to the row. -/
theorem lifted (os : Os) (started : os.Started) (H : Type) (enc : TypeId × Value → H) (F : Stop.Interp) :
    ReturnsInHanded {} Tryd.checked os 3 .any ((OpenSpec.ofChange Rows.tagPutsSpec).preRow enc Tryd.prog Tryd.f3 Rows.tagPutsRow.domain false Rows.tagPutsRow.laid) (((OpenSpec.ofChange Rows.tagPutsSpec).at F).post enc Tryd.prog Tryd.f3 false true false false) := by
  obtain ⟨places, hx⟩ := reads os enc
  refine returnsInHanded_of_row (C := Tryd.checked) (s := OpenSpec.ofChange Rows.tagPutsSpec) own started (by kernel_rfl) Tryd.func3
    (witness_row_at (enc := enc) (C := Tryd.checked) false (World.laidAll Tryd.prog os Rows.tagPutsRow.laid) #[.agg #[.string ⟨#[]⟩, .slice none 0 0, .bool false]] (World.laidAll_os _ _ _) (by kernel_rfl) (by kernel_rfl) (by kernel_rfl)
      (OpenSpec.preRow_of_cond 8 hx (by kernel_rfl) (fun k hk => by cases hk) (by kernel_rfl) (laid_met os))) ?_
  intro W base args ds gs before hval hW _ _ _ hL _ _
  exact contract H enc W base args ds gs before hval hW hL

theorem said : Rows.TagPutsSaid :=
  OpenClaim.holds_of_cond 3 Tryd.f3 rfl rfl rfl rfl rfl rfl rfl ⟨rfl, rfl, rfl, rfl, rfl⟩ rfl rfl rfl rfl rfl (by kernel_rfl) Tryd.func3 (by kernel_rfl)
    (of_decide_eq_true (by kernel_rfl)) (by unfold Func.isWrapper; first | (rw [if_pos (by decide +kernel)]; kernel_rfl) | (rw [if_neg (by decide +kernel)]; exact ⟨rfl, rfl⟩))
    (fun os started H enc _ F => by rw [OpenClaim.pre_eq_preRow]; exact lifted os started H enc F)

/-- No parameter wants a stand-in; the program's own looks are off. -/
theorem plain (f : FuncId) (fn : Func) (hf : Tryd.pinned.checked.prog.funcNamed "narthex/narthexlaw10.TagPuts" = some f) (hfn : Tryd.pinned.checked.prog.funcs[f]? = some fn) :
    false = Tryd.pinned.checked.prog.looks [] ∧ ∀ (j : Nat) t, fn.params[j]? = some t → Tryd.pinned.checked.prog.wantsStandIn t = false := by
  obtain rfl : f = 3 := Option.some.inj ((show Tryd.prog.funcNamed "narthex/narthexlaw10.TagPuts" = some 3 by kernel_rfl).symm.trans hf) |>.symm
  obtain rfl : fn = Tryd.f3 := (Option.some.inj (Tryd.func3.symm.trans hfn)).symm
  refine ⟨by kernel_rfl, fun j t ht => ?_⟩
  rw [Tryd.params3] at ht
  have hm : t = 24 := by simpa using Array.mem_of_getElem? ht
  rcases hm with rfl
  · exact (show Tryd.prog.wantsStandIn 24 = false by kernel_rfl)

/-- The card. -/
theorem card : Rows.TagPutsCardSaid :=
  Claim7.holds_tied_plain_at .later [] _ _ _ _ said (fun _ h => by cases h) (by kernel_rfl) (fun _ h => by cases h) tagPuts_row_tie rfl ⟨rfl, rfl⟩ (by kernel_rfl) rfl plain (by kernel_rfl)
#print axioms card
end Go.Proofs.YtdmfladcldkmeaaDoor.tagPuts
