/-
  DERIVED. GIVEN WITH THE SEED: THE CARDS: each row of YtdmfladcldkmeaaDoorRows.lean that lists a variable, with what it lists TIED to the program's text (the seventh form; the later family's looks); each row that meets fmt, with fmt's text TOLD by the authors' own Lean function (tested against real Go, not proved from fmt's source: count such statements apart). THE CARD IS WHAT COUNTS. Prove the row's statement (the work); the ties are given (YtdmfladcldkmeaaDoorTie.lean); close each card by the builder's one call (the guide's Derived/Test/ToyasCard.lean, 'card_holds'). Laid BY PROGRAM, IN A SANDBOX (cutbox-door.mjs). By AI agents, Wed Nov 11 2026. No macro, syntax, notation, axiom, sorry.
-/
import Derived.Test.YtdmfladcldkmeaaDoorRows
import GoSem.ClaimSeven
namespace Go.Proofs.YtdmfladcldkmeaaDoor
namespace Rows

/-- THE TIED CARD OF 'narthexlaw10.TagPuts'. -/
def tagPutsCard : Claim7 := { stood := { row := tagPutsRow, standIns := [], harness := (true, "d3e8766b97f5313b08941ae3c81c4b8d73255f5f293cd54395ba3cb6b12179c8"), looks := false }, kinds := [], alts := [], laidByText := true, laidKinds := [.data, .data, .data], laidTests := true, laidLooks := .later }
def TagPutsCardSaid : Prop := Claim7.holds Tryd.pinned (.plain (OpenSpec.ofChange tagPutsSpec)) tagPutsCard

/-- THE TIED CARD OF 'narthexlaw10.TagAgain'. -/
def tagAgainCard : Claim7 := { stood := { row := tagAgainRow, standIns := [], harness := (true, "d3e8766b97f5313b08941ae3c81c4b8d73255f5f293cd54395ba3cb6b12179c8"), looks := false }, kinds := [], alts := [], laidByText := true, laidKinds := [.data, .data, .data], laidTests := true, laidLooks := .later }
def TagAgainCardSaid : Prop := Claim7.holds Tryd.pinned (.plain (OpenSpec.ofChange tagAgainSpec)) tagAgainCard

/-- THE TIED CARD OF 'narthexlaw09.XdeclReads'. -/
def xdeclReadsCard : Claim7 := { stood := { row := xdeclReadsRow, standIns := [], harness := (true, "d3e8766b97f5313b08941ae3c81c4b8d73255f5f293cd54395ba3cb6b12179c8"), looks := false }, kinds := [], alts := [], laidByText := true, laidKinds := [.data, .data, .data, .pinned, .pinned], laidTests := true, laidLooks := .later }
def XdeclReadsCardSaid : Prop := Claim7.holds Tryd.pinned (.plain (OpenSpec.ofChange xdeclReadsSpec)) xdeclReadsCard

/-- THE TIED CARD OF 'narthexlaw09.XdeclPuts'. -/
def xdeclPutsCard : Claim7 := { stood := { row := xdeclPutsRow, standIns := [], harness := (true, "d3e8766b97f5313b08941ae3c81c4b8d73255f5f293cd54395ba3cb6b12179c8"), looks := false }, kinds := [], alts := [], laidByText := true, laidKinds := [.data, .data, .data, .pinned, .pinned], laidTests := true, laidLooks := .later }
def XdeclPutsCardSaid : Prop := Claim7.holds Tryd.pinned (.plain (OpenSpec.ofChange xdeclPutsSpec)) xdeclPutsCard

/-- THE TIED CARD OF 'narthexlaw09.XdeclBlanks'. -/
def xdeclBlanksCard : Claim7 := { stood := { row := xdeclBlanksRow, standIns := [], harness := (true, "d3e8766b97f5313b08941ae3c81c4b8d73255f5f293cd54395ba3cb6b12179c8"), looks := false }, kinds := [], alts := [], laidByText := true, laidKinds := [.data, .data, .data, .pinned, .pinned], laidTests := true, laidLooks := .later }
def XdeclBlanksCardSaid : Prop := Claim7.holds Tryd.pinned (.plain (OpenSpec.ofChange xdeclBlanksSpec)) xdeclBlanksCard

/-- THE TIED CARD OF 'narthexlaw13.ExtidHeads'. -/
def extidHeadsCard : Claim7 := { stood := { row := extidHeadsRow, standIns := [], harness := (true, "d3e8766b97f5313b08941ae3c81c4b8d73255f5f293cd54395ba3cb6b12179c8"), looks := false }, kinds := [], alts := [], laidByText := true, laidKinds := [.data, .data, .data], laidTests := true, laidLooks := .later }
def ExtidHeadsCardSaid : Prop := Claim7.holds Tryd.pinned (.plain (OpenSpec.ofChange extidHeadsSpec)) extidHeadsCard

/-- THE TIED CARD OF 'narthexlaw13.ExtidPuts'. -/
def extidPutsCard : Claim7 := { stood := { row := extidPutsRow, standIns := [], harness := (true, "d3e8766b97f5313b08941ae3c81c4b8d73255f5f293cd54395ba3cb6b12179c8"), looks := false }, kinds := [], alts := [], laidByText := true, laidKinds := [.data, .data, .data], laidTests := true, laidLooks := .later }
def ExtidPutsCardSaid : Prop := Claim7.holds Tryd.pinned (.plain (OpenSpec.ofChange extidPutsSpec)) extidPutsCard

/-- THE TIED CARD OF 'narthexlaw14.EvalueTexts'. -/
def evalueTextsCard : Claim7 := { stood := { row := evalueTextsRow, standIns := [], harness := (true, "d3e8766b97f5313b08941ae3c81c4b8d73255f5f293cd54395ba3cb6b12179c8"), looks := false }, kinds := [], alts := [], laidByText := true, laidKinds := [.data, .data, .data, .data, .data, .data], laidTests := true, laidLooks := .later }
def EvalueTextsCardSaid : Prop := Claim7.holds Tryd.pinned (.plain (OpenSpec.ofChange evalueTextsSpec)) evalueTextsCard

/-- THE TIED CARD OF 'narthexlaw14.EvaluePuts'. -/
def evaluePutsCard : Claim7 := { stood := { row := evaluePutsRow, standIns := [], harness := (true, "d3e8766b97f5313b08941ae3c81c4b8d73255f5f293cd54395ba3cb6b12179c8"), looks := false }, kinds := [], alts := [], laidByText := true, laidKinds := [.data, .data, .data, .data, .data, .data], laidTests := true, laidLooks := .later }
def EvaluePutsCardSaid : Prop := Claim7.holds Tryd.pinned (.plain (OpenSpec.ofChange evaluePutsSpec)) evaluePutsCard

/-- THE TIED CARD OF 'narthexlaw14.EvalueParts'. -/
def evaluePartsCard : Claim7 := { stood := { row := evaluePartsRow, standIns := [], harness := (true, "d3e8766b97f5313b08941ae3c81c4b8d73255f5f293cd54395ba3cb6b12179c8"), looks := false }, kinds := [], alts := [], laidByText := true, laidKinds := [.data, .data, .data, .data, .data, .data], laidTests := true, laidLooks := .later }
def EvaluePartsCardSaid : Prop := Claim7.holds Tryd.pinned (.plain (OpenSpec.ofChange evaluePartsSpec)) evaluePartsCard

/-- THE TIED CARD OF 'narthexlaw35.BindMay'. -/
def bindMayCard : Claim7 := { stood := { row := bindMayRow, standIns := [], harness := (true, "d3e8766b97f5313b08941ae3c81c4b8d73255f5f293cd54395ba3cb6b12179c8"), looks := false }, kinds := [], alts := [], laidByText := true, laidKinds := [.data, .data], laidTests := true, laidLooks := .later }
def BindMayCardSaid : Prop := Claim7.holds Tryd.pinned (.plain (OpenSpec.ofChange bindMaySpec)) bindMayCard

/-- THE TIED CARD OF 'narthexlaw35.BindSplits'. -/
def bindSplitsCard : Claim7 := { stood := { row := bindSplitsRow, standIns := [], harness := (true, "d3e8766b97f5313b08941ae3c81c4b8d73255f5f293cd54395ba3cb6b12179c8"), looks := false }, kinds := [], alts := [], laidByText := true, laidKinds := [.data, .data], laidTests := true, laidLooks := .later }
def BindSplitsCardSaid : Prop := Claim7.holds Tryd.pinned (.plain (OpenSpec.ofChange bindSplitsSpec)) bindSplitsCard

/-- THE SECOND FORM's CARD OF 'narthexlaw10.TagPuts'. -/
def tagPutsUptoCard : Claim7 := { stood := { row := tagPutsUptoRow, standIns := [], harness := (true, "d3e8766b97f5313b08941ae3c81c4b8d73255f5f293cd54395ba3cb6b12179c8"), looks := false }, kinds := [], alts := [], laidByText := true, laidKinds := [.data, .data, .data], laidTests := true, laidLooks := .later }
def TagPutsUptoCardSaid : Prop := Claim7.holds Tryd.pinned (.plain (OpenSpec.upto tagPutsSpec)) tagPutsUptoCard

/-- THE SECOND FORM's CARD OF 'narthexlaw10.TagAgain'. -/
def tagAgainUptoCard : Claim7 := { stood := { row := tagAgainUptoRow, standIns := [], harness := (true, "d3e8766b97f5313b08941ae3c81c4b8d73255f5f293cd54395ba3cb6b12179c8"), looks := false }, kinds := [], alts := [], laidByText := true, laidKinds := [.data, .data, .data], laidTests := true, laidLooks := .later }
def TagAgainUptoCardSaid : Prop := Claim7.holds Tryd.pinned (.plain (OpenSpec.upto tagAgainSpec)) tagAgainUptoCard

/-- THE SECOND FORM's CARD OF 'narthexlaw09.XdeclReads'. -/
def xdeclReadsUptoCard : Claim7 := { stood := { row := xdeclReadsUptoRow, standIns := [], harness := (true, "d3e8766b97f5313b08941ae3c81c4b8d73255f5f293cd54395ba3cb6b12179c8"), looks := false }, kinds := [], alts := [], laidByText := true, laidKinds := [.data, .data, .data, .pinned, .pinned], laidTests := true, laidLooks := .later }
def XdeclReadsUptoCardSaid : Prop := Claim7.holds Tryd.pinned (.plain (OpenSpec.upto xdeclReadsSpec)) xdeclReadsUptoCard

/-- THE SECOND FORM's CARD OF 'narthexlaw09.XdeclPuts'. -/
def xdeclPutsUptoCard : Claim7 := { stood := { row := xdeclPutsUptoRow, standIns := [], harness := (true, "d3e8766b97f5313b08941ae3c81c4b8d73255f5f293cd54395ba3cb6b12179c8"), looks := false }, kinds := [], alts := [], laidByText := true, laidKinds := [.data, .data, .data, .pinned, .pinned], laidTests := true, laidLooks := .later }
def XdeclPutsUptoCardSaid : Prop := Claim7.holds Tryd.pinned (.plain (OpenSpec.upto xdeclPutsSpec)) xdeclPutsUptoCard

/-- THE SECOND FORM's CARD OF 'narthexlaw09.XdeclBlanks'. -/
def xdeclBlanksUptoCard : Claim7 := { stood := { row := xdeclBlanksUptoRow, standIns := [], harness := (true, "d3e8766b97f5313b08941ae3c81c4b8d73255f5f293cd54395ba3cb6b12179c8"), looks := false }, kinds := [], alts := [], laidByText := true, laidKinds := [.data, .data, .data, .pinned, .pinned], laidTests := true, laidLooks := .later }
def XdeclBlanksUptoCardSaid : Prop := Claim7.holds Tryd.pinned (.plain (OpenSpec.upto xdeclBlanksSpec)) xdeclBlanksUptoCard

/-- THE SECOND FORM's CARD OF 'narthexlaw13.ExtidHeads'. -/
def extidHeadsUptoCard : Claim7 := { stood := { row := extidHeadsUptoRow, standIns := [], harness := (true, "d3e8766b97f5313b08941ae3c81c4b8d73255f5f293cd54395ba3cb6b12179c8"), looks := false }, kinds := [], alts := [], laidByText := true, laidKinds := [.data, .data, .data], laidTests := true, laidLooks := .later }
def ExtidHeadsUptoCardSaid : Prop := Claim7.holds Tryd.pinned (.plain (OpenSpec.upto extidHeadsSpec)) extidHeadsUptoCard

/-- THE SECOND FORM's CARD OF 'narthexlaw13.ExtidPuts'. -/
def extidPutsUptoCard : Claim7 := { stood := { row := extidPutsUptoRow, standIns := [], harness := (true, "d3e8766b97f5313b08941ae3c81c4b8d73255f5f293cd54395ba3cb6b12179c8"), looks := false }, kinds := [], alts := [], laidByText := true, laidKinds := [.data, .data, .data], laidTests := true, laidLooks := .later }
def ExtidPutsUptoCardSaid : Prop := Claim7.holds Tryd.pinned (.plain (OpenSpec.upto extidPutsSpec)) extidPutsUptoCard

/-- THE SECOND FORM's CARD OF 'narthexlaw14.EvalueTexts'. -/
def evalueTextsUptoCard : Claim7 := { stood := { row := evalueTextsUptoRow, standIns := [], harness := (true, "d3e8766b97f5313b08941ae3c81c4b8d73255f5f293cd54395ba3cb6b12179c8"), looks := false }, kinds := [], alts := [], laidByText := true, laidKinds := [.data, .data, .data, .data, .data, .data], laidTests := true, laidLooks := .later }
def EvalueTextsUptoCardSaid : Prop := Claim7.holds Tryd.pinned (.plain (OpenSpec.upto evalueTextsSpec)) evalueTextsUptoCard

/-- THE SECOND FORM's CARD OF 'narthexlaw14.EvaluePuts'. -/
def evaluePutsUptoCard : Claim7 := { stood := { row := evaluePutsUptoRow, standIns := [], harness := (true, "d3e8766b97f5313b08941ae3c81c4b8d73255f5f293cd54395ba3cb6b12179c8"), looks := false }, kinds := [], alts := [], laidByText := true, laidKinds := [.data, .data, .data, .data, .data, .data], laidTests := true, laidLooks := .later }
def EvaluePutsUptoCardSaid : Prop := Claim7.holds Tryd.pinned (.plain (OpenSpec.upto evaluePutsSpec)) evaluePutsUptoCard

/-- THE SECOND FORM's CARD OF 'narthexlaw14.EvalueParts'. -/
def evaluePartsUptoCard : Claim7 := { stood := { row := evaluePartsUptoRow, standIns := [], harness := (true, "d3e8766b97f5313b08941ae3c81c4b8d73255f5f293cd54395ba3cb6b12179c8"), looks := false }, kinds := [], alts := [], laidByText := true, laidKinds := [.data, .data, .data, .data, .data, .data], laidTests := true, laidLooks := .later }
def EvaluePartsUptoCardSaid : Prop := Claim7.holds Tryd.pinned (.plain (OpenSpec.upto evaluePartsSpec)) evaluePartsUptoCard

/-- THE SECOND FORM's CARD OF 'narthexlaw35.BindMay'. -/
def bindMayUptoCard : Claim7 := { stood := { row := bindMayUptoRow, standIns := [], harness := (true, "d3e8766b97f5313b08941ae3c81c4b8d73255f5f293cd54395ba3cb6b12179c8"), looks := false }, kinds := [], alts := [], laidByText := true, laidKinds := [.data, .data], laidTests := true, laidLooks := .later }
def BindMayUptoCardSaid : Prop := Claim7.holds Tryd.pinned (.plain (OpenSpec.upto bindMaySpec)) bindMayUptoCard

/-- THE SECOND FORM's CARD OF 'narthexlaw35.BindSplits'. -/
def bindSplitsUptoCard : Claim7 := { stood := { row := bindSplitsUptoRow, standIns := [], harness := (true, "d3e8766b97f5313b08941ae3c81c4b8d73255f5f293cd54395ba3cb6b12179c8"), looks := false }, kinds := [], alts := [], laidByText := true, laidKinds := [.data, .data], laidTests := true, laidLooks := .later }
def BindSplitsUptoCardSaid : Prop := Claim7.holds Tryd.pinned (.plain (OpenSpec.upto bindSplitsSpec)) bindSplitsUptoCard
end Rows
end Go.Proofs.YtdmfladcldkmeaaDoor
