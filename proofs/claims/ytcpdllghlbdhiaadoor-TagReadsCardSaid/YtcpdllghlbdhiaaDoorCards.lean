/-
  DERIVED. GIVEN WITH THE SEED: THE CARDS: each row of YtcpdllghlbdhiaaDoorRows.lean that lists a variable, with what it lists TIED to the program's text (the seventh form; the later family's looks); each row that meets fmt, with fmt's text TOLD by the authors' own Lean function (tested against real Go, not proved from fmt's source: count such statements apart). THE CARD IS WHAT COUNTS. Prove the row's statement (the work); the ties are given (YtcpdllghlbdhiaaDoorTie.lean); close each card by the builder's one call (the guide's Derived/Test/ToyasCard.lean, 'card_holds'). Laid BY PROGRAM, IN A SANDBOX (cutbox-door.mjs). By AI agents, Wed Nov 11 2026. No macro, syntax, notation, axiom, sorry.
-/
import Derived.Test.YtcpdllghlbdhiaaDoorRows
import GoSem.ClaimSeven
namespace Go.Proofs.YtcpdllghlbdhiaaDoor
namespace Rows

/-- THE TIED CARD OF 'narthexlaw08.MiscReads'. -/
def miscReadsCard : Claim7 := { stood := { row := miscReadsRow, standIns := [], harness := (true, "c3cf5a8dbfb8118147f6a02549fd3adb2df9ee2af512e3fb2bfe599b672b7aea"), looks := false }, kinds := [], alts := [], laidByText := true, laidKinds := [.data, .data, .data, .data, .data, .pinned, .pinned], laidTests := true, laidLooks := .later }
def MiscReadsCardSaid : Prop := Claim7.holds Tryd.pinned (.plain (OpenSpec.ofChange miscReadsSpec)) miscReadsCard

/-- THE TIED CARD OF 'narthexlaw08.MiscPuts'. -/
def miscPutsCard : Claim7 := { stood := { row := miscPutsRow, standIns := [], harness := (true, "c3cf5a8dbfb8118147f6a02549fd3adb2df9ee2af512e3fb2bfe599b672b7aea"), looks := false }, kinds := [], alts := [], laidByText := true, laidKinds := [.data, .data, .data, .data, .data, .pinned, .pinned], laidTests := true, laidLooks := .later }
def MiscPutsCardSaid : Prop := Claim7.holds Tryd.pinned (.plain (OpenSpec.ofChange miscPutsSpec)) miscPutsCard

/-- THE TIED CARD OF 'narthexlaw08.MiscPis'. -/
def miscPisCard : Claim7 := { stood := { row := miscPisRow, standIns := [], harness := (true, "c3cf5a8dbfb8118147f6a02549fd3adb2df9ee2af512e3fb2bfe599b672b7aea"), looks := false }, kinds := [], alts := [], laidByText := true, laidKinds := [.data, .data, .data, .data, .data, .pinned, .pinned], laidTests := true, laidLooks := .later }
def MiscPisCardSaid : Prop := Claim7.holds Tryd.pinned (.plain (OpenSpec.ofChange miscPisSpec)) miscPisCard

/-- THE TIED CARD OF 'narthexlaw09.XdeclReads'. -/
def xdeclReadsCard : Claim7 := { stood := { row := xdeclReadsRow, standIns := [], harness := (true, "c3cf5a8dbfb8118147f6a02549fd3adb2df9ee2af512e3fb2bfe599b672b7aea"), looks := false }, kinds := [], alts := [], laidByText := true, laidKinds := [.data, .data, .data, .pinned, .pinned], laidTests := true, laidLooks := .later }
def XdeclReadsCardSaid : Prop := Claim7.holds Tryd.pinned (.plain (OpenSpec.ofChange xdeclReadsSpec)) xdeclReadsCard

/-- THE TIED CARD OF 'narthexlaw09.XdeclPuts'. -/
def xdeclPutsCard : Claim7 := { stood := { row := xdeclPutsRow, standIns := [], harness := (true, "c3cf5a8dbfb8118147f6a02549fd3adb2df9ee2af512e3fb2bfe599b672b7aea"), looks := false }, kinds := [], alts := [], laidByText := true, laidKinds := [.data, .data, .data, .pinned, .pinned], laidTests := true, laidLooks := .later }
def XdeclPutsCardSaid : Prop := Claim7.holds Tryd.pinned (.plain (OpenSpec.ofChange xdeclPutsSpec)) xdeclPutsCard

/-- THE TIED CARD OF 'narthexlaw09.XdeclBlanks'. -/
def xdeclBlanksCard : Claim7 := { stood := { row := xdeclBlanksRow, standIns := [], harness := (true, "c3cf5a8dbfb8118147f6a02549fd3adb2df9ee2af512e3fb2bfe599b672b7aea"), looks := false }, kinds := [], alts := [], laidByText := true, laidKinds := [.data, .data, .data, .pinned, .pinned], laidTests := true, laidLooks := .later }
def XdeclBlanksCardSaid : Prop := Claim7.holds Tryd.pinned (.plain (OpenSpec.ofChange xdeclBlanksSpec)) xdeclBlanksCard

/-- THE TIED CARD OF 'narthexlaw10.TagReads'. -/
def tagReadsCard : Claim7 := { stood := { row := tagReadsRow, standIns := [], harness := (true, "c3cf5a8dbfb8118147f6a02549fd3adb2df9ee2af512e3fb2bfe599b672b7aea"), looks := false }, kinds := [], alts := [], laidByText := true, laidKinds := [.data, .data, .data], laidTests := true, laidLooks := .later }
def TagReadsCardSaid : Prop := Claim7.holds Tryd.pinned (.plain (OpenSpec.ofChange tagReadsSpec)) tagReadsCard

/-- THE TIED CARD OF 'narthexlaw10.TagPuts'. -/
def tagPutsCard : Claim7 := { stood := { row := tagPutsRow, standIns := [], harness := (true, "c3cf5a8dbfb8118147f6a02549fd3adb2df9ee2af512e3fb2bfe599b672b7aea"), looks := false }, kinds := [], alts := [], laidByText := true, laidKinds := [.data, .data, .data], laidTests := true, laidLooks := .later }
def TagPutsCardSaid : Prop := Claim7.holds Tryd.pinned (.plain (OpenSpec.ofChange tagPutsSpec)) tagPutsCard

/-- THE TIED CARD OF 'narthexlaw10.TagAgain'. -/
def tagAgainCard : Claim7 := { stood := { row := tagAgainRow, standIns := [], harness := (true, "c3cf5a8dbfb8118147f6a02549fd3adb2df9ee2af512e3fb2bfe599b672b7aea"), looks := false }, kinds := [], alts := [], laidByText := true, laidKinds := [.data, .data, .data], laidTests := true, laidLooks := .later }
def TagAgainCardSaid : Prop := Claim7.holds Tryd.pinned (.plain (OpenSpec.ofChange tagAgainSpec)) tagAgainCard

/-- THE TIED CARD OF 'narthexlaw18.RefsFinds'. -/
def refsFindsCard : Claim7 := { stood := { row := refsFindsRow, standIns := [], harness := (true, "c3cf5a8dbfb8118147f6a02549fd3adb2df9ee2af512e3fb2bfe599b672b7aea"), looks := false }, kinds := [], alts := [], laidByText := true, laidKinds := [.data, .data], laidTests := true, laidLooks := .later }
def RefsFindsCardSaid : Prop := Claim7.holds Tryd.pinned (.plain (OpenSpec.ofChange refsFindsSpec)) refsFindsCard

/-- THE TIED CARD OF 'narthexlaw18.RefsReplaces'. -/
def refsReplacesCard : Claim7 := { stood := { row := refsReplacesRow, standIns := [], harness := (true, "c3cf5a8dbfb8118147f6a02549fd3adb2df9ee2af512e3fb2bfe599b672b7aea"), looks := false }, kinds := [], alts := [], laidByText := true, laidKinds := [.data, .data], laidTests := true, laidLooks := .later }
def RefsReplacesCardSaid : Prop := Claim7.holds Tryd.pinned (.plain (OpenSpec.ofChange refsReplacesSpec)) refsReplacesCard

/-- THE TIED CARD OF 'narthexlaw18.RefsCuts'. -/
def refsCutsCard : Claim7 := { stood := { row := refsCutsRow, standIns := [], harness := (true, "c3cf5a8dbfb8118147f6a02549fd3adb2df9ee2af512e3fb2bfe599b672b7aea"), looks := false }, kinds := [], alts := [], laidByText := true, laidKinds := [.data, .data], laidTests := true, laidLooks := .later }
def RefsCutsCardSaid : Prop := Claim7.holds Tryd.pinned (.plain (OpenSpec.ofChange refsCutsSpec)) refsCutsCard

/-- THE SECOND FORM's CARD OF 'narthexlaw08.MiscReads'. -/
def miscReadsUptoCard : Claim7 := { stood := { row := miscReadsUptoRow, standIns := [], harness := (true, "c3cf5a8dbfb8118147f6a02549fd3adb2df9ee2af512e3fb2bfe599b672b7aea"), looks := false }, kinds := [], alts := [], laidByText := true, laidKinds := [.data, .data, .data, .data, .data, .pinned, .pinned], laidTests := true, laidLooks := .later }
def MiscReadsUptoCardSaid : Prop := Claim7.holds Tryd.pinned (.plain (OpenSpec.upto miscReadsSpec)) miscReadsUptoCard

/-- THE SECOND FORM's CARD OF 'narthexlaw08.MiscPuts'. -/
def miscPutsUptoCard : Claim7 := { stood := { row := miscPutsUptoRow, standIns := [], harness := (true, "c3cf5a8dbfb8118147f6a02549fd3adb2df9ee2af512e3fb2bfe599b672b7aea"), looks := false }, kinds := [], alts := [], laidByText := true, laidKinds := [.data, .data, .data, .data, .data, .pinned, .pinned], laidTests := true, laidLooks := .later }
def MiscPutsUptoCardSaid : Prop := Claim7.holds Tryd.pinned (.plain (OpenSpec.upto miscPutsSpec)) miscPutsUptoCard

/-- THE SECOND FORM's CARD OF 'narthexlaw08.MiscPis'. -/
def miscPisUptoCard : Claim7 := { stood := { row := miscPisUptoRow, standIns := [], harness := (true, "c3cf5a8dbfb8118147f6a02549fd3adb2df9ee2af512e3fb2bfe599b672b7aea"), looks := false }, kinds := [], alts := [], laidByText := true, laidKinds := [.data, .data, .data, .data, .data, .pinned, .pinned], laidTests := true, laidLooks := .later }
def MiscPisUptoCardSaid : Prop := Claim7.holds Tryd.pinned (.plain (OpenSpec.upto miscPisSpec)) miscPisUptoCard

/-- THE SECOND FORM's CARD OF 'narthexlaw09.XdeclReads'. -/
def xdeclReadsUptoCard : Claim7 := { stood := { row := xdeclReadsUptoRow, standIns := [], harness := (true, "c3cf5a8dbfb8118147f6a02549fd3adb2df9ee2af512e3fb2bfe599b672b7aea"), looks := false }, kinds := [], alts := [], laidByText := true, laidKinds := [.data, .data, .data, .pinned, .pinned], laidTests := true, laidLooks := .later }
def XdeclReadsUptoCardSaid : Prop := Claim7.holds Tryd.pinned (.plain (OpenSpec.upto xdeclReadsSpec)) xdeclReadsUptoCard

/-- THE SECOND FORM's CARD OF 'narthexlaw09.XdeclPuts'. -/
def xdeclPutsUptoCard : Claim7 := { stood := { row := xdeclPutsUptoRow, standIns := [], harness := (true, "c3cf5a8dbfb8118147f6a02549fd3adb2df9ee2af512e3fb2bfe599b672b7aea"), looks := false }, kinds := [], alts := [], laidByText := true, laidKinds := [.data, .data, .data, .pinned, .pinned], laidTests := true, laidLooks := .later }
def XdeclPutsUptoCardSaid : Prop := Claim7.holds Tryd.pinned (.plain (OpenSpec.upto xdeclPutsSpec)) xdeclPutsUptoCard

/-- THE SECOND FORM's CARD OF 'narthexlaw09.XdeclBlanks'. -/
def xdeclBlanksUptoCard : Claim7 := { stood := { row := xdeclBlanksUptoRow, standIns := [], harness := (true, "c3cf5a8dbfb8118147f6a02549fd3adb2df9ee2af512e3fb2bfe599b672b7aea"), looks := false }, kinds := [], alts := [], laidByText := true, laidKinds := [.data, .data, .data, .pinned, .pinned], laidTests := true, laidLooks := .later }
def XdeclBlanksUptoCardSaid : Prop := Claim7.holds Tryd.pinned (.plain (OpenSpec.upto xdeclBlanksSpec)) xdeclBlanksUptoCard

/-- THE SECOND FORM's CARD OF 'narthexlaw10.TagReads'. -/
def tagReadsUptoCard : Claim7 := { stood := { row := tagReadsUptoRow, standIns := [], harness := (true, "c3cf5a8dbfb8118147f6a02549fd3adb2df9ee2af512e3fb2bfe599b672b7aea"), looks := false }, kinds := [], alts := [], laidByText := true, laidKinds := [.data, .data, .data], laidTests := true, laidLooks := .later }
def TagReadsUptoCardSaid : Prop := Claim7.holds Tryd.pinned (.plain (OpenSpec.upto tagReadsSpec)) tagReadsUptoCard

/-- THE SECOND FORM's CARD OF 'narthexlaw10.TagPuts'. -/
def tagPutsUptoCard : Claim7 := { stood := { row := tagPutsUptoRow, standIns := [], harness := (true, "c3cf5a8dbfb8118147f6a02549fd3adb2df9ee2af512e3fb2bfe599b672b7aea"), looks := false }, kinds := [], alts := [], laidByText := true, laidKinds := [.data, .data, .data], laidTests := true, laidLooks := .later }
def TagPutsUptoCardSaid : Prop := Claim7.holds Tryd.pinned (.plain (OpenSpec.upto tagPutsSpec)) tagPutsUptoCard

/-- THE SECOND FORM's CARD OF 'narthexlaw10.TagAgain'. -/
def tagAgainUptoCard : Claim7 := { stood := { row := tagAgainUptoRow, standIns := [], harness := (true, "c3cf5a8dbfb8118147f6a02549fd3adb2df9ee2af512e3fb2bfe599b672b7aea"), looks := false }, kinds := [], alts := [], laidByText := true, laidKinds := [.data, .data, .data], laidTests := true, laidLooks := .later }
def TagAgainUptoCardSaid : Prop := Claim7.holds Tryd.pinned (.plain (OpenSpec.upto tagAgainSpec)) tagAgainUptoCard

/-- THE SECOND FORM's CARD OF 'narthexlaw18.RefsFinds'. -/
def refsFindsUptoCard : Claim7 := { stood := { row := refsFindsUptoRow, standIns := [], harness := (true, "c3cf5a8dbfb8118147f6a02549fd3adb2df9ee2af512e3fb2bfe599b672b7aea"), looks := false }, kinds := [], alts := [], laidByText := true, laidKinds := [.data, .data], laidTests := true, laidLooks := .later }
def RefsFindsUptoCardSaid : Prop := Claim7.holds Tryd.pinned (.plain (OpenSpec.upto refsFindsSpec)) refsFindsUptoCard

/-- THE SECOND FORM's CARD OF 'narthexlaw18.RefsReplaces'. -/
def refsReplacesUptoCard : Claim7 := { stood := { row := refsReplacesUptoRow, standIns := [], harness := (true, "c3cf5a8dbfb8118147f6a02549fd3adb2df9ee2af512e3fb2bfe599b672b7aea"), looks := false }, kinds := [], alts := [], laidByText := true, laidKinds := [.data, .data], laidTests := true, laidLooks := .later }
def RefsReplacesUptoCardSaid : Prop := Claim7.holds Tryd.pinned (.plain (OpenSpec.upto refsReplacesSpec)) refsReplacesUptoCard

/-- THE SECOND FORM's CARD OF 'narthexlaw18.RefsCuts'. -/
def refsCutsUptoCard : Claim7 := { stood := { row := refsCutsUptoRow, standIns := [], harness := (true, "c3cf5a8dbfb8118147f6a02549fd3adb2df9ee2af512e3fb2bfe599b672b7aea"), looks := false }, kinds := [], alts := [], laidByText := true, laidKinds := [.data, .data], laidTests := true, laidLooks := .later }
def RefsCutsUptoCardSaid : Prop := Claim7.holds Tryd.pinned (.plain (OpenSpec.upto refsCutsSpec)) refsCutsUptoCard
end Rows
end Go.Proofs.YtcpdllghlbdhiaaDoor
