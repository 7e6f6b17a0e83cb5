/-
  DERIVED. GIVEN WITH THE SEED: THE CARDS: each row of YtncoldgkljnbeaaDoorRows.lean that lists a variable, with what it lists TIED to the program's text (the seventh form; the later family's looks); each row that meets fmt, with fmt's text TOLD by the authors' own Lean function (tested against real Go, not proved from fmt's source: count such statements apart). THE CARD IS WHAT COUNTS. Prove the row's statement (the work); the ties are given (YtncoldgkljnbeaaDoorTie.lean); close each card by the builder's one call (the guide's Derived/Test/ToyasCard.lean, 'card_holds'). Laid BY PROGRAM, IN A SANDBOX (cutbox-door.mjs). By AI agents, Wed Nov 11 2026. No macro, syntax, notation, axiom, sorry.
-/
import Derived.Test.YtncoldgkljnbeaaDoorRows
import GoSem.ClaimSeven
namespace Go.Proofs.YtncoldgkljnbeaaDoor
namespace Rows

/-- THE TIED CARD OF 'narthexlaw05.NameReads'. -/
def nameReadsCard : Claim7 := { stood := { row := nameReadsRow, standIns := [], harness := (true, "a257c48d814b009260643a1d2123c3aaa46428421eef14037e29c0b30c2e753c"), looks := false }, kinds := [], alts := [], laidByText := true, laidKinds := [.data, .data], laidTests := true, laidLooks := .later }
def NameReadsCardSaid : Prop := Claim7.holds Tryd.pinned (.plain (OpenSpec.ofChange nameReadsSpec)) nameReadsCard

/-- THE TIED CARD OF 'narthexlaw05.NameParts'. -/
def namePartsCard : Claim7 := { stood := { row := namePartsRow, standIns := [], harness := (true, "a257c48d814b009260643a1d2123c3aaa46428421eef14037e29c0b30c2e753c"), looks := false }, kinds := [], alts := [], laidByText := true, laidKinds := [.data, .data], laidTests := true, laidLooks := .later }
def NamePartsCardSaid : Prop := Claim7.holds Tryd.pinned (.plain (OpenSpec.ofChange namePartsSpec)) namePartsCard

/-- THE TIED CARD OF 'narthexlaw05.NameLong'. -/
def nameLongCard : Claim7 := { stood := { row := nameLongRow, standIns := [], harness := (true, "a257c48d814b009260643a1d2123c3aaa46428421eef14037e29c0b30c2e753c"), looks := false }, kinds := [], alts := [], laidByText := true, laidKinds := [.data, .data], laidTests := true, laidLooks := .later }
def NameLongCardSaid : Prop := Claim7.holds Tryd.pinned (.plain (OpenSpec.ofChange nameLongSpec)) nameLongCard

/-- THE TIED CARD OF 'narthexlaw06.CrefChars'. -/
def crefCharsCard : Claim7 := { stood := { row := crefCharsRow, standIns := [], harness := (true, "a257c48d814b009260643a1d2123c3aaa46428421eef14037e29c0b30c2e753c"), looks := false }, kinds := [], alts := [], laidByText := true, laidKinds := [.data, .data, .data, .data, .data, .data], laidTests := true, laidLooks := .later }
def CrefCharsCardSaid : Prop := Claim7.holds Tryd.pinned (.plain (OpenSpec.ofChange crefCharsSpec)) crefCharsCard

/-- THE TIED CARD OF 'narthexlaw06.CrefNames'. -/
def crefNamesCard : Claim7 := { stood := { row := crefNamesRow, standIns := [], harness := (true, "a257c48d814b009260643a1d2123c3aaa46428421eef14037e29c0b30c2e753c"), looks := false }, kinds := [], alts := [], laidByText := true, laidKinds := [.data, .data, .data, .data, .data, .data, .data], laidTests := true, laidLooks := .later }
def CrefNamesCardSaid : Prop := Claim7.holds Tryd.pinned (.plain (OpenSpec.ofChange crefNamesSpec)) crefNamesCard

/-- THE TIED CARD OF 'narthexlaw06.CrefTexts'. -/
def crefTextsCard : Claim7 := { stood := { row := crefTextsRow, standIns := [], harness := (true, "a257c48d814b009260643a1d2123c3aaa46428421eef14037e29c0b30c2e753c"), looks := false }, kinds := [], alts := [], laidByText := true, laidKinds := [.data, .data, .data, .data, .data, .data], laidTests := true, laidLooks := .later }
def CrefTextsCardSaid : Prop := Claim7.holds Tryd.pinned (.plain (OpenSpec.ofChange crefTextsSpec)) crefTextsCard

/-- THE TIED CARD OF 'narthexlaw17.DtdStays'. -/
def dtdStaysCard : Claim7 := { stood := { row := dtdStaysRow, standIns := [], harness := (true, "a257c48d814b009260643a1d2123c3aaa46428421eef14037e29c0b30c2e753c"), looks := false }, kinds := [], alts := [], laidByText := true, laidKinds := [.data], laidTests := true, laidLooks := .later }
def DtdStaysCardSaid : Prop := Claim7.holds Tryd.pinned (.plain (OpenSpec.ofChange dtdStaysSpec)) dtdStaysCard

/-- THE TIED CARD OF 'narthexlaw17.DtdLists'. -/
def dtdListsCard : Claim7 := { stood := { row := dtdListsRow, standIns := [], harness := (true, "a257c48d814b009260643a1d2123c3aaa46428421eef14037e29c0b30c2e753c"), looks := false }, kinds := [], alts := [], laidByText := true, laidKinds := [.data], laidTests := true, laidLooks := .later }
def DtdListsCardSaid : Prop := Claim7.holds Tryd.pinned (.plain (OpenSpec.ofChange dtdListsSpec)) dtdListsCard

/-- THE SECOND FORM's CARD OF 'narthexlaw05.NameReads'. -/
def nameReadsUptoCard : Claim7 := { stood := { row := nameReadsUptoRow, standIns := [], harness := (true, "a257c48d814b009260643a1d2123c3aaa46428421eef14037e29c0b30c2e753c"), looks := false }, kinds := [], alts := [], laidByText := true, laidKinds := [.data, .data], laidTests := true, laidLooks := .later }
def NameReadsUptoCardSaid : Prop := Claim7.holds Tryd.pinned (.plain (OpenSpec.upto nameReadsSpec)) nameReadsUptoCard

/-- THE SECOND FORM's CARD OF 'narthexlaw05.NameParts'. -/
def namePartsUptoCard : Claim7 := { stood := { row := namePartsUptoRow, standIns := [], harness := (true, "a257c48d814b009260643a1d2123c3aaa46428421eef14037e29c0b30c2e753c"), looks := false }, kinds := [], alts := [], laidByText := true, laidKinds := [.data, .data], laidTests := true, laidLooks := .later }
def NamePartsUptoCardSaid : Prop := Claim7.holds Tryd.pinned (.plain (OpenSpec.upto namePartsSpec)) namePartsUptoCard

/-- THE SECOND FORM's CARD OF 'narthexlaw05.NameLong'. -/
def nameLongUptoCard : Claim7 := { stood := { row := nameLongUptoRow, standIns := [], harness := (true, "a257c48d814b009260643a1d2123c3aaa46428421eef14037e29c0b30c2e753c"), looks := false }, kinds := [], alts := [], laidByText := true, laidKinds := [.data, .data], laidTests := true, laidLooks := .later }
def NameLongUptoCardSaid : Prop := Claim7.holds Tryd.pinned (.plain (OpenSpec.upto nameLongSpec)) nameLongUptoCard

/-- THE SECOND FORM's CARD OF 'narthexlaw06.CrefChars'. -/
def crefCharsUptoCard : Claim7 := { stood := { row := crefCharsUptoRow, standIns := [], harness := (true, "a257c48d814b009260643a1d2123c3aaa46428421eef14037e29c0b30c2e753c"), looks := false }, kinds := [], alts := [], laidByText := true, laidKinds := [.data, .data, .data, .data, .data, .data], laidTests := true, laidLooks := .later }
def CrefCharsUptoCardSaid : Prop := Claim7.holds Tryd.pinned (.plain (OpenSpec.upto crefCharsSpec)) crefCharsUptoCard

/-- THE SECOND FORM's CARD OF 'narthexlaw06.CrefNames'. -/
def crefNamesUptoCard : Claim7 := { stood := { row := crefNamesUptoRow, standIns := [], harness := (true, "a257c48d814b009260643a1d2123c3aaa46428421eef14037e29c0b30c2e753c"), looks := false }, kinds := [], alts := [], laidByText := true, laidKinds := [.data, .data, .data, .data, .data, .data, .data], laidTests := true, laidLooks := .later }
def CrefNamesUptoCardSaid : Prop := Claim7.holds Tryd.pinned (.plain (OpenSpec.upto crefNamesSpec)) crefNamesUptoCard

/-- THE SECOND FORM's CARD OF 'narthexlaw06.CrefTexts'. -/
def crefTextsUptoCard : Claim7 := { stood := { row := crefTextsUptoRow, standIns := [], harness := (true, "a257c48d814b009260643a1d2123c3aaa46428421eef14037e29c0b30c2e753c"), looks := false }, kinds := [], alts := [], laidByText := true, laidKinds := [.data, .data, .data, .data, .data, .data], laidTests := true, laidLooks := .later }
def CrefTextsUptoCardSaid : Prop := Claim7.holds Tryd.pinned (.plain (OpenSpec.upto crefTextsSpec)) crefTextsUptoCard

/-- THE SECOND FORM's CARD OF 'narthexlaw17.DtdStays'. -/
def dtdStaysUptoCard : Claim7 := { stood := { row := dtdStaysUptoRow, standIns := [], harness := (true, "a257c48d814b009260643a1d2123c3aaa46428421eef14037e29c0b30c2e753c"), looks := false }, kinds := [], alts := [], laidByText := true, laidKinds := [.data], laidTests := true, laidLooks := .later }
def DtdStaysUptoCardSaid : Prop := Claim7.holds Tryd.pinned (.plain (OpenSpec.upto dtdStaysSpec)) dtdStaysUptoCard

/-- THE SECOND FORM's CARD OF 'narthexlaw17.DtdLists'. -/
def dtdListsUptoCard : Claim7 := { stood := { row := dtdListsUptoRow, standIns := [], harness := (true, "a257c48d814b009260643a1d2123c3aaa46428421eef14037e29c0b30c2e753c"), looks := false }, kinds := [], alts := [], laidByText := true, laidKinds := [.data], laidTests := true, laidLooks := .later }
def DtdListsUptoCardSaid : Prop := Claim7.holds Tryd.pinned (.plain (OpenSpec.upto dtdListsSpec)) dtdListsUptoCard
end Rows
end Go.Proofs.YtncoldgkljnbeaaDoor
