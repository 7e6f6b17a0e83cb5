/-
  DERIVED. GIVEN WITH THE SEED: THE CARDS: each row of YtgbbccfoceifnaaDoorRows.lean that lists a variable, with what it lists TIED to the program's text (the seventh form; the later family's looks); each row that meets fmt, with fmt's text TOLD by the authors' own Lean function (tested against real Go, not proved from fmt's source: count such statements apart). THE CARD IS WHAT COUNTS. Prove the row's statement (the work); the ties are given (YtgbbccfoceifnaaDoorTie.lean); close each card by the builder's one call (the guide's Derived/Test/ToyasCard.lean, 'card_holds'). Laid BY PROGRAM, IN A SANDBOX (cutbox-door.mjs). By AI agents, Wed Nov 11 2026. No macro, syntax, notation, axiom, sorry.
-/
import Derived.Test.YtgbbccfoceifnaaDoorRows
import GoSem.ClaimSeven
namespace Go.Proofs.YtgbbccfoceifnaaDoor
namespace Rows

/-- THE TIED CARD OF 'narthexlaw07.LitReads'. -/
def litReadsCard : Claim7 := { stood := { row := litReadsRow, standIns := [], harness := (true, "56ea34817bdebd9cdcc541644bb3b0bd57f8ae5a4722df845d48504b953d8f7a"), looks := false }, kinds := [], alts := [], laidByText := true, laidKinds := [.data, .data, .data, .data], laidTests := true, laidLooks := .later }
def LitReadsCardSaid : Prop := Claim7.holds Tryd.pinned (.plain (OpenSpec.ofChange litReadsSpec)) litReadsCard

/-- THE TIED CARD OF 'narthexlaw07.LitRefs'. -/
def litRefsCard : Claim7 := { stood := { row := litRefsRow, standIns := [], harness := (true, "56ea34817bdebd9cdcc541644bb3b0bd57f8ae5a4722df845d48504b953d8f7a"), looks := false }, kinds := [], alts := [], laidByText := true, laidKinds := [.data, .data, .data], laidTests := true, laidLooks := .later }
def LitRefsCardSaid : Prop := Claim7.holds Tryd.pinned (.plain (OpenSpec.ofChange litRefsSpec)) litRefsCard

/-- THE TIED CARD OF 'narthexlaw07.LitWrites'. -/
def litWritesCard : Claim7 := { stood := { row := litWritesRow, standIns := [], harness := (true, "56ea34817bdebd9cdcc541644bb3b0bd57f8ae5a4722df845d48504b953d8f7a"), looks := false }, kinds := [], alts := [], laidByText := true, laidKinds := [.data, .data, .data, .data, .data, .data], laidTests := true, laidLooks := .later }
def LitWritesCardSaid : Prop := Claim7.holds Tryd.pinned (.plain (OpenSpec.ofChange litWritesSpec)) litWritesCard

/-- THE TIED CARD OF 'narthexlaw08.MiscReads'. -/
def miscReadsCard : Claim7 := { stood := { row := miscReadsRow, standIns := [], harness := (true, "56ea34817bdebd9cdcc541644bb3b0bd57f8ae5a4722df845d48504b953d8f7a"), looks := false }, kinds := [], alts := [], laidByText := true, laidKinds := [.data, .data, .data, .data, .data, .pinned, .pinned], laidTests := true, laidLooks := .later }
def MiscReadsCardSaid : Prop := Claim7.holds Tryd.pinned (.plain (OpenSpec.ofChange miscReadsSpec)) miscReadsCard

/-- THE TIED CARD OF 'narthexlaw08.MiscPuts'. -/
def miscPutsCard : Claim7 := { stood := { row := miscPutsRow, standIns := [], harness := (true, "56ea34817bdebd9cdcc541644bb3b0bd57f8ae5a4722df845d48504b953d8f7a"), looks := false }, kinds := [], alts := [], laidByText := true, laidKinds := [.data, .data, .data, .data, .data, .pinned, .pinned], laidTests := true, laidLooks := .later }
def MiscPutsCardSaid : Prop := Claim7.holds Tryd.pinned (.plain (OpenSpec.ofChange miscPutsSpec)) miscPutsCard

/-- THE TIED CARD OF 'narthexlaw08.MiscPis'. -/
def miscPisCard : Claim7 := { stood := { row := miscPisRow, standIns := [], harness := (true, "56ea34817bdebd9cdcc541644bb3b0bd57f8ae5a4722df845d48504b953d8f7a"), looks := false }, kinds := [], alts := [], laidByText := true, laidKinds := [.data, .data, .data, .data, .data, .pinned, .pinned], laidTests := true, laidLooks := .later }
def MiscPisCardSaid : Prop := Claim7.holds Tryd.pinned (.plain (OpenSpec.ofChange miscPisSpec)) miscPisCard

/-- THE TIED CARD OF 'narthexlaw09.XdeclReads'. -/
def xdeclReadsCard : Claim7 := { stood := { row := xdeclReadsRow, standIns := [], harness := (true, "56ea34817bdebd9cdcc541644bb3b0bd57f8ae5a4722df845d48504b953d8f7a"), looks := false }, kinds := [], alts := [], laidByText := true, laidKinds := [.data, .data, .data, .pinned, .pinned], laidTests := true, laidLooks := .later }
def XdeclReadsCardSaid : Prop := Claim7.holds Tryd.pinned (.plain (OpenSpec.ofChange xdeclReadsSpec)) xdeclReadsCard

/-- THE TIED CARD OF 'narthexlaw09.XdeclPuts'. -/
def xdeclPutsCard : Claim7 := { stood := { row := xdeclPutsRow, standIns := [], harness := (true, "56ea34817bdebd9cdcc541644bb3b0bd57f8ae5a4722df845d48504b953d8f7a"), looks := false }, kinds := [], alts := [], laidByText := true, laidKinds := [.data, .data, .data, .pinned, .pinned], laidTests := true, laidLooks := .later }
def XdeclPutsCardSaid : Prop := Claim7.holds Tryd.pinned (.plain (OpenSpec.ofChange xdeclPutsSpec)) xdeclPutsCard

/-- THE TIED CARD OF 'narthexlaw09.XdeclBlanks'. -/
def xdeclBlanksCard : Claim7 := { stood := { row := xdeclBlanksRow, standIns := [], harness := (true, "56ea34817bdebd9cdcc541644bb3b0bd57f8ae5a4722df845d48504b953d8f7a"), looks := false }, kinds := [], alts := [], laidByText := true, laidKinds := [.data, .data, .data, .pinned, .pinned], laidTests := true, laidLooks := .later }
def XdeclBlanksCardSaid : Prop := Claim7.holds Tryd.pinned (.plain (OpenSpec.ofChange xdeclBlanksSpec)) xdeclBlanksCard

/-- THE TIED CARD OF 'narthexlaw10.TagReads'. -/
def tagReadsCard : Claim7 := { stood := { row := tagReadsRow, standIns := [], harness := (true, "56ea34817bdebd9cdcc541644bb3b0bd57f8ae5a4722df845d48504b953d8f7a"), looks := false }, kinds := [], alts := [], laidByText := true, laidKinds := [.data, .data, .data], laidTests := true, laidLooks := .later }
def TagReadsCardSaid : Prop := Claim7.holds Tryd.pinned (.plain (OpenSpec.ofChange tagReadsSpec)) tagReadsCard

/-- THE TIED CARD OF 'narthexlaw10.TagPuts'. -/
def tagPutsCard : Claim7 := { stood := { row := tagPutsRow, standIns := [], harness := (true, "56ea34817bdebd9cdcc541644bb3b0bd57f8ae5a4722df845d48504b953d8f7a"), looks := false }, kinds := [], alts := [], laidByText := true, laidKinds := [.data, .data, .data], laidTests := true, laidLooks := .later }
def TagPutsCardSaid : Prop := Claim7.holds Tryd.pinned (.plain (OpenSpec.ofChange tagPutsSpec)) tagPutsCard

/-- THE TIED CARD OF 'narthexlaw10.TagAgain'. -/
def tagAgainCard : Claim7 := { stood := { row := tagAgainRow, standIns := [], harness := (true, "56ea34817bdebd9cdcc541644bb3b0bd57f8ae5a4722df845d48504b953d8f7a"), looks := false }, kinds := [], alts := [], laidByText := true, laidKinds := [.data, .data, .data], laidTests := true, laidLooks := .later }
def TagAgainCardSaid : Prop := Claim7.holds Tryd.pinned (.plain (OpenSpec.ofChange tagAgainSpec)) tagAgainCard

/-- THE SECOND FORM's CARD OF 'narthexlaw07.LitReads'. -/
def litReadsUptoCard : Claim7 := { stood := { row := litReadsUptoRow, standIns := [], harness := (true, "56ea34817bdebd9cdcc541644bb3b0bd57f8ae5a4722df845d48504b953d8f7a"), looks := false }, kinds := [], alts := [], laidByText := true, laidKinds := [.data, .data, .data, .data], laidTests := true, laidLooks := .later }
def LitReadsUptoCardSaid : Prop := Claim7.holds Tryd.pinned (.plain (OpenSpec.upto litReadsSpec)) litReadsUptoCard

/-- THE SECOND FORM's CARD OF 'narthexlaw07.LitRefs'. -/
def litRefsUptoCard : Claim7 := { stood := { row := litRefsUptoRow, standIns := [], harness := (true, "56ea34817bdebd9cdcc541644bb3b0bd57f8ae5a4722df845d48504b953d8f7a"), looks := false }, kinds := [], alts := [], laidByText := true, laidKinds := [.data, .data, .data], laidTests := true, laidLooks := .later }
def LitRefsUptoCardSaid : Prop := Claim7.holds Tryd.pinned (.plain (OpenSpec.upto litRefsSpec)) litRefsUptoCard

/-- THE SECOND FORM's CARD OF 'narthexlaw07.LitWrites'. -/
def litWritesUptoCard : Claim7 := { stood := { row := litWritesUptoRow, standIns := [], harness := (true, "56ea34817bdebd9cdcc541644bb3b0bd57f8ae5a4722df845d48504b953d8f7a"), looks := false }, kinds := [], alts := [], laidByText := true, laidKinds := [.data, .data, .data, .data, .data, .data], laidTests := true, laidLooks := .later }
def LitWritesUptoCardSaid : Prop := Claim7.holds Tryd.pinned (.plain (OpenSpec.upto litWritesSpec)) litWritesUptoCard

/-- THE SECOND FORM's CARD OF 'narthexlaw08.MiscReads'. -/
def miscReadsUptoCard : Claim7 := { stood := { row := miscReadsUptoRow, standIns := [], harness := (true, "56ea34817bdebd9cdcc541644bb3b0bd57f8ae5a4722df845d48504b953d8f7a"), looks := false }, kinds := [], alts := [], laidByText := true, laidKinds := [.data, .data, .data, .data, .data, .pinned, .pinned], laidTests := true, laidLooks := .later }
def MiscReadsUptoCardSaid : Prop := Claim7.holds Tryd.pinned (.plain (OpenSpec.upto miscReadsSpec)) miscReadsUptoCard

/-- THE SECOND FORM's CARD OF 'narthexlaw08.MiscPuts'. -/
def miscPutsUptoCard : Claim7 := { stood := { row := miscPutsUptoRow, standIns := [], harness := (true, "56ea34817bdebd9cdcc541644bb3b0bd57f8ae5a4722df845d48504b953d8f7a"), looks := false }, kinds := [], alts := [], laidByText := true, laidKinds := [.data, .data, .data, .data, .data, .pinned, .pinned], laidTests := true, laidLooks := .later }
def MiscPutsUptoCardSaid : Prop := Claim7.holds Tryd.pinned (.plain (OpenSpec.upto miscPutsSpec)) miscPutsUptoCard

/-- THE SECOND FORM's CARD OF 'narthexlaw08.MiscPis'. -/
def miscPisUptoCard : Claim7 := { stood := { row := miscPisUptoRow, standIns := [], harness := (true, "56ea34817bdebd9cdcc541644bb3b0bd57f8ae5a4722df845d48504b953d8f7a"), looks := false }, kinds := [], alts := [], laidByText := true, laidKinds := [.data, .data, .data, .data, .data, .pinned, .pinned], laidTests := true, laidLooks := .later }
def MiscPisUptoCardSaid : Prop := Claim7.holds Tryd.pinned (.plain (OpenSpec.upto miscPisSpec)) miscPisUptoCard

/-- THE SECOND FORM's CARD OF 'narthexlaw09.XdeclReads'. -/
def xdeclReadsUptoCard : Claim7 := { stood := { row := xdeclReadsUptoRow, standIns := [], harness := (true, "56ea34817bdebd9cdcc541644bb3b0bd57f8ae5a4722df845d48504b953d8f7a"), looks := false }, kinds := [], alts := [], laidByText := true, laidKinds := [.data, .data, .data, .pinned, .pinned], laidTests := true, laidLooks := .later }
def XdeclReadsUptoCardSaid : Prop := Claim7.holds Tryd.pinned (.plain (OpenSpec.upto xdeclReadsSpec)) xdeclReadsUptoCard

/-- THE SECOND FORM's CARD OF 'narthexlaw09.XdeclPuts'. -/
def xdeclPutsUptoCard : Claim7 := { stood := { row := xdeclPutsUptoRow, standIns := [], harness := (true, "56ea34817bdebd9cdcc541644bb3b0bd57f8ae5a4722df845d48504b953d8f7a"), looks := false }, kinds := [], alts := [], laidByText := true, laidKinds := [.data, .data, .data, .pinned, .pinned], laidTests := true, laidLooks := .later }
def XdeclPutsUptoCardSaid : Prop := Claim7.holds Tryd.pinned (.plain (OpenSpec.upto xdeclPutsSpec)) xdeclPutsUptoCard

/-- THE SECOND FORM's CARD OF 'narthexlaw09.XdeclBlanks'. -/
def xdeclBlanksUptoCard : Claim7 := { stood := { row := xdeclBlanksUptoRow, standIns := [], harness := (true, "56ea34817bdebd9cdcc541644bb3b0bd57f8ae5a4722df845d48504b953d8f7a"), looks := false }, kinds := [], alts := [], laidByText := true, laidKinds := [.data, .data, .data, .pinned, .pinned], laidTests := true, laidLooks := .later }
def XdeclBlanksUptoCardSaid : Prop := Claim7.holds Tryd.pinned (.plain (OpenSpec.upto xdeclBlanksSpec)) xdeclBlanksUptoCard

/-- THE SECOND FORM's CARD OF 'narthexlaw10.TagReads'. -/
def tagReadsUptoCard : Claim7 := { stood := { row := tagReadsUptoRow, standIns := [], harness := (true, "56ea34817bdebd9cdcc541644bb3b0bd57f8ae5a4722df845d48504b953d8f7a"), looks := false }, kinds := [], alts := [], laidByText := true, laidKinds := [.data, .data, .data], laidTests := true, laidLooks := .later }
def TagReadsUptoCardSaid : Prop := Claim7.holds Tryd.pinned (.plain (OpenSpec.upto tagReadsSpec)) tagReadsUptoCard

/-- THE SECOND FORM's CARD OF 'narthexlaw10.TagPuts'. -/
def tagPutsUptoCard : Claim7 := { stood := { row := tagPutsUptoRow, standIns := [], harness := (true, "56ea34817bdebd9cdcc541644bb3b0bd57f8ae5a4722df845d48504b953d8f7a"), looks := false }, kinds := [], alts := [], laidByText := true, laidKinds := [.data, .data, .data], laidTests := true, laidLooks := .later }
def TagPutsUptoCardSaid : Prop := Claim7.holds Tryd.pinned (.plain (OpenSpec.upto tagPutsSpec)) tagPutsUptoCard

/-- THE SECOND FORM's CARD OF 'narthexlaw10.TagAgain'. -/
def tagAgainUptoCard : Claim7 := { stood := { row := tagAgainUptoRow, standIns := [], harness := (true, "56ea34817bdebd9cdcc541644bb3b0bd57f8ae5a4722df845d48504b953d8f7a"), looks := false }, kinds := [], alts := [], laidByText := true, laidKinds := [.data, .data, .data], laidTests := true, laidLooks := .later }
def TagAgainUptoCardSaid : Prop := Claim7.holds Tryd.pinned (.plain (OpenSpec.upto tagAgainSpec)) tagAgainUptoCard
end Rows
end Go.Proofs.YtgbbccfoceifnaaDoor
