/-
  DERIVED. GIVEN WITH THE SEED: THE CARDS: each row of YtggllkcoabeejaaDoorRows.lean that lists a variable, with what it lists TIED to the program's text (the seventh form; the later family's looks); each row that meets fmt, with fmt's text TOLD by the authors' own Lean function (tested against real Go, not proved from fmt's source: count such statements apart). THE CARD IS WHAT COUNTS. Prove the row's statement (the work); the ties are given (YtggllkcoabeejaaDoorTie.lean); close each card by the builder's one call (the guide's Derived/Test/ToyasCard.lean, 'card_holds'). Laid BY PROGRAM, IN A SANDBOX (cutbox-door.mjs). By AI agents, Wed Nov 11 2026. No macro, syntax, notation, axiom, sorry.
-/
import Derived.Test.YtggllkcoabeejaaDoorRows
import GoSem.ClaimSeven
namespace Go.Proofs.YtggllkcoabeejaaDoor
namespace Rows

/-- THE TIED CARD OF 'narthexlaw08.MiscReads'. -/
def miscReadsCard : Claim7 := { stood := { row := miscReadsRow, standIns := [], harness := (true, "c16c9fd92f6bf5f3e6a909fd3cae8074228532c8c05cd8f84c24e1765702c79b"), looks := false }, kinds := [], alts := [], laidByText := true, laidKinds := [.data, .data, .data, .data, .data, .pinned, .pinned], laidTests := true, laidLooks := .later }
def MiscReadsCardSaid : Prop := Claim7.holds Tryd.pinned (.plain (OpenSpec.ofChange miscReadsSpec)) miscReadsCard

/-- THE TIED CARD OF 'narthexlaw08.MiscPuts'. -/
def miscPutsCard : Claim7 := { stood := { row := miscPutsRow, standIns := [], harness := (true, "c16c9fd92f6bf5f3e6a909fd3cae8074228532c8c05cd8f84c24e1765702c79b"), looks := false }, kinds := [], alts := [], laidByText := true, laidKinds := [.data, .data, .data, .data, .data, .pinned, .pinned], laidTests := true, laidLooks := .later }
def MiscPutsCardSaid : Prop := Claim7.holds Tryd.pinned (.plain (OpenSpec.ofChange miscPutsSpec)) miscPutsCard

/-- THE TIED CARD OF 'narthexlaw08.MiscPis'. -/
def miscPisCard : Claim7 := { stood := { row := miscPisRow, standIns := [], harness := (true, "c16c9fd92f6bf5f3e6a909fd3cae8074228532c8c05cd8f84c24e1765702c79b"), looks := false }, kinds := [], alts := [], laidByText := true, laidKinds := [.data, .data, .data, .data, .data, .pinned, .pinned], laidTests := true, laidLooks := .later }
def MiscPisCardSaid : Prop := Claim7.holds Tryd.pinned (.plain (OpenSpec.ofChange miscPisSpec)) miscPisCard

/-- THE SECOND FORM's CARD OF 'narthexlaw08.MiscReads'. -/
def miscReadsUptoCard : Claim7 := { stood := { row := miscReadsUptoRow, standIns := [], harness := (true, "c16c9fd92f6bf5f3e6a909fd3cae8074228532c8c05cd8f84c24e1765702c79b"), looks := false }, kinds := [], alts := [], laidByText := true, laidKinds := [.data, .data, .data, .data, .data, .pinned, .pinned], laidTests := true, laidLooks := .later }
def MiscReadsUptoCardSaid : Prop := Claim7.holds Tryd.pinned (.plain (OpenSpec.upto miscReadsSpec)) miscReadsUptoCard

/-- THE SECOND FORM's CARD OF 'narthexlaw08.MiscPuts'. -/
def miscPutsUptoCard : Claim7 := { stood := { row := miscPutsUptoRow, standIns := [], harness := (true, "c16c9fd92f6bf5f3e6a909fd3cae8074228532c8c05cd8f84c24e1765702c79b"), looks := false }, kinds := [], alts := [], laidByText := true, laidKinds := [.data, .data, .data, .data, .data, .pinned, .pinned], laidTests := true, laidLooks := .later }
def MiscPutsUptoCardSaid : Prop := Claim7.holds Tryd.pinned (.plain (OpenSpec.upto miscPutsSpec)) miscPutsUptoCard

/-- THE SECOND FORM's CARD OF 'narthexlaw08.MiscPis'. -/
def miscPisUptoCard : Claim7 := { stood := { row := miscPisUptoRow, standIns := [], harness := (true, "c16c9fd92f6bf5f3e6a909fd3cae8074228532c8c05cd8f84c24e1765702c79b"), looks := false }, kinds := [], alts := [], laidByText := true, laidKinds := [.data, .data, .data, .data, .data, .pinned, .pinned], laidTests := true, laidLooks := .later }
def MiscPisUptoCardSaid : Prop := Claim7.holds Tryd.pinned (.plain (OpenSpec.upto miscPisSpec)) miscPisUptoCard
end Rows
end Go.Proofs.YtggllkcoabeejaaDoor
