/-
  DERIVED. GIVEN WITH THE SEED: THE CARDS: each row of YtfppkjogdahnbaaDoorRows.lean that lists a variable, with what it lists TIED to the program's text (the seventh form; the later family's looks); each row that meets fmt, with fmt's text TOLD by the authors' own Lean function (tested against real Go, not proved from fmt's source: count such statements apart). THE CARD IS WHAT COUNTS. Prove the row's statement (the work); the ties are given (YtfppkjogdahnbaaDoorTie.lean); close each card by the builder's one call (the guide's Derived/Test/ToyasCard.lean, 'card_holds'). Laid BY PROGRAM, IN A SANDBOX (cutbox-door.mjs). By AI agents, Wed Nov 11 2026. No macro, syntax, notation, axiom, sorry.
-/
import Derived.Test.YtfppkjogdahnbaaDoorRows
import GoSem.ClaimSeven
namespace Go.Proofs.YtfppkjogdahnbaaDoor
namespace Rows

/-- THE TIED CARD OF 'narthexlaw03.CharsTells'. -/
def charsTellsCard : Claim7 := { stood := { row := charsTellsRow, standIns := [], harness := (true, "321cd753ab91d25f226dd24e1ca4d78dfb5f6e24647fcf8fcaabd34e43d4d89f"), looks := false }, kinds := [], alts := [], laidByText := true, laidKinds := [.data, .data, .data, .data], laidTests := true, laidLooks := .later }
def CharsTellsCardSaid : Prop := Claim7.holds Tryd.pinned (.plain (OpenSpec.ofChange charsTellsSpec)) charsTellsCard

/-- THE TIED CARD OF 'narthexlaw03.CharsAll'. -/
def charsAllCard : Claim7 := { stood := { row := charsAllRow, standIns := [], harness := (true, "321cd753ab91d25f226dd24e1ca4d78dfb5f6e24647fcf8fcaabd34e43d4d89f"), looks := false }, kinds := [], alts := [], laidByText := true, laidKinds := [.data, .data, .data, .data], laidTests := true, laidLooks := .later }
def CharsAllCardSaid : Prop := Claim7.holds Tryd.pinned (.plain (OpenSpec.ofChange charsAllSpec)) charsAllCard

/-- THE TIED CARD OF 'narthexlaw03.CharsRanges'. -/
def charsRangesCard : Claim7 := { stood := { row := charsRangesRow, standIns := [], harness := (true, "321cd753ab91d25f226dd24e1ca4d78dfb5f6e24647fcf8fcaabd34e43d4d89f"), looks := false }, kinds := [], alts := [], laidByText := true, laidKinds := [.data, .data, .data, .data], laidTests := true, laidLooks := .later }
def CharsRangesCardSaid : Prop := Claim7.holds Tryd.pinned (.plain (OpenSpec.ofChange charsRangesSpec)) charsRangesCard

/-- THE SECOND FORM's CARD OF 'narthexlaw03.CharsTells'. -/
def charsTellsUptoCard : Claim7 := { stood := { row := charsTellsUptoRow, standIns := [], harness := (true, "321cd753ab91d25f226dd24e1ca4d78dfb5f6e24647fcf8fcaabd34e43d4d89f"), looks := false }, kinds := [], alts := [], laidByText := true, laidKinds := [.data, .data, .data, .data], laidTests := true, laidLooks := .later }
def CharsTellsUptoCardSaid : Prop := Claim7.holds Tryd.pinned (.plain (OpenSpec.upto charsTellsSpec)) charsTellsUptoCard

/-- THE SECOND FORM's CARD OF 'narthexlaw03.CharsAll'. -/
def charsAllUptoCard : Claim7 := { stood := { row := charsAllUptoRow, standIns := [], harness := (true, "321cd753ab91d25f226dd24e1ca4d78dfb5f6e24647fcf8fcaabd34e43d4d89f"), looks := false }, kinds := [], alts := [], laidByText := true, laidKinds := [.data, .data, .data, .data], laidTests := true, laidLooks := .later }
def CharsAllUptoCardSaid : Prop := Claim7.holds Tryd.pinned (.plain (OpenSpec.upto charsAllSpec)) charsAllUptoCard

/-- THE SECOND FORM's CARD OF 'narthexlaw03.CharsRanges'. -/
def charsRangesUptoCard : Claim7 := { stood := { row := charsRangesUptoRow, standIns := [], harness := (true, "321cd753ab91d25f226dd24e1ca4d78dfb5f6e24647fcf8fcaabd34e43d4d89f"), looks := false }, kinds := [], alts := [], laidByText := true, laidKinds := [.data, .data, .data, .data], laidTests := true, laidLooks := .later }
def CharsRangesUptoCardSaid : Prop := Claim7.holds Tryd.pinned (.plain (OpenSpec.upto charsRangesSpec)) charsRangesUptoCard
end Rows
end Go.Proofs.YtfppkjogdahnbaaDoor
