/-
  DERIVED. GIVEN WITH THE SEED: THE CARDS: each row of YtpgpniemkmiljaaDoorRows.lean that lists a variable, with what it lists TIED to the program's text (the seventh form; the later family's looks); each row that meets fmt, with fmt's text TOLD by the authors' own Lean function (tested against real Go, not proved from fmt's source: count such statements apart). THE CARD IS WHAT COUNTS. Prove the row's statement (the work); the ties are given (YtpgpniemkmiljaaDoorTie.lean); close each card by the builder's one call (the guide's Derived/Test/ToyasCard.lean, 'card_holds'). Laid BY PROGRAM, IN A SANDBOX (cutbox-door.mjs). By AI agents, Wed Nov 11 2026. No macro, syntax, notation, axiom, sorry.
-/
import Derived.Test.YtpgpniemkmiljaaDoorRows
import GoSem.ClaimSeven
namespace Go.Proofs.YtpgpniemkmiljaaDoor
namespace Rows

/-- THE TIED CARD OF 'narthexlaw03.CharsAll'. -/
def charsAllCard : Claim7 := { stood := { row := charsAllRow, standIns := [], harness := (true, "1089f833ffed9392b6323135590983c6ef367e074847037aa5cf6dbde9773ff2"), looks := false }, kinds := [], alts := [], laidByText := true, laidKinds := [.data, .data, .data, .data], laidTests := true, laidLooks := .later }
def CharsAllCardSaid : Prop := Claim7.holds Tryd.pinned (.plain (OpenSpec.ofChange charsAllSpec)) charsAllCard

/-- THE TIED CARD OF 'narthexlaw03.CharsRanges'. -/
def charsRangesCard : Claim7 := { stood := { row := charsRangesRow, standIns := [], harness := (true, "1089f833ffed9392b6323135590983c6ef367e074847037aa5cf6dbde9773ff2"), looks := false }, kinds := [], alts := [], laidByText := true, laidKinds := [.data, .data, .data, .data], laidTests := true, laidLooks := .later }
def CharsRangesCardSaid : Prop := Claim7.holds Tryd.pinned (.plain (OpenSpec.ofChange charsRangesSpec)) charsRangesCard

/-- THE SECOND FORM's CARD OF 'narthexlaw03.CharsAll'. -/
def charsAllUptoCard : Claim7 := { stood := { row := charsAllUptoRow, standIns := [], harness := (true, "1089f833ffed9392b6323135590983c6ef367e074847037aa5cf6dbde9773ff2"), looks := false }, kinds := [], alts := [], laidByText := true, laidKinds := [.data, .data, .data, .data], laidTests := true, laidLooks := .later }
def CharsAllUptoCardSaid : Prop := Claim7.holds Tryd.pinned (.plain (OpenSpec.upto charsAllSpec)) charsAllUptoCard

/-- THE SECOND FORM's CARD OF 'narthexlaw03.CharsRanges'. -/
def charsRangesUptoCard : Claim7 := { stood := { row := charsRangesUptoRow, standIns := [], harness := (true, "1089f833ffed9392b6323135590983c6ef367e074847037aa5cf6dbde9773ff2"), looks := false }, kinds := [], alts := [], laidByText := true, laidKinds := [.data, .data, .data, .data], laidTests := true, laidLooks := .later }
def CharsRangesUptoCardSaid : Prop := Claim7.holds Tryd.pinned (.plain (OpenSpec.upto charsRangesSpec)) charsRangesUptoCard
end Rows
end Go.Proofs.YtpgpniemkmiljaaDoor
