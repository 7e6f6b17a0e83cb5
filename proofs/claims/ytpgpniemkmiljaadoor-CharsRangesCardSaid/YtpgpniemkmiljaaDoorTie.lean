/-
  DERIVED. GIVEN WITH THE SEED: THE PROGRAM's TIES (one call each: nine closed facts by the kernel) AND EACH ROW's TIE, after the 31st guide's Derived/Test/Toyas{Tie, Card}.lean. No idea stands in it: it is a product of the set-up. Laid BY PROGRAM, IN A SANDBOX (cutbox-door.mjs). By AI agents, Wed Nov 11 2026. No macro, syntax, notation, axiom, sorry.
-/
import Derived.Test.YtpgpniemkmiljaaDoorRows
import Derived.LaidByTextLater
import Derived.SevenTiedAt
import Derived.LaidSub
import Derived.LaidOnce
namespace Go.Proofs.YtpgpniemkmiljaaDoor
open Go
set_option maxRecDepth 100000
theorem seatTie1 : Tryd.prog.laidByTextLater [("narthex/chars.charRuns", Rows.laid_narthex_chars_charRuns), ("narthex/chars.startRuns", Rows.laid_narthex_chars_startRuns), ("narthex/chars.followRuns", Rows.laid_narthex_chars_followRuns), ("narthex/chars.pubidRuns", Rows.laid_narthex_chars_pubidRuns)] [.data, .data, .data, .data] true :=
  Program.laidByTextLater_by_one 64 8 33 (by kernel_rfl) (by kernel_rfl) (by kernel_rfl) (by kernel_rfl) (by kernel_rfl) (by kernel_rfl) (fun _ _ => by kernel_rfl)
theorem noOwnUnsafe : Tryd.pinned.checked.prog.headLifts.contains "ownunsafe" = false := by kernel_rfl
theorem tie : Tryd.prog.laidByTextLater [("narthex/chars.charRuns", Rows.laid_narthex_chars_charRuns), ("narthex/chars.startRuns", Rows.laid_narthex_chars_startRuns), ("narthex/chars.followRuns", Rows.laid_narthex_chars_followRuns), ("narthex/chars.pubidRuns", Rows.laid_narthex_chars_pubidRuns)] [.data, .data, .data, .data] true :=
  Program.laidByTextLater.sub seatTie1 ["narthex/chars.charRuns", "narthex/chars.startRuns", "narthex/chars.followRuns", "narthex/chars.pubidRuns"] (by kernel_rfl) (by kernel_rfl)
theorem charsAll_row_tie : Rows.charsAllRow.laidByTextAt .later Tryd.pinned [.data, .data, .data, .data] true :=
  OpenClaim.laidByTextAt_later rfl rfl tie noOwnUnsafe
theorem charsRanges_row_tie : Rows.charsRangesRow.laidByTextAt .later Tryd.pinned [.data, .data, .data, .data] true :=
  OpenClaim.laidByTextAt_later rfl rfl tie noOwnUnsafe
theorem charsAllUpto_row_tie : Rows.charsAllUptoRow.laidByTextAt .later Tryd.pinned [.data, .data, .data, .data] true :=
  OpenClaim.laidByTextAt_later rfl rfl tie noOwnUnsafe
theorem charsRangesUpto_row_tie : Rows.charsRangesUptoRow.laidByTextAt .later Tryd.pinned [.data, .data, .data, .data] true :=
  OpenClaim.laidByTextAt_later rfl rfl tie noOwnUnsafe
end Go.Proofs.YtpgpniemkmiljaaDoor
