/- Contract: the character at a place, as the document's own answer has it. -/
import Derived.Test.YtpgpniemkmiljaaUtfD
namespace Go.Proofs.Ytpgpniemkmiljaa
open Go.ChangeShapes Go.WideShapes Go.ChangeAt Go.RowKit
set_option linter.unusedVariables false

end Go.Proofs.Ytpgpniemkmiljaa
