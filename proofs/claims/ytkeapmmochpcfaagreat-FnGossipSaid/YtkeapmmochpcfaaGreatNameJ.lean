/- HasSuffix of package strings; is a byte one of a label, is a text a label: of the program and of the specification. -/
import Derived.Test.YtkeapmmochpcfaaGreatNameI
set_option maxRecDepth 100000
set_option maxHeartbeats 32000000
set_option linter.unusedVariables false
namespace Go.Proofs.YtkeapmmochpcfaaGreat.Nm
open Go.ChangeShapes Go.WideShapes Go.ChangeAt Go.RowKit
end Go.Proofs.YtkeapmmochpcfaaGreat.Nm
