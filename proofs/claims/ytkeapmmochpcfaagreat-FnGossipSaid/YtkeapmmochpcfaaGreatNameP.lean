/- A name in plain words: the pieces between the dots, when it is a name, what is behind the first dot, what ends with what, and the order from the end on. No program in sight. -/
import Derived.Test.YtkeapmmochpcfaaGreatMem
import Derived.Lib.Strings
set_option maxRecDepth 100000
set_option maxHeartbeats 32000000
set_option linter.unusedVariables false
namespace Go.Proofs.YtkeapmmochpcfaaGreat.Nm
open Go.RowKit
end Go.Proofs.YtkeapmmochpcfaaGreat.Nm
