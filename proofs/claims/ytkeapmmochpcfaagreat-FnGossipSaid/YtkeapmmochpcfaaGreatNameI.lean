/- What the program takes of package strings, at the dot: Cut, LastIndex, HasSuffix; and the last label. -/
import Derived.Test.YtkeapmmochpcfaaGreatNameP
import Derived.Test.YtkeapmmochpcfaaGreatProg
import Derived.Lib.Bytealg
import Derived.Lib.Walk
import Derived.Lib.LastIndexByte
import Derived.BigCall
import Derived.BigGuard
import Derived.BigQuiet
import Derived.Laws.Strings3
import Derived.Deep.Draws
import Derived.Deep.QuietTactic
set_option maxRecDepth 100000
set_option maxHeartbeats 32000000
set_option linter.unusedVariables false
namespace Go.Proofs.YtkeapmmochpcfaaGreat.Nm
open Go.ChangeShapes Go.WideShapes Go.ChangeAt Go.RowKit
end Go.Proofs.YtkeapmmochpcfaaGreat.Nm
