/- What the laws do with one Entry and with a list of them: the measure, the copy, whether two are alike. (Written by wip/mkrow.py.) -/
import Derived.Test.YtkeapmmochpcfaaGreatEntM
import Derived.Test.YtkeapmmochpcfaaGreatQuiet
import Derived.Handy
set_option maxRecDepth 100000
set_option maxHeartbeats 32000000
set_option linter.unusedVariables false
namespace Go.Proofs.YtkeapmmochpcfaaGreat.En
open Go.ChangeShapes Go.WideShapes Go.ChangeAt Go.RowKit
open Rc (BelowBy BelowBy.one wp_region_below calls_below calls_same)
end Go.Proofs.YtkeapmmochpcfaaGreat.En
