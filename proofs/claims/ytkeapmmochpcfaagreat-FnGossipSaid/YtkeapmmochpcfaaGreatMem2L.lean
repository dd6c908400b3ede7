/- What the laws do with one Member and with a list of them: the measure, the copy, whether two are alike. (Written by wip/mkrow.py.) -/
import Derived.Test.YtkeapmmochpcfaaGreatMem2M
import Derived.Test.YtkeapmmochpcfaaGreatQuiet
import Derived.Handy
set_option maxRecDepth 100000
set_option maxHeartbeats 32000000
set_option linter.unusedVariables false
namespace Go.Proofs.YtkeapmmochpcfaaGreat.Mm
open Go.ChangeShapes Go.WideShapes Go.ChangeAt Go.RowKit
open Rc (BelowBy BelowBy.one wp_region_below calls_below calls_same)
end Go.Proofs.YtkeapmmochpcfaaGreat.Mm
