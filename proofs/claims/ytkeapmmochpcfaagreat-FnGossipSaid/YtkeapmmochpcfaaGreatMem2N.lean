/- Marks written into a list of Members of the call's own, and looked for again. (Written by wip/mkrow.py.) -/
import Derived.Test.YtkeapmmochpcfaaGreatMem2L
set_option maxRecDepth 100000
set_option maxHeartbeats 32000000
set_option linter.unusedVariables false
namespace Go.Proofs.YtkeapmmochpcfaaGreat.Mm
open Go.ChangeShapes Go.WideShapes Go.ChangeAt Go.RowKit
open Rc (BelowBy BelowBy.one BelowBy.cell wp_region_below calls_below calls_same)
set_option linter.unusedSimpArgs false
end Go.Proofs.YtkeapmmochpcfaaGreat.Mm
