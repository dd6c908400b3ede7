/- What becomes of one Member by the program's table of functions, and of a list of them. -/
import Derived.Test.YtkeapmmochpcfaaGreatBun5
import Derived.Shelf.Abstract
import Derived.Laws.EntriesVeiled
import Derived.Test.YtkeapmmochpcfaaGreatBun3
set_option maxRecDepth 100000
set_option maxHeartbeats 32000000
set_option linter.unusedVariables false
namespace Go.Proofs.YtkeapmmochpcfaaGreat.Mm
open Go.ChangeShapes Go.WideShapes Go.ChangeAt Go.RowKit
open Rc (BelowBy BelowBy.one wp_region_below calls_below calls_same)
open Mk (okE newB okBk look Ris IsJoin mergeB)
end Go.Proofs.YtkeapmmochpcfaaGreat.Mm
namespace Go.Proofs.YtkeapmmochpcfaaGreat.Mm
open Go.ChangeShapes Go.WideShapes Go.ChangeAt Go.RowKit
open Mk (okE newB okBk look Ris IsJoin mergeB)
end Go.Proofs.YtkeapmmochpcfaaGreat.Mm
namespace Go.Proofs.YtkeapmmochpcfaaGreat.Mk
end Go.Proofs.YtkeapmmochpcfaaGreat.Mk
namespace Go.Proofs.YtkeapmmochpcfaaGreat.Mm
open Go.ChangeShapes Go.WideShapes Go.ChangeAt Go.RowKit
open Mk (okE newB okBk look Ris IsJoin mergeB)
end Go.Proofs.YtkeapmmochpcfaaGreat.Mm
namespace Go.Proofs.YtkeapmmochpcfaaGreat.Mm
open Go.ChangeShapes Go.WideShapes Go.ChangeAt Go.RowKit
open Rc (BelowBy BelowBy.one wp_region_below calls_below calls_same)
open Mk (okE newB okBk look Ris IsJoin mergeB)
end Go.Proofs.YtkeapmmochpcfaaGreat.Mm
namespace Go.Proofs.YtkeapmmochpcfaaGreat.Mm
open Go.ChangeShapes Go.WideShapes Go.ChangeAt Go.RowKit
open Mk (okE newB okBk look Ris IsJoin mergeB)
end Go.Proofs.YtkeapmmochpcfaaGreat.Mm
