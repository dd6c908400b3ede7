/- What becomes of one Member by the program's table of functions, and of a list of them. -/
import Derived.Test.YtpkkmhpobfjclaaGreatBun3
import Derived.Shelf.Abstract
import Derived.Laws.EntriesVeiled
import Derived.Test.YtpkkmhpobfjclaaGreatBun2
set_option maxRecDepth 100000
set_option maxHeartbeats 32000000
set_option linter.unusedVariables false
namespace Go.Proofs.YtpkkmhpobfjclaaGreat.Mm
open Go.ChangeShapes Go.WideShapes Go.ChangeAt Go.RowKit
open Rc (BelowBy BelowBy.one wp_region_below calls_below calls_same)
open Mk (okE newB okBk look Ris IsJoin mergeB)
end Go.Proofs.YtpkkmhpobfjclaaGreat.Mm
namespace Go.Proofs.YtpkkmhpobfjclaaGreat.Mm
open Go.ChangeShapes Go.WideShapes Go.ChangeAt Go.RowKit
open Mk (okE newB okBk look Ris IsJoin mergeB)
end Go.Proofs.YtpkkmhpobfjclaaGreat.Mm
namespace Go.Proofs.YtpkkmhpobfjclaaGreat.Mk
end Go.Proofs.YtpkkmhpobfjclaaGreat.Mk
namespace Go.Proofs.YtpkkmhpobfjclaaGreat.Mm
open Go.ChangeShapes Go.WideShapes Go.ChangeAt Go.RowKit
open Mk (okE newB okBk look Ris IsJoin mergeB)
end Go.Proofs.YtpkkmhpobfjclaaGreat.Mm
namespace Go.Proofs.YtpkkmhpobfjclaaGreat.Mm
open Go.ChangeShapes Go.WideShapes Go.ChangeAt Go.RowKit
open Rc (BelowBy BelowBy.one wp_region_below calls_below calls_same)
open Mk (okE newB okBk look Ris IsJoin mergeB)
end Go.Proofs.YtpkkmhpobfjclaaGreat.Mm
namespace Go.Proofs.YtpkkmhpobfjclaaGreat.Mm
open Go.ChangeShapes Go.WideShapes Go.ChangeAt Go.RowKit
open Mk (okE newB okBk look Ris IsJoin mergeB)
end Go.Proofs.YtpkkmhpobfjclaaGreat.Mm
