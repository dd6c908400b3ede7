/- ValueOf and Alive of the specification. -/
import Derived.Test.YtpkkmhpobfjclaaGreatBokV
set_option maxRecDepth 100000
set_option maxHeartbeats 32000000
set_option linter.unusedVariables false
namespace Go.Proofs.YtpkkmhpobfjclaaGreat.Bk
end Go.Proofs.YtpkkmhpobfjclaaGreat.Bk
namespace Go.Proofs.YtpkkmhpobfjclaaGreat.En
open Go.ChangeShapes Go.WideShapes Go.ChangeAt Go.RowKit
open Bk (Bytes okE newB okBk Ris IsJoin joinB)
end Go.Proofs.YtpkkmhpobfjclaaGreat.En
