/-
  Before of the specification.
-/
import Derived.Test.YtdbldhcelbllgaaNameU
namespace Go.Proofs.Ytdbldhcelbllgaa.Nm
open Go.ChangeShapes Go.WideShapes Go.ChangeAt Go.RowKit
end Go.Proofs.Ytdbldhcelbllgaa.Nm
