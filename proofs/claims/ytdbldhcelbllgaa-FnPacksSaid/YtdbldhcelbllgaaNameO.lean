/-
  Labels of the program.
-/
import Derived.Test.YtdbldhcelbllgaaNameN
namespace Go.Proofs.Ytdbldhcelbllgaa.Nm
open Go.ChangeShapes Go.WideShapes Go.ChangeAt Go.RowKit Go.Shelf
attribute [local go_sem] Oper.semAt_some
end Go.Proofs.Ytdbldhcelbllgaa.Nm
