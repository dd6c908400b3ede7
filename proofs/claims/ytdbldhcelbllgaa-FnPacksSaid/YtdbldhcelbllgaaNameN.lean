/-
  Labels, Parent, Under and Star of the program.
-/
import Derived.Test.YtdbldhcelbllgaaNameU
import Derived.Maps.AppendAt
namespace Go.Proofs.Ytdbldhcelbllgaa.Nm
open Go.ChangeShapes Go.WideShapes Go.ChangeAt Go.RowKit Go.Shelf
attribute [local go_sem] Oper.semAt_some
end Go.Proofs.Ytdbldhcelbllgaa.Nm
