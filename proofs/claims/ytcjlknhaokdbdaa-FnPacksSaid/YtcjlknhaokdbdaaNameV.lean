/-
  Before of the specification.
-/
import Derived.Test.YtcjlknhaokdbdaaNameU
namespace Go.Proofs.Ytcjlknhaokdbdaa.Nm
open Go.ChangeShapes Go.WideShapes Go.ChangeAt Go.RowKit
end Go.Proofs.Ytcjlknhaokdbdaa.Nm
