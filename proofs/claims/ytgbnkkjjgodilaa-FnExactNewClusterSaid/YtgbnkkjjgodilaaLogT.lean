/-
  Same of the program and of the specification, whatever the two lists: alike.
-/
import Derived.Test.YtgbnkkjjgodilaaLogO
namespace Go.Proofs.Ytgbnkkjjgodilaa.Lg
open Go.ChangeShapes Go.WideShapes Go.ChangeAt Go.RowKit
open Sg
end Go.Proofs.Ytgbnkkjjgodilaa.Lg
