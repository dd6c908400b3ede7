/-
  What the laws' own small functions of Points answer: toPoint hands the two numbers on, eqPoint says whether two are the same.
-/
import Derived.Test.YtciikondckoboaaGreatDoorCurveI
namespace Go.Proofs.YtciikondckoboaaGreatDoor.Cv
open Go.ChangeShapes Go.WideShapes Go.ChangeAt Go.RowKit
open Cu
end Go.Proofs.YtciikondckoboaaGreatDoor.Cv
