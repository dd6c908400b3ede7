/- The labels from the end on by the program's iterator; Before of the program. -/
import Derived.Test.YtgbnkkjjgodilaaGreatDoorNameL
set_option maxRecDepth 100000
set_option maxHeartbeats 32000000
set_option linter.unusedVariables false
namespace Go.Proofs.YtgbnkkjjgodilaaGreatDoor.Nm
open Go.ChangeShapes Go.WideShapes Go.ChangeAt Go.RowKit Go.Shelf
attribute [local go_sem] Oper.semAt_some
end Go.Proofs.YtgbnkkjjgodilaaGreatDoor.Nm
