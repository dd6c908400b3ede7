/- What the functions of chapter 1 that go by squares answer: l1Power of the specification and power of the program, at Elements and numbers up to 2^40, hand back a to the n modulo 10007, and turn nothing in memory. -/
import Derived.Test.YtgbnkkjjgodilaaGreatDoorRows
import Derived.Test.YtgbnkkjjgodilaaGreatDoorPlain
import Derived.WalkKit
import Derived.ProofKit
import Derived.Below
set_option maxRecDepth 100000
set_option maxHeartbeats 32000000
set_option linter.unusedVariables false
namespace Go.Proofs.YtgbnkkjjgodilaaGreatDoor.Fd
open Go.ChangeShapes Go.WideShapes Go.ChangeAt Go.RowKit
end Go.Proofs.YtgbnkkjjgodilaaGreatDoor.Fd
