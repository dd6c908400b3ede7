/-
  The table of powers of ten that the library's numerals read: what the law's list says of it, and that it stays.
-/
import Derived.Test.YtgbnkkjjgodilaaRows
import Derived.WalkKit
import Derived.ProofKit
import Derived.Below
import Derived.Lib.LaidTab
import Derived.Lib.SmallJoins
import Derived.Lib.Itoa
import Derived.LaidMore
import Derived.Stop.LaidErr
import Derived.Shelf.Strconv.Itoa4
namespace Go.Proofs.Ytgbnkkjjgodilaa.Sg
open Go.ChangeShapes Go.WideShapes Go.ChangeAt Go.RowKit Go.Shelf
/-- No table is read here. -/
def Tab (_ : World) : Prop := True
theorem Tab.kept {w w' : World} (_ : Tab w) (_ : Below w.heap.size w w') : Tab w' := trivial
end Go.Proofs.Ytgbnkkjjgodilaa.Sg
