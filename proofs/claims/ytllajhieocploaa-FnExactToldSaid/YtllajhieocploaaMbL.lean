/-
  What becomes of one Member by the program's table of functions, and of a list of them.
-/
import Derived.Test.YtllajhieocploaaMbK
import Derived.Shelf.Abstract
import Derived.Laws.EntriesVeiled
namespace Go.Proofs.Ytllajhieocploaa.Mm
open Go.ChangeShapes Go.WideShapes Go.ChangeAt Go.RowKit
open Go.Proofs.Ytllajhieocploaa.Rc (BelowBy BelowBy.one wp_region_below calls_below calls_same)
open Go.Proofs.Ytllajhieocploaa.Mk (okE newB okBk look Ris IsJoin mergeB)
set_option linter.unusedVariables false
abbrev fn (f : Nat) : Value := .func (.func f) #[] #[]
/-- Back, of one. -/
def revB (x : Rw) : Bool := decide (x.2.1 ≠ 1000000)
def revN (x : Rw) : Rw := if x.2.1 = 1000000 then x else (x.1, x.2.1 + 1, 0)
end Go.Proofs.Ytllajhieocploaa.Mm
