/-
  A list of Lines that came in: what is read of it, as a list of texts and Sums.
-/
import Derived.Test.YtgbnkkjjgodilaaLogL
import Derived.Deep.SlicePairs
import Derived.OpenShut
namespace Go.Proofs.Ytgbnkkjjgodilaa.Lg
open Go.ChangeShapes Go.WideShapes Go.ChangeAt Go.RowKit
open Sg
/-- The slice at a, of capacity cap, reads as L; its texts are no longer than a text may be. -/
structure In (w : World) (a : Option Addr) (cap : Nat) (L : List Ln) : Prop where
  rd : Rd w a L
  le : L.length ≤ cap
  cap : cap ≤ 9223372036854775807
  short : ∀ i, i < L.length → (lat L i).1.size ≤ 9223372036854775807
theorem lat_map (n : Nat) (f : Nat → Ln) (i : Nat) (hi : i < n) : lat ((List.range n).map f) i = f i := by
  unfold lat
  rw [List.getD_eq_getElem?_getD, List.getElem?_map, List.getElem?_range hi]
  rfl
end Go.Proofs.Ytgbnkkjjgodilaa.Lg
