/-
  The kernel reckons, for each x up to 5049: a y and that 10196 times that point is Nought, or that no y fits.
-/
import Derived.Test.YtciikondckoboaaDoorCurve
namespace Go.Proofs.YtciikondckoboaaDoor.Cu
open Ed
/-- At one x: a y and 10196 times the point is Nought, or there is no y. -/
def chx (x : Nat) : Bool :=
  let xx := x * x % 10007
  let q := (10008 - xx) * Pl.pw (10008 - 23 * xx % 10007) 10005 % 10007
  let r := Pl.pw q 2502
  if r * r % 10007 == q then okN (x, r) && (tm 14 (0, 1) (x, r) 10196 == (0, 1)) else Pl.pw q 5003 == 10006
theorem chx_all : evss chx 50 = true := by decide +kernel
end Go.Proofs.YtciikondckoboaaDoor.Cu
