/-
  Times, of the specification and of the program.
-/
import Derived.Test.YtlmpalkjagekjaaCurveS
import Derived.Test.YtlmpalkjagekjaaCurveT
namespace Go.Proofs.Ytlmpalkjagekjaa.Cv
open Go.ChangeShapes Go.WideShapes Go.ChangeAt Go.RowKit
open Cu
/-- What lies in memory round by round in the specification's text: m is left, d is next, r is the sum so far. -/
structure Lq (w wx : World) (p : Nat × Nat) (n tb m : Nat) (d r : Nat × Nat) : Prop where
  a : Two wx w.heap.size d
  su : Two wx tb r
  res : Two wx (w.heap.size + 1) (0, 0)
  old : Below w.heap.size w wx
  okd : okN d = true
  okr : okN r = true
  eq : adN r (ns d m) = ns p n
end Go.Proofs.Ytlmpalkjagekjaa.Cv
