/-
  What the laws' own small functions of Points answer: toPoint hands the two numbers on, eqPoint says whether two are the same.
-/
import Derived.Test.YtllajhieocploaaGreatDoorCurveI
namespace Go.Proofs.YtllajhieocploaaGreatDoor.Cv
open Go.ChangeShapes Go.WideShapes Go.ChangeAt Go.RowKit
open Cu
set_option maxHeartbeats 1000000 in
theorem eqPoint_same (x y : Int) (w : World) : Calls Tryz.prog 82 #[.agg #[.int .i64 x, .int .i64 y], .agg #[.int .i64 x, .int .i64 y]] w fun e w' => e = .returned (.bool true) ∧ Below w.heap.size w w' := by
  have h1 : (x != x) = false := by simp
  have h2 : (y != y) = false := by simp
  go_enter Tryz.func82, Tryz.ntmps82
  go_wp2
  go_ret
  exact ⟨rfl, ((Below.refl _ _).alloc (Nat.le_refl _) _).alloc (by simp) _⟩
end Go.Proofs.YtllajhieocploaaGreatDoor.Cv
