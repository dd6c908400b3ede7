/-
  What the laws' own small functions of Points answer: toPoint hands the two numbers on, eqPoint says whether two are the same.
-/
import Derived.Test.YtbjmijajngedoabDoorCurveI
namespace Go.Proofs.YtbjmijajngedoabDoor.Cv
open Go.ChangeShapes Go.WideShapes Go.ChangeAt Go.RowKit
open Cu
set_option maxHeartbeats 1000000 in
theorem toPoint_any (x y : Int) (w : World) : Calls Tryd.prog 5 #[.agg #[.int .i64 x, .int .i64 y]] w fun e w' => e = .returned (.agg #[.int .i64 x, .int .i64 y]) ∧ Below w.heap.size w w' := by
  go_enter Tryd.func5, Tryd.ntmps5
  go_wp2
  refine bodyPost_ret (v := .agg #[.int .i64 x, .int .i64 y]) (by simp [results, Tryd.results5, go_sem]) rfl ⟨rfl, ?_⟩
  exact (((Below.refl _ _).alloc (Nat.le_refl _) _).alloc (by simp) _).alloc (by simp; omega) _
end Go.Proofs.YtbjmijajngedoabDoor.Cv
