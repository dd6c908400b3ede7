/-
  Signed of the specification; two Sigs held against one another.
-/
import Derived.Test.YtniadgjckjnfiaaDoorSignU
namespace Go.Proofs.YtniadgjckjnfiaaDoor.Sg
open Go.ChangeShapes Go.WideShapes Go.ChangeAt Go.RowKit
open Cv Cu
set_option maxHeartbeats 2000000 in
theorem eqSig_same (x y t : Int) (w : World) : Calls Tryd.prog 31 #[.agg #[.int .i64 x, .int .i64 y, .int .i64 t], .agg #[.int .i64 x, .int .i64 y, .int .i64 t]] w fun e w' => e = .returned (.bool true) ∧ Below w.heap.size w w' := by
  have h1 : (t != t) = false := by simp
  have z0 : w.heap.size < w.heap.size + 1 + 1 := by omega
  go_enter Tryd.func31, Tryd.ntmps31
  go_wp2_with (fail)
  refine (eqPoint_same _ _ _).mono ?_
  rintro e w1 ⟨rfl, hb1⟩
  obtain ⟨hc1, hf1⟩ := bcell hb1
  have z1 : w.heap.size + 1 < w1.heap.size := by have := hb1.size; simp at this; omega
  go_wp2_with (fail)
  go_ret
  exact ⟨rfl, (((Below.refl _ _).alloc (Nat.le_refl _) _).alloc (by simp) _).trans (hb1.mono (B' := w.heap.size) (by simp; omega))⟩
end Go.Proofs.YtniadgjckjnfiaaDoor.Sg
