/-
  Signed of the specification; two Sigs held against one another.
-/
import Derived.Test.YtbjmijajngedoaaDoorSignU
namespace Go.Proofs.YtbjmijajngedoaaDoor.Sg
open Go.ChangeShapes Go.WideShapes Go.ChangeAt Go.RowKit
open Cv Cu
set_option maxRecDepth 100000 in
set_option maxHeartbeats 2000000 in
theorem spec_Signed_yes (n : Nat) (s : ByteArray) (w : World) (h1 : 0 < n) (h2 : n < 2549) (hs : s.size ≤ 4611686018427380000) :
    Calls Tryd.prog 12 #[.int .i64 n, .string s] w fun e w' => e = .returned (.tuple #[.agg #[.int .i64 (sgR n s).1, .int .i64 (sgR n s).2, .int .i64 (sgT n s)], .bool true]) ∧ Below w.heap.size w w' := by
  have C := hidIt (fun w => l3Signed_any n s w h2 hs)
  have h3 : (1 : Int) ≤ n := by omega
  have h4 : (n : Int) ≤ 2548 := by omega
  generalize ((sgR n s).1 : Int) = R1 at C ⊢
  generalize ((sgR n s).2 : Int) = R2 at C ⊢
  generalize (sgT n s : Int) = T at C ⊢
  go_enter Tryd.func12, Tryd.ntmps12
  go_wp2_with (first | (go_at_call 39; go_in) | (go_at_call 41; go_in) | fail)
  refine (C.out _).mono ?_
  rintro e w1 ⟨rfl, hb1⟩
  have S1 := hidIt ((Tri.newAt (w := w) (x := 0) (y := 0) (z := 0) (T := 29) rfl).next hb1)
  have B1 := hidIt (below_step (Below.refl w.heap.size w) hb1)
  have x0 := S1.out.c0
  have x1 := S1.out.c1
  have x2 := S1.out.c2
  have x3 := S1.out.f0
  have x4 := S1.out.f1
  have x5 := S1.out.f2
  have x6 := S1.out.lt
  clear hb1
  go_wp2_with (fail)
  refine bodyPost_ret (v := .tuple #[.agg #[.int .i64 R1, .int .i64 R2, .int .i64 T], .bool true]) ?_ rfl ⟨rfl, ((B1.out.setCell (by simp) _).setCell (by simp) _).setCell (by simp) _⟩
  refine ret_via3 (S1.out.put (x' := R1) (y' := R2) (z' := T)) (fun w9 j => ?_)
  have j0 := j.c0
  have j1 := j.c1
  have j2 := j.c2
  clear j x0 x1 x2 x3 x4 x5 x6
  simp [results, Tryd.results12, go_sem, j0, j1, j2]
set_option maxRecDepth 100000 in
set_option maxHeartbeats 2000000 in
theorem spec_Signed_no (n : Int) (s : ByteArray) (w : World) (h : ¬ 1 ≤ n ∨ 1 ≤ n ∧ ¬ n ≤ 2548) :
    Calls Tryd.prog 12 #[.int .i64 n, .string s] w fun e w' => e = .returned (.tuple #[.agg #[.int .i64 0, .int .i64 0, .int .i64 0], .bool false]) ∧ Below w.heap.size w w' := by
  rcases h with h1 | ⟨h1, h2⟩
  all_goals
    go_enter Tryd.func12, Tryd.ntmps12
    go_wp2_with (first | (go_at_call 39; go_in) | (go_at_call 41; go_in) | fail)
    refine bodyPost_ret (v := .tuple #[.agg #[.int .i64 0, .int .i64 0, .int .i64 0], .bool false]) (by simp [results, Tryd.results12, go_sem]) rfl ⟨rfl, ?_⟩
    exact (Below.refl w.heap.size w).alloc (Nat.le_refl _) _
set_option maxHeartbeats 2000000 in
theorem eqSig_same (x y t : Int) (w : World) : Calls Tryd.prog 26 #[.agg #[.int .i64 x, .int .i64 y, .int .i64 t], .agg #[.int .i64 x, .int .i64 y, .int .i64 t]] w fun e w' => e = .returned (.bool true) ∧ Below w.heap.size w w' := by
  have h1 : (t != t) = false := by simp
  have z0 : w.heap.size < w.heap.size + 1 + 1 := by omega
  go_enter Tryd.func26, Tryd.ntmps26
  go_wp2_with (fail)
  refine (eqPoint_same _ _ _).mono ?_
  rintro e w1 ⟨rfl, hb1⟩
  obtain ⟨hc1, hf1⟩ := bcell hb1
  have z1 : w.heap.size + 1 < w1.heap.size := by have := hb1.size; simp at this; omega
  go_wp2_with (fail)
  go_ret
  exact ⟨rfl, (((Below.refl _ _).alloc (Nat.le_refl _) _).alloc (by simp) _).trans (hb1.mono (B' := w.heap.size) (by simp; omega))⟩
end Go.Proofs.YtbjmijajngedoaaDoor.Sg
