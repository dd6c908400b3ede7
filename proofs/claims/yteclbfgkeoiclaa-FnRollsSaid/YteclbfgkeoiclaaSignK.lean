/-
  KeyOf of the program and of the specification: the base, secret times; the zero Point and false when it is no secret.
-/
import Derived.Test.YteclbfgkeoiclaaCurveX
namespace Go.Proofs.Yteclbfgkeoiclaa.Cv
open Go.ChangeShapes Go.WideShapes Go.ChangeAt Go.RowKit
open Cu
set_option maxRecDepth 100000 in
set_option maxHeartbeats 2000000 in
theorem timesBase_any (n : Nat) (w : World) (hn : n ≤ 1099511627776) : Calls Try.prog 39 #[.int .i64 n] w fun e w' => e = .returned (.agg #[.int .i64 (ns (2791, 6375) n).1, .int .i64 (ns (2791, 6375) n).2]) ∧ Below w.heap.size w w' := by
  go_enter Try.func39, Try.ntmps39
  go_wp2_with (fail)
  refine (impl_Base _).mono ?_
  rintro e w1 ⟨rfl, hb1⟩
  have hz1 : w.heap.size < w1.heap.size := by have := hb1.size; simp at this; omega
  have C := Hid.mk' (fun w => impl_Times_yes n 2791 6375 w ok_base hn)
  obtain ⟨hc1, hf1⟩ := bcell hb1
  go_wp2_with (fail)
  refine (C.out _).mono ?_
  rintro e w2 ⟨rfl, hb2⟩
  obtain ⟨hc2, hf2⟩ := bcell hb2
  have hz2 : w.heap.size < w2.heap.size := by have := hb2.size; omega
  have hz3 : w.heap.size < w2.heap.size + 1 := by omega
  go_wp2
  refine bodyPost_ret (v := .agg #[.int .i64 (ns (2791, 6375) n).1, .int .i64 (ns (2791, 6375) n).2]) (by simp [results, Try.results39, go_sem, *]) rfl ⟨rfl, ?_⟩
  have b2 := (((Below.refl w.heap.size w).alloc (Nat.le_refl _) _).trans (hb1.mono (B' := w.heap.size) (by simp))).trans (hb2.mono (B' := w.heap.size) (by omega))
  exact ((b2.setCell (by simp) _).setCell (by simp) _).alloc (by simp; omega) _
set_option maxRecDepth 100000 in
set_option maxHeartbeats 2000000 in
theorem impl_KeyOf_yes (n : Nat) (w : World) (h1 : 0 < n) (h2 : n < 2549) : Calls Try.prog 19 #[.int .i64 n] w fun e w' => e = .returned (.tuple #[.agg #[.int .i64 (ns (2791, 6375) n).1, .int .i64 (ns (2791, 6375) n).2], .bool true]) ∧ Below w.heap.size w w' := by
  have h3 : (0 : Int) < n := by omega
  have h4 : (n : Int) < 2549 := by omega
  have C := Hid.mk' (fun w => timesBase_any n w (by omega))
  go_enter Try.func19, Try.ntmps19
  go_wp2_with (first | (go_at_call 38; go_in) | fail)
  refine (C.out _).mono ?_
  rintro e w1 ⟨rfl, hb1⟩
  obtain ⟨hc1, hf1⟩ := bcell hb1
  have hz1 : w.heap.size < w1.heap.size := by have := hb1.size; simp at this; omega
  go_wp2
  refine bodyPost_ret (v := .tuple #[.agg #[.int .i64 (ns (2791, 6375) n).1, .int .i64 (ns (2791, 6375) n).2], .bool true]) (by simp [results, Try.results19, go_sem, *]) rfl ⟨rfl, ?_⟩
  exact ((((Below.refl w.heap.size w).alloc (Nat.le_refl _) _).trans (hb1.mono (B' := w.heap.size) (by simp))).setCell (by simp) _).setCell (by simp) _
set_option maxRecDepth 100000 in
set_option maxHeartbeats 2000000 in
theorem impl_KeyOf_no (n : Int) (w : World) (h : ¬ 0 < n ∨ 0 < n ∧ ¬ n < 2549) : Calls Try.prog 19 #[.int .i64 n] w fun e w' => e = .returned (.tuple #[.agg #[.int .i64 0, .int .i64 0], .bool false]) ∧ Below w.heap.size w w' := by
  rcases h with h1 | ⟨h1, h2⟩
  all_goals
    go_enter Try.func19, Try.ntmps19
    go_wp2_with (first | (go_at_call 38; go_in) | fail)
    refine bodyPost_ret (v := .tuple #[.agg #[.int .i64 0, .int .i64 0], .bool false]) (by simp [results, Try.results19, go_sem]) rfl ⟨rfl, ?_⟩
    exact (Below.refl w.heap.size w).alloc (Nat.le_refl _) _
end Go.Proofs.Yteclbfgkeoiclaa.Cv
