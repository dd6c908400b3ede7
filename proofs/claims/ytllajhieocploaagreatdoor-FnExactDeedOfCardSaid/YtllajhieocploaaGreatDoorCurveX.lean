/-
  Times of the program and of the specification at any n and any two int64.
-/
import Derived.Test.YtllajhieocploaaGreatDoorCurveW
namespace Go.Proofs.YtllajhieocploaaGreatDoor.Cv
open Go.ChangeShapes Go.WideShapes Go.ChangeAt Go.RowKit
open Cu
set_option maxRecDepth 100000 in
set_option maxHeartbeats 2000000 in
theorem impl_Times_yes (n a b : Nat) (w : World) (h : okN (a, b) = true) (hn : n ≤ 1099511627776) : Calls Tryz.prog 130 #[.int .i64 n, .agg #[.int .i64 a, .int .i64 b]] w fun e w' => e = .returned (.tuple #[.agg #[.int .i64 (ns (a, b) n).1, .int .i64 (ns (a, b) n).2], .bool true]) ∧ Below w.heap.size w w' := by
  have HK : Hid (okN (a, b) = true) := h
  have h1 : ¬ (n : Int) < 0 := by omega
  have h2 : ¬ 1099511627776 < (n : Int) := by omega
  clear h
  go_enter Tryz.func130, Tryz.ntmps130
  go_wp2_with (fail)
  refine (spotOf_yes a b _ HK.out).mono ?_
  rintro e w1 ⟨rfl, hb1⟩
  obtain ⟨hc1, hf1⟩ := bcell hb1
  have hz1 : w.heap.size + 1 < w1.heap.size := by have := hb1.size; simp at this; omega
  have hz2 : w.heap.size + 1 < w1.heap.size + 1 := by omega
  go_wp2_with (fail)
  refine (times_any a b n _ HK.out hn).mono ?_
  rintro e w2 ⟨rfl, hb2⟩
  obtain ⟨hc2, hf2⟩ := bcell hb2
  have hz3 : w1.heap.size < w2.heap.size := by have := hb2.size; simp at this; omega
  have hz4 : w.heap.size + 1 < w2.heap.size := by omega
  go_wp2_with (fail)
  refine (point_any _ _ _).mono ?_
  rintro e w3 ⟨rfl, hb3⟩
  obtain ⟨hc3, hf3⟩ := bcell hb3
  have hz5 : w.heap.size + 1 < w3.heap.size := by have := hb3.size; omega
  go_wp2
  refine bodyPost_ret (v := .tuple #[.agg #[.int .i64 (ns (a, b) n).1, .int .i64 (ns (a, b) n).2], .bool true]) (by simp [results, Tryz.results130, go_sem, *]) rfl ⟨rfl, ?_⟩
  exact (((((((Below.refl _ _).alloc (Nat.le_refl _) _).alloc (by simp) _).trans (hb1.mono (B' := w.heap.size) (by simp; omega))).alloc (by omega) _).trans (hb2.mono (B' := w.heap.size) (by simp; omega))).trans (hb3.mono (B' := w.heap.size) (by omega))).setCell (by simp) _ |>.setCell (by simp) _
set_option maxRecDepth 100000 in
set_option maxHeartbeats 2000000 in
theorem impl_Times_no (n x y : Int) (w : World) (h : okI x y = false ∨ okI x y = true ∧ n < 0 ∨ okI x y = true ∧ ¬ n < 0 ∧ 1099511627776 < n) : Calls Tryz.prog 130 #[.int .i64 n, .agg #[.int .i64 x, .int .i64 y]] w fun e w' => e = .returned (.tuple #[.agg #[.int .i64 0, .int .i64 0], .bool false]) ∧ Below w.heap.size w w' := by
  have c1 := spotOf_all x y
  rcases h with h1 | ⟨h1, h2⟩ | ⟨h1, h2, h3⟩
  all_goals
    rw [h1] at c1
    have C1 := Hid.mk' c1
    clear c1 h1
    go_enter Tryz.func130, Tryz.ntmps130
    go_wp2_with (fail)
    refine (C1.out _).mono ?_
    rintro e w1 ⟨rfl, hb1⟩
    obtain ⟨hc1, hf1⟩ := bcell hb1
    have hz1 : w.heap.size + 1 < w1.heap.size := by have := hb1.size; simp at this; omega
    have hz2 : w.heap.size + 1 < w1.heap.size + 1 := by omega
    go_wp2
    refine bodyPost_ret (v := .tuple #[.agg #[.int .i64 0, .int .i64 0], .bool false]) (by simp [results, Tryz.results130, go_sem, *]) rfl ⟨rfl, ?_⟩
    exact ((((((Below.refl _ _).alloc (Nat.le_refl _) _).alloc (by simp) _).trans (hb1.mono (B' := w.heap.size) (by simp; omega))).setCell (by simp) _).setCell (by simp) _).alloc (by simp; omega) _
end Go.Proofs.YtllajhieocploaaGreatDoor.Cv
