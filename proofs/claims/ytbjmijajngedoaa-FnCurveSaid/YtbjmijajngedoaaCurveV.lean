/-
  The rest of chapter 2: Added where one is no Point and Opposite, of the specification.
-/
import Derived.Test.YtbjmijajngedoaaCurveS
namespace Go.Proofs.Ytbjmijajngedoaa.Cv
open Go.ChangeShapes Go.WideShapes Go.ChangeAt Go.RowKit
open Cu
set_option maxHeartbeats 2000000 in
theorem spec_Added_no (x y p q : Int) (w : World) (h : (okI x y && okI p q) = false) : Calls Try.prog 11 #[.agg #[.int .i64 x, .int .i64 y], .agg #[.int .i64 p, .int .i64 q]] w fun e w' => e = .returned (.tuple #[.agg #[.int .i64 0, .int .i64 0], .bool false]) ∧ Below w.heap.size w w' := by
  have c1 := spec_PointOk x y
  have c2 := spec_PointOk p q
  have hcase : okI x y = false ∨ okI x y = true ∧ okI p q = false := by
    revert h; cases okI x y <;> cases okI p q <;> simp
  clear h
  rcases hcase with h1 | ⟨h1, h2⟩
  · rw [h1] at c1
    have C1 := Hid.mk' c1
    clear c1 c2 h1
    go_enter Try.func11, Try.ntmps11
    go_wp2_with (fail)
    refine (C1.out _).mono ?_
    rintro e w1 ⟨rfl, hb1⟩
    obtain ⟨hc1, hf1⟩ := bcell hb1
    have hz1 : w.heap.size + 1 + 1 < w1.heap.size := by have := hb1.size; simp at this; omega
    go_wp2
    refine bodyPost_ret (v := .tuple #[.agg #[.int .i64 0, .int .i64 0], .bool false]) (by simp [results, Try.results11, go_sem, *]) rfl ⟨rfl, ?_⟩
    have b1 := (((Below.refl w.heap.size w).alloc (Nat.le_refl _) _).alloc (by simp) _).alloc (by simp; omega) _ |>.trans (hb1.mono (B' := w.heap.size) (by simp; omega))
    exact (b1.setCell (by simp; omega) _).setCell (by simp; omega) _
  · rw [h1] at c1
    rw [h2] at c2
    have C1 := Hid.mk' c1
    have C2 := Hid.mk' c2
    clear c1 c2 h1 h2
    go_enter Try.func11, Try.ntmps11
    go_wp2_with (fail)
    refine (C1.out _).mono ?_
    rintro e w1 ⟨rfl, hb1⟩
    obtain ⟨hc1, hf1⟩ := bcell hb1
    have hz1 : w.heap.size + 1 + 1 < w1.heap.size := by have := hb1.size; simp at this; omega
    have hz2 : w.heap.size + 1 < w1.heap.size := by omega
    go_wp2_with (fail)
    refine (C2.out _).mono ?_
    rintro e w2 ⟨rfl, hb2⟩
    obtain ⟨hc2, hf2⟩ := bcell hb2
    have hz4 : w.heap.size + 1 + 1 < w2.heap.size := by have := hb2.size; omega
    go_wp2
    refine bodyPost_ret (v := .tuple #[.agg #[.int .i64 0, .int .i64 0], .bool false]) (by simp [results, Try.results11, go_sem, *]) rfl ⟨rfl, ?_⟩
    have b1 := (((Below.refl w.heap.size w).alloc (Nat.le_refl _) _).alloc (by simp) _).alloc (by simp; omega) _ |>.trans (hb1.mono (B' := w.heap.size) (by simp; omega))
    exact ((b1.trans (hb2.mono (B' := w.heap.size) (by omega))).setCell (by simp; omega) _).setCell (by simp; omega) _
set_option maxHeartbeats 2000000 in
theorem spec_Opposite_yes (a b : Nat) (w : World) (h : okN (a, b) = true) : Calls Try.prog 18 #[.agg #[.int .i64 a, .int .i64 b]] w fun e w' => e = .returned (.tuple #[.agg #[.int .i64 (opN (a, b)).1, .int .i64 (opN (a, b)).2], .bool true]) ∧ Below w.heap.size w w' := by
  have hx : a < 10007 := (ok_el h).1
  have c1 := spec_PointOk a b
  rw [okI_cast, h] at c1
  have C1 := Hid.mk' c1
  have eo : Hid (((opN (a, b)).1 : Int) = (10007 - (a : Int)) % 10007) := Hid.mk' (by unfold opN mi; simp only; omega)
  clear h c1
  go_enter Try.func18, Try.ntmps18
  go_wp2_with (fail)
  refine (C1.out _).mono ?_
  rintro e w1 ⟨rfl, hb1⟩
  obtain ⟨hc1, hf1⟩ := bcell hb1
  have hz1 : w.heap.size + 1 < w1.heap.size := by have := hb1.size; simp at this; omega
  have hz2 : w.heap.size < w.heap.size + 1 + 1 := by omega
  go_wp2
  refine bodyPost_ret (v := .tuple #[.agg #[.int .i64 ((10007 - (a : Int)) % 10007), .int .i64 b], .bool true]) (by simp [results, Try.results18, go_sem, *]) rfl ⟨?_, ?_⟩
  · rw [eo.out]; rfl
  · exact (((((Below.refl _ _).alloc (Nat.le_refl _) _).alloc (by simp) _).trans (hb1.mono (B' := w.heap.size) (by simp; omega))).setCell (by simp) _).setCell (by simp) _
set_option maxHeartbeats 2000000 in
theorem spec_Opposite_no (x y : Int) (w : World) (h : okI x y = false) : Calls Try.prog 18 #[.agg #[.int .i64 x, .int .i64 y]] w fun e w' => e = .returned (.tuple #[.agg #[.int .i64 0, .int .i64 0], .bool false]) ∧ Below w.heap.size w w' := by
  have c1 := spec_PointOk x y
  rw [h] at c1
  have C1 := Hid.mk' c1
  clear h c1
  go_enter Try.func18, Try.ntmps18
  go_wp2_with (fail)
  refine (C1.out _).mono ?_
  rintro e w1 ⟨rfl, hb1⟩
  obtain ⟨hc1, hf1⟩ := bcell hb1
  have hz1 : w.heap.size + 1 < w1.heap.size := by have := hb1.size; simp at this; omega
  go_wp2
  refine bodyPost_ret (v := .tuple #[.agg #[.int .i64 0, .int .i64 0], .bool false]) (by simp [results, Try.results18, go_sem, *]) rfl ⟨rfl, ?_⟩
  exact (((((Below.refl _ _).alloc (Nat.le_refl _) _).alloc (by simp) _).trans (hb1.mono (B' := w.heap.size) (by simp; omega))).setCell (by simp) _).setCell (by simp) _
end Go.Proofs.Ytbjmijajngedoaa.Cv
