/-
  The functions of chapter 2 of the program at any int64: PointOk, Nought, Base, Added, Opposite. They make memory, and turn nothing that was.
-/
import Derived.Test.YthejkafdoomhoabCurveC
namespace Go.Proofs.Ythejkafdoomhoab.Cv
open Go.ChangeShapes Go.WideShapes Go.ChangeAt Go.RowKit
open Cu
/-- A Point as a value. -/
abbrev pt (x y : Int) : Value := .agg #[.int .i64 x, .int .i64 y]
theorem Hid.mk' {p : Prop} (h : p) : Hid p := h
theorem spec_Nought (w : World) : Calls Try.prog 22 #[] w fun e w' => e = .returned (.agg #[.int .i64 0, .int .i64 1]) ∧ Below w.heap.size w w' := by
  go_enter Try.func22, Try.ntmps22
  go_wp2
  exact bodyPost_ret (v := .agg #[.int .i64 0, .int .i64 1]) (by simp [results, Try.results22, go_sem]) rfl ⟨rfl, (Below.refl _ _).alloc (Nat.le_refl _) _⟩
set_option maxHeartbeats 1000000 in
theorem impl_Opposite_yes (a b : Nat) (w : World) (h : okN (a, b) = true) : Calls Try.prog 7 #[.agg #[.int .i64 a, .int .i64 b]] w fun e w' => e = .returned (.tuple #[.agg #[.int .i64 (opN (a, b)).1, .int .i64 (opN (a, b)).2], .bool true]) ∧ Below w.heap.size w w' := by
  have HK : Hid (okN (a, b) = true) := h
  clear h
  go_enter Try.func7, Try.ntmps7
  go_wp2_with (fail)
  refine (spotOf_yes a b _ HK.out).mono ?_
  rintro e w1 ⟨rfl, hb⟩
  obtain ⟨hc, hf⟩ := bcell hb
  have hz : w.heap.size + 1 < w1.heap.size := by have := hb.size; simp at this; omega
  go_wp2_with (fail)
  refine (opposite_any a b _ (ok_el HK.out).1).mono ?_
  rintro e w2 ⟨rfl, hb2⟩
  obtain ⟨hc2, hf2⟩ := bcell hb2
  have hz2 : w1.heap.size < w2.heap.size := by have := hb2.size; simp at this; omega
  have hz3 : w.heap.size + 1 < w2.heap.size := by omega
  go_wp2_with (fail)
  refine (point_any _ _ _).mono ?_
  rintro e w3 ⟨rfl, hb3⟩
  obtain ⟨hc3, hf3⟩ := bcell hb3
  have hz4 : w.heap.size + 1 < w3.heap.size := by have := hb3.size; omega
  have hz5 : w.heap.size + 1 < w1.heap.size + 1 := by omega
  go_wp2
  refine bodyPost_ret (v := .tuple #[.agg #[.int .i64 (opN (a, b)).1, .int .i64 (opN (a, b)).2], .bool true]) (by simp [results, Try.results7, go_sem, *]) rfl ⟨rfl, ?_⟩
  exact (((((((Below.refl _ _).alloc (Nat.le_refl _) _).alloc (by simp) _).trans (hb.mono (B' := w.heap.size) (by simp; omega))).alloc (by omega) _).trans (hb2.mono (B' := w.heap.size) (by simp; omega))).trans (hb3.mono (B' := w.heap.size) (by omega))).setCell (by simp) _ |>.setCell (by simp) _
def sx (x y : Int) : Int := if okI x y then x else 0
def sy (x y : Int) : Int := if okI x y then y else 0
theorem spotOf_all (x y : Int) (w : World) :
    Calls Try.prog 12 #[.agg #[.int .i64 x, .int .i64 y]] w fun e w' => e = .returned (.tuple #[.agg #[.int .i64 (sx x y), .int .i64 (sy x y)], .bool (okI x y)]) ∧ Below w.heap.size w w' := by
  unfold sx sy
  by_cases h : okI x y = true
  · rw [if_pos h, if_pos h, h]
    obtain ⟨a, b, rfl, rfl, hk⟩ := okI_nat h
    exact spotOf_yes a b w hk
  · have h' : okI x y = false := by simpa using h
    rw [if_neg h, if_neg h, h']
    exact spotOf_no x y w h'
set_option maxHeartbeats 1000000 in
theorem impl_Opposite_no (x y : Int) (w : World) (h : okI x y = false) : Calls Try.prog 7 #[.agg #[.int .i64 x, .int .i64 y]] w fun e w' => e = .returned (.tuple #[.agg #[.int .i64 0, .int .i64 0], .bool false]) ∧ Below w.heap.size w w' := by
  have HK : Hid (okI x y = false) := h
  clear h
  go_enter Try.func7, Try.ntmps7
  go_wp2_with (fail)
  refine (spotOf_no x y _ HK.out).mono ?_
  rintro e w1 ⟨rfl, hb⟩
  obtain ⟨hc, hf⟩ := bcell hb
  have hz : w.heap.size + 1 < w1.heap.size := by have := hb.size; simp at this; omega
  have hz5 : w.heap.size + 1 < w1.heap.size + 1 := by omega
  go_wp2
  refine bodyPost_ret (v := .tuple #[.agg #[.int .i64 0, .int .i64 0], .bool false]) (by simp [results, Try.results7, go_sem, *]) rfl ⟨rfl, ?_⟩
  exact ((((((Below.refl _ _).alloc (Nat.le_refl _) _).alloc (by simp) _).trans (hb.mono (B' := w.heap.size) (by simp; omega))).setCell (by simp) _).setCell (by simp) _).alloc (by simp; omega) _
end Go.Proofs.Ythejkafdoomhoab.Cv
