/-
  The functions of chapter 2 of the program at any int64: PointOk, Nought, Base, Added, Opposite. They make memory, and turn nothing that was.
-/
import Derived.Test.YtllajhieocploaaGreatDoorCurveC
namespace Go.Proofs.YtllajhieocploaaGreatDoor.Cv
open Go.ChangeShapes Go.WideShapes Go.ChangeAt Go.RowKit
open Cu
/-- A Point as a value. -/
abbrev pt (x y : Int) : Value := .agg #[.int .i64 x, .int .i64 y]
theorem Hid.mk' {p : Prop} (h : p) : Hid p := h
theorem spec_Nought (w : World) : Calls Tryz.prog 127 #[] w fun e w' => e = .returned (.agg #[.int .i64 0, .int .i64 1]) ∧ Below w.heap.size w w' := by
  go_enter Tryz.func127, Tryz.ntmps127
  go_wp2
  exact bodyPost_ret (v := .agg #[.int .i64 0, .int .i64 1]) (by simp [results, Tryz.results127, go_sem]) rfl ⟨rfl, (Below.refl _ _).alloc (Nat.le_refl _) _⟩
theorem impl_Base (w : World) : Calls Tryz.prog 131 #[] w fun e w' => e = .returned (.agg #[.int .i64 2791, .int .i64 6375]) ∧ Below w.heap.size w w' := by
  go_enter Tryz.func131, Tryz.ntmps131
  go_wp2
  exact bodyPost_ret (v := .agg #[.int .i64 2791, .int .i64 6375]) (by simp [results, Tryz.results131, go_sem]) rfl ⟨rfl, (Below.refl _ _).alloc (Nat.le_refl _) _⟩
theorem spec_Base (w : World) : Calls Tryz.prog 107 #[] w fun e w' => e = .returned (.agg #[.int .i64 2791, .int .i64 6375]) ∧ Below w.heap.size w w' := by
  go_enter Tryz.func107, Tryz.ntmps107
  go_wp2
  exact bodyPost_ret (v := .agg #[.int .i64 2791, .int .i64 6375]) (by simp [results, Tryz.results107, go_sem]) rfl ⟨rfl, (Below.refl _ _).alloc (Nat.le_refl _) _⟩
theorem impl_PointOk (x y : Int) (w : World) : Calls Tryz.prog 114 #[.agg #[.int .i64 x, .int .i64 y]] w fun e w' => e = .returned (.bool (okI x y)) ∧ Below w.heap.size w w' := by
  by_cases h : okI x y = true
  · rw [h]
    obtain ⟨a, b, rfl, rfl, hk⟩ := okI_nat h
    clear h
    have HK : Hid (okN (a, b) = true) := hk
    clear hk
    go_enter Tryz.func114, Tryz.ntmps114
    go_wp2_with (fail)
    refine (spotOf_yes a b _ HK.out).mono ?_
    rintro e w1 ⟨rfl, hb⟩
    go_wp2
    go_ret
    exact ⟨rfl, (((Below.refl _ _).alloc (Nat.le_refl _) _).trans (hb.mono (B' := w.heap.size) (by simp))).alloc (by have := hb.size; simp at this; omega) _⟩
  · have h' : okI x y = false := by simpa using h
    rw [h']
    have HK : Hid (okI x y = false) := h'
    clear h h'
    go_enter Tryz.func114, Tryz.ntmps114
    go_wp2_with (fail)
    refine (spotOf_no x y _ HK.out).mono ?_
    rintro e w1 ⟨rfl, hb⟩
    go_wp2
    go_ret
    exact ⟨rfl, (((Below.refl _ _).alloc (Nat.le_refl _) _).trans (hb.mono (B' := w.heap.size) (by simp))).alloc (by have := hb.size; simp at this; omega) _⟩
def sx (x y : Int) : Int := if okI x y then x else 0
def sy (x y : Int) : Int := if okI x y then y else 0
theorem spotOf_all (x y : Int) (w : World) :
    Calls Tryz.prog 133 #[.agg #[.int .i64 x, .int .i64 y]] w fun e w' => e = .returned (.tuple #[.agg #[.int .i64 (sx x y), .int .i64 (sy x y)], .bool (okI x y)]) ∧ Below w.heap.size w w' := by
  unfold sx sy
  by_cases h : okI x y = true
  · rw [if_pos h, if_pos h, h]
    obtain ⟨a, b, rfl, rfl, hk⟩ := okI_nat h
    exact spotOf_yes a b w hk
  · have h' : okI x y = false := by simpa using h
    rw [if_neg h, if_neg h, h']
    exact spotOf_no x y w h'
end Go.Proofs.YtllajhieocploaaGreatDoor.Cv
