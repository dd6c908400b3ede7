/-
  The functions of chapter 2 of the program at any int64: PointOk, Nought, Base, Added, Opposite. They make memory, and turn nothing that was.
-/
import Derived.Test.YteclbfgkeoiclaaCurveC
namespace Go.Proofs.Yteclbfgkeoiclaa.Cv
open Go.ChangeShapes Go.WideShapes Go.ChangeAt Go.RowKit
open Cu
/-- A Point as a value. -/
abbrev pt (x y : Int) : Value := .agg #[.int .i64 x, .int .i64 y]
theorem Hid.mk' {p : Prop} (h : p) : Hid p := h
theorem spec_Nought (w : World) : Calls Try.prog 47 #[] w fun e w' => e = .returned (.agg #[.int .i64 0, .int .i64 1]) ∧ Below w.heap.size w w' := by
  go_enter Try.func47, Try.ntmps47
  go_wp2
  exact bodyPost_ret (v := .agg #[.int .i64 0, .int .i64 1]) (by simp [results, Try.results47, go_sem]) rfl ⟨rfl, (Below.refl _ _).alloc (Nat.le_refl _) _⟩
theorem impl_Base (w : World) : Calls Try.prog 46 #[] w fun e w' => e = .returned (.agg #[.int .i64 2791, .int .i64 6375]) ∧ Below w.heap.size w w' := by
  go_enter Try.func46, Try.ntmps46
  go_wp2
  exact bodyPost_ret (v := .agg #[.int .i64 2791, .int .i64 6375]) (by simp [results, Try.results46, go_sem]) rfl ⟨rfl, (Below.refl _ _).alloc (Nat.le_refl _) _⟩
theorem spec_Base (w : World) : Calls Try.prog 44 #[] w fun e w' => e = .returned (.agg #[.int .i64 2791, .int .i64 6375]) ∧ Below w.heap.size w w' := by
  go_enter Try.func44, Try.ntmps44
  go_wp2
  exact bodyPost_ret (v := .agg #[.int .i64 2791, .int .i64 6375]) (by simp [results, Try.results44, go_sem]) rfl ⟨rfl, (Below.refl _ _).alloc (Nat.le_refl _) _⟩
def sx (x y : Int) : Int := if okI x y then x else 0
def sy (x y : Int) : Int := if okI x y then y else 0
theorem spotOf_all (x y : Int) (w : World) :
    Calls Try.prog 49 #[.agg #[.int .i64 x, .int .i64 y]] w fun e w' => e = .returned (.tuple #[.agg #[.int .i64 (sx x y), .int .i64 (sy x y)], .bool (okI x y)]) ∧ Below w.heap.size w w' := by
  unfold sx sy
  by_cases h : okI x y = true
  · rw [if_pos h, if_pos h, h]
    obtain ⟨a, b, rfl, rfl, hk⟩ := okI_nat h
    exact spotOf_yes a b w hk
  · have h' : okI x y = false := by simpa using h
    rw [if_neg h, if_neg h, h']
    exact spotOf_no x y w h'
end Go.Proofs.Yteclbfgkeoiclaa.Cv
