/-
  What becomes of one Member by the program's table of functions, and of a list of them.
-/
import Derived.Test.YtlcbapijpdlolabMbK
import Derived.Shelf.Abstract
import Derived.Laws.EntriesVeiled
namespace Go.Proofs.Ytlcbapijpdlolab.Mm
open Go.ChangeShapes Go.WideShapes Go.ChangeAt Go.RowKit
open Go.Proofs.Ytlcbapijpdlolab.Rc (BelowBy BelowBy.one wp_region_below calls_below calls_same)
open Go.Proofs.Ytlcbapijpdlolab.Mk (okE newB okBk look Ris IsJoin mergeB)
set_option linter.unusedVariables false
abbrev fn (f : Nat) : Value := .func (.func f) #[] #[]
set_option maxRecDepth 100000 in
set_option maxHeartbeats 2000000 in
theorem impl_stays (x : Rw) (w : World) : Calls Try.prog 38 #[rv x] w fun e w' => e = .returned (.tuple #[rv x, .bool false]) ∧ Below w.heap.size w w' := by
  obtain ⟨a, b, c⟩ := x
  go_enter Try.func38, Try.ntmps38
  go_wp2
  refine bodyPost_ret (v := .tuple #[rv (a, b, c), .bool false]) (by simp [results, Try.results38, go_sem]) rfl ⟨rfl, by go_grown⟩
set_option maxRecDepth 100000 in
set_option maxHeartbeats 2000000 in
theorem impl_doubt (x : Rw) (w : World) : Calls Try.prog 37 #[rv x] w fun e w' => e = .returned (.tuple #[rv (x.1, x.2.1, 1), .bool true]) ∧ Below w.heap.size w w' := by
  obtain ⟨a, b, c⟩ := x
  go_enter Try.func37, Try.ntmps37
  go_wp2
  refine bodyPost_ret (v := .tuple #[rv (a, b, 1), .bool true]) (by simp [results, Try.results37, go_sem]) rfl ⟨rfl, by go_grown⟩
set_option maxRecDepth 100000 in
set_option maxHeartbeats 2000000 in
theorem impl_drop (x : Rw) (w : World) : Calls Try.prog 40 #[rv x] w fun e w' => e = .returned (.tuple #[rv (x.1, x.2.1, 2), .bool true]) ∧ Below w.heap.size w w' := by
  obtain ⟨a, b, c⟩ := x
  go_enter Try.func40, Try.ntmps40
  go_wp2
  refine bodyPost_ret (v := .tuple #[rv (a, b, 2), .bool true]) (by simp [results, Try.results40, go_sem]) rfl ⟨rfl, by go_grown⟩
/-- Back, of one. -/
def revB (x : Rw) : Bool := decide (x.2.1 ≠ 1000000)
def revN (x : Rw) : Rw := if x.2.1 = 1000000 then x else (x.1, x.2.1 + 1, 0)
set_option maxRecDepth 100000 in
set_option maxHeartbeats 2000000 in
theorem impl_revive (x : Rw) (w : World) (hx : 0 ≤ x.2.1 ∧ x.2.1 ≤ 1000000) : Calls Try.prog 39 #[rv x] w fun e w' => e = .returned (.tuple #[rv (revN x), .bool (revB x)]) ∧ Below w.heap.size w w' := by
  obtain ⟨a, b, c⟩ := x
  simp only at hx
  unfold revN revB
  simp only
  by_cases h : b = 1000000
  · rw [if_pos h, decide_eq_false (by simp [h])]
    have h' : (b == 1000000) = true := by simp [h]
    clear h
    go_enter Try.func39, Try.ntmps39
    go_wp2
    refine bodyPost_ret (v := .tuple #[rv (a, b, c), .bool false]) (by simp [results, Try.results39, go_sem]) rfl ⟨rfl, by go_grown⟩
  · rw [if_neg h, decide_eq_true h]
    have h' : (b == 1000000) = false := by simpa using h
    obtain ⟨h0, h1⟩ := hx
    clear h
    go_enter Try.func39, Try.ntmps39
    go_wp2
    refine bodyPost_ret (v := .tuple #[rv (a, b + 1, 0), .bool true]) (by simp [results, Try.results39, go_sem]) rfl ⟨rfl, by go_grown⟩
set_option maxRecDepth 100000 in
set_option maxHeartbeats 2000000 in
theorem impl_states (w : World) : Calls Try.prog 28 #[] w fun e w' => e = .returned (.agg #[fn 37, fn 38, fn 39, fn 38, fn 40, fn 39, fn 38, fn 38, fn 39]) ∧ Below w.heap.size w w' := by
  go_enter Try.func28, Try.ntmps28
  go_wp2
  refine bodyPost_ret (v := .agg #[fn 37, fn 38, fn 39, fn 38, fn 40, fn 39, fn 38, fn 38, fn 39]) (by simp [results, Try.results28, go_sem]) rfl ⟨rfl, by go_grown⟩
set_option maxHeartbeats 2000000 in
theorem pick_dropped (f g h : Nat) (w : World) : Calls Try.prog 17 #[.agg #[fn f, fn g, fn h]] w fun e w' => e = .returned (fn g) ∧ Below w.heap.size w w' := by
  go_enter Try.func17, Try.ntmps17
  go_wp2
  go_ret
  exact ⟨rfl, by go_grown⟩
set_option maxHeartbeats 2000000 in
theorem pick_back (f g h : Nat) (w : World) : Calls Try.prog 27 #[.agg #[fn f, fn g, fn h]] w fun e w' => e = .returned (fn h) ∧ Below w.heap.size w w' := by
  go_enter Try.func27, Try.ntmps27
  go_wp2
  go_ret
  exact ⟨rfl, by go_grown⟩
end Go.Proofs.Ytlcbapijpdlolab.Mm
