/-
  NewRoll, Step and Signing of the specification, in plain words.
-/
import Derived.Test.YtllajhieocploaaRollM
namespace Go.Proofs.Ytllajhieocploaa.Ro
open Go.ChangeShapes Go.WideShapes Go.ChangeAt Go.RowKit
set_option linter.unusedVariables false
abbrev R5 := Int × Int × Int × Int × Int
abbrev rvt (x : R5) : Value := rv x.1 x.2.1 x.2.2.1 x.2.2.2.1 x.2.2.2.2
def newR (m o a : Int) : R5 × Bool := if rollOk 1 m o 0 a = true then ((1, m, o, 0, a), true) else ((0, 0, 0, 0, 0), false)
def stepR (p m o n a now fr : Int) : R5 × Bool :=
  if rollOk p m o n a = false then ((0, 0, 0, 0, 0), false)
  else if timB now = false ∨ now < a + 100 then ((p, m, o, n, a), false)
  else if p = 1 then (if secB fr = false ∨ fr = o ∨ fr = m then ((p, m, o, n, a), false) else ((2, m, o, fr, now), true))
  else if p = 2 then ((3, m, o, n, now), true)
  else ((1, m, n, 0, now), true)
def signR (p m o n a : Int) : Int := if rollOk p m o n a = false then 0 else if p = 3 then n else o
theorem roll_time {p m o n a : Int} (h : rollOk p m o n a = true) : 0 ≤ a ∧ a ≤ 1000000 := by
  unfold rollOk rollB timB inB at h
  simp only [Bool.and_eq_true, decide_eq_true_eq] at h
  exact h.2.2.1
set_option maxRecDepth 100000 in
set_option maxHeartbeats 4000000 in
theorem spec_NewRoll (m o a : Int) (w : World) : Calls Try.prog 34 #[.int .i64 m, .int .i64 o, .int .i64 a] w fun e w' => e = .returned (.tuple #[rvt (newR m o a).1, .bool (newR m o a).2]) ∧ Below w.heap.size w w' := by
  have C := hidIt (fun W => spec_RollOk 1 m o 0 a W)
  cases hr : rollOk 1 m o 0 a with
  | false =>
    have e : newR m o a = ((0, 0, 0, 0, 0), false) := by simp [newR, hr]
    rw [e]
    rw [hr] at C
    go_enter Try.func34, Try.ntmps34
    go_wp2_with (fail)
    refine (C.out _).mono ?_
    rintro e w1 ⟨rfl, rfl⟩
    go_wp2_with (fail)
    refine bodyPost_ret (v := .tuple #[rv 0 0 0 0 0, .bool false]) (by simp [results, Try.results34, go_sem]) rfl ⟨rfl, ?_⟩
    exact (((Below.refl w.heap.size w).alloc (Nat.le_refl _) _).alloc (by simp) _).alloc (by simp; omega) _
  | true =>
    have e : newR m o a = ((1, m, o, 0, a), true) := by simp [newR, hr]
    rw [e]
    rw [hr] at C
    go_enter Try.func34, Try.ntmps34
    go_wp2_with (fail)
    refine (C.out _).mono ?_
    rintro e w1 ⟨rfl, rfl⟩
    go_wp2_with (fail)
    refine bodyPost_ret (v := .tuple #[rv 1 m o 0 a, .bool true]) (by simp [results, Try.results34, go_sem]) rfl ⟨rfl, ?_⟩
    exact ((((Below.refl w.heap.size w).alloc (Nat.le_refl _) _).alloc (by simp) _).alloc (by simp; omega) _)
end Go.Proofs.Ytllajhieocploaa.Ro
