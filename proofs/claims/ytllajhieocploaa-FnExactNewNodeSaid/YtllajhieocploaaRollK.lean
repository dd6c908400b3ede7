/-
  signerOf, RollOk, NewRoll and Signing of the program; which shape a value has.
-/
import Derived.Test.YtllajhieocploaaRollI
import Derived.Handy
import Derived.WideLaws
namespace Go.Proofs.Ytllajhieocploaa.Ro
open Go.ChangeShapes Go.WideShapes Go.ChangeAt Go.RowKit
set_option linter.unusedVariables false
theorem as_st_nil (w : World) : (Instr.typeAssert .nilIface 120 136 true).run Try.prog w = .ok (.tuple #[.agg #[.int .i64 0, .int .i64 0, .int .i64 0], .bool false]) w := by kernel_rfl
theorem as_st_st (v : Value) (w : World) : (Instr.typeAssert (.iface 136 v) 120 136 true).run Try.prog w = .ok (.tuple #[v, .bool true]) w := by kernel_rfl
theorem as_st_rd (v : Value) (w : World) : (Instr.typeAssert (.iface 138 v) 120 136 true).run Try.prog w = .ok (.tuple #[.agg #[.int .i64 0, .int .i64 0, .int .i64 0], .bool false]) w := by kernel_rfl
theorem as_st_mv (v : Value) (w : World) : (Instr.typeAssert (.iface 139 v) 120 136 true).run Try.prog w = .ok (.tuple #[.agg #[.int .i64 0, .int .i64 0, .int .i64 0], .bool false]) w := by kernel_rfl
theorem as_rd_nil (w : World) : (Instr.typeAssert .nilIface 120 138 true).run Try.prog w = .ok (.tuple #[.agg #[.int .i64 0, .int .i64 0, .int .i64 0, .int .i64 0], .bool false]) w := by kernel_rfl
theorem as_rd_st (v : Value) (w : World) : (Instr.typeAssert (.iface 136 v) 120 138 true).run Try.prog w = .ok (.tuple #[.agg #[.int .i64 0, .int .i64 0, .int .i64 0, .int .i64 0], .bool false]) w := by kernel_rfl
theorem as_rd_rd (v : Value) (w : World) : (Instr.typeAssert (.iface 138 v) 120 138 true).run Try.prog w = .ok (.tuple #[v, .bool true]) w := by kernel_rfl
theorem as_rd_mv (v : Value) (w : World) : (Instr.typeAssert (.iface 139 v) 120 138 true).run Try.prog w = .ok (.tuple #[.agg #[.int .i64 0, .int .i64 0, .int .i64 0, .int .i64 0], .bool false]) w := by kernel_rfl
theorem as_mv_nil (w : World) : (Instr.typeAssert .nilIface 120 139 true).run Try.prog w = .ok (.tuple #[.agg #[.int .i64 0, .int .i64 0, .int .i64 0, .int .i64 0], .bool false]) w := by kernel_rfl
theorem as_mv_st (v : Value) (w : World) : (Instr.typeAssert (.iface 136 v) 120 139 true).run Try.prog w = .ok (.tuple #[.agg #[.int .i64 0, .int .i64 0, .int .i64 0, .int .i64 0], .bool false]) w := by kernel_rfl
theorem as_mv_rd (v : Value) (w : World) : (Instr.typeAssert (.iface 138 v) 120 139 true).run Try.prog w = .ok (.tuple #[.agg #[.int .i64 0, .int .i64 0, .int .i64 0, .int .i64 0], .bool false]) w := by kernel_rfl
theorem as_mv_mv (v : Value) (w : World) : (Instr.typeAssert (.iface 139 v) 120 139 true).run Try.prog w = .ok (.tuple #[v, .bool true]) w := by kernel_rfl
attribute [local go_sem] as_st_nil as_st_st as_st_rd as_st_mv as_rd_nil as_rd_st as_rd_rd as_rd_mv as_mv_nil as_mv_st as_mv_rd as_mv_mv
theorem shV_cases (p m o n a : Int) : (rollOk p m o n a = false ∧ shV p m o n a = .nilIface) ∨ (rollOk p m o n a = true ∧ ∃ u v, shV p m o n a = .iface u v) := by
  unfold shV
  cases hr : rollOk p m o n a with
  | false => exact .inl ⟨rfl, rfl⟩
  | true =>
    refine .inr ⟨rfl, ?_⟩
    rw [if_neg (show ¬ true = false by decide)]
    by_cases h1 : p = 1
    · exact ⟨_, _, if_pos h1⟩
    · rw [if_neg h1]
      by_cases h2 : p = 2
      · exact ⟨_, _, if_pos h2⟩
      · exact ⟨_, _, if_neg h2⟩
set_option maxRecDepth 100000 in
set_option maxHeartbeats 4000000 in
theorem impl_RollOk (p m o n a : Int) (w : World) : Calls Try.prog 64 #[rv p m o n a] w fun e w' => e = .returned (.bool (rollOk p m o n a)) ∧ w' = (w.alloc (rbox p m o n a 38)).alloc (rbox p m o n a 38) := by
  have C := hidIt (fun W => impl_shapeOf p m o n a W)
  rcases shV_cases p m o n a with ⟨e1, e2⟩ | ⟨e1, u, v, e2⟩
  · rw [e2] at C
    rw [e1]
    clear e1 e2
    go_enter Try.func64, Try.ntmps64
    go_wp2_with (fail)
    refine (C.out _).mono ?_
    rintro e w1 ⟨rfl, rfl⟩
    go_wp2_with (fail)
    go_ret
    exact ⟨rfl, rfl⟩
  · rw [e2] at C
    rw [e1]
    clear e1 e2
    go_enter Try.func64, Try.ntmps64
    go_wp2_with (fail)
    refine (C.out _).mono ?_
    rintro e w1 ⟨rfl, rfl⟩
    go_wp2_with (fail)
    go_ret
    exact ⟨rfl, rfl⟩
set_option maxRecDepth 100000 in
set_option maxHeartbeats 4000000 in
theorem impl_NewRoll (m o a : Int) (w : World) : Calls Try.prog 36 #[.int .i64 m, .int .i64 o, .int .i64 a] w fun e w' => e = .returned (.tuple #[rvt (newR m o a).1, .bool (newR m o a).2]) ∧ Below w.heap.size w w' := by
  have C := hidIt (fun W => impl_RollOk 1 m o 0 a W)
  cases hr : rollOk 1 m o 0 a with
  | false =>
    have e : newR m o a = ((0, 0, 0, 0, 0), false) := by simp [newR, hr]
    rw [e]
    rw [hr] at C
    clear e
    go_enter Try.func36, Try.ntmps36
    go_wp2_with (fail)
    refine (C.out _).mono ?_
    rintro e w1 ⟨rfl, rfl⟩
    go_wp2_with (fail)
    refine bodyPost_ret (v := .tuple #[rv 0 0 0 0 0, .bool false]) (by simp [results, Try.results36, go_sem]) rfl ⟨rfl, ?_⟩
    go_grown
  | true =>
    have e : newR m o a = ((1, m, o, 0, a), true) := by simp [newR, hr]
    rw [e]
    rw [hr] at C
    clear e
    go_enter Try.func36, Try.ntmps36
    go_wp2_with (fail)
    refine (C.out _).mono ?_
    rintro e w1 ⟨rfl, rfl⟩
    go_wp2_with (fail)
    refine bodyPost_ret (v := .tuple #[rv 1 m o 0 a, .bool true]) (by simp [results, Try.results36, go_sem]) rfl ⟨rfl, ?_⟩
    go_grown
end Go.Proofs.Ytllajhieocploaa.Ro
