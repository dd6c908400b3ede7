/-
  signerOf, RollOk, NewRoll and Signing of the program; which shape a value has.
-/
import Derived.Test.YtnnmnpognhplbaaRollI
import Derived.Handy
import Derived.WideLaws
namespace Go.Proofs.Ytnnmnpognhplbaa.Ro
open Go.ChangeShapes Go.WideShapes Go.ChangeAt Go.RowKit
set_option linter.unusedVariables false
theorem as_st_nil (w : World) : (Instr.typeAssert .nilIface 35 47 true).run Try.prog w = .ok (.tuple #[.agg #[.int .i64 0, .int .i64 0, .int .i64 0], .bool false]) w := by kernel_rfl
theorem as_st_st (v : Value) (w : World) : (Instr.typeAssert (.iface 47 v) 35 47 true).run Try.prog w = .ok (.tuple #[v, .bool true]) w := by kernel_rfl
theorem as_st_rd (v : Value) (w : World) : (Instr.typeAssert (.iface 49 v) 35 47 true).run Try.prog w = .ok (.tuple #[.agg #[.int .i64 0, .int .i64 0, .int .i64 0], .bool false]) w := by kernel_rfl
theorem as_st_mv (v : Value) (w : World) : (Instr.typeAssert (.iface 50 v) 35 47 true).run Try.prog w = .ok (.tuple #[.agg #[.int .i64 0, .int .i64 0, .int .i64 0], .bool false]) w := by kernel_rfl
theorem as_rd_nil (w : World) : (Instr.typeAssert .nilIface 35 49 true).run Try.prog w = .ok (.tuple #[.agg #[.int .i64 0, .int .i64 0, .int .i64 0, .int .i64 0], .bool false]) w := by kernel_rfl
theorem as_rd_st (v : Value) (w : World) : (Instr.typeAssert (.iface 47 v) 35 49 true).run Try.prog w = .ok (.tuple #[.agg #[.int .i64 0, .int .i64 0, .int .i64 0, .int .i64 0], .bool false]) w := by kernel_rfl
theorem as_rd_rd (v : Value) (w : World) : (Instr.typeAssert (.iface 49 v) 35 49 true).run Try.prog w = .ok (.tuple #[v, .bool true]) w := by kernel_rfl
theorem as_rd_mv (v : Value) (w : World) : (Instr.typeAssert (.iface 50 v) 35 49 true).run Try.prog w = .ok (.tuple #[.agg #[.int .i64 0, .int .i64 0, .int .i64 0, .int .i64 0], .bool false]) w := by kernel_rfl
theorem as_mv_nil (w : World) : (Instr.typeAssert .nilIface 35 50 true).run Try.prog w = .ok (.tuple #[.agg #[.int .i64 0, .int .i64 0, .int .i64 0, .int .i64 0], .bool false]) w := by kernel_rfl
theorem as_mv_st (v : Value) (w : World) : (Instr.typeAssert (.iface 47 v) 35 50 true).run Try.prog w = .ok (.tuple #[.agg #[.int .i64 0, .int .i64 0, .int .i64 0, .int .i64 0], .bool false]) w := by kernel_rfl
theorem as_mv_rd (v : Value) (w : World) : (Instr.typeAssert (.iface 49 v) 35 50 true).run Try.prog w = .ok (.tuple #[.agg #[.int .i64 0, .int .i64 0, .int .i64 0, .int .i64 0], .bool false]) w := by kernel_rfl
theorem as_mv_mv (v : Value) (w : World) : (Instr.typeAssert (.iface 50 v) 35 50 true).run Try.prog w = .ok (.tuple #[v, .bool true]) w := by kernel_rfl
attribute [local go_sem] as_st_nil as_st_st as_st_rd as_st_mv as_rd_nil as_rd_st as_rd_rd as_rd_mv as_mv_nil as_mv_st as_mv_rd as_mv_mv
end Go.Proofs.Ytnnmnpognhplbaa.Ro
