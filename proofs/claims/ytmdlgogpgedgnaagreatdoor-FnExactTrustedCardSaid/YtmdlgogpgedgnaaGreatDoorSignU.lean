/-
  Signed of the program at any number; of the specification; two Sigs held against one another.
-/
import Derived.Test.YtmdlgogpgedgnaaGreatDoorSignS
namespace Go.Proofs.YtmdlgogpgedgnaaGreatDoor.Sg
open Go.ChangeShapes Go.WideShapes Go.ChangeAt Go.RowKit
open Cv Cu
theorem sgR_eq (n : Nat) (s : ByteArray) : sgR n s = ns (2791, 6375) (noN n s) := sgR.eq_1 n s
theorem pr (p : Nat × Nat) : (p.1, p.2) = p := rfl
theorem sgR_ok (n : Nat) (s : ByteArray) : okN ((sgR n s).1, (sgR n s).2) = true := by rw [pr, sgR_eq]; exact ns_ok ok_base _
theorem key_ok (n : Nat) : okN ((ns (2791, 6375) n).1, (ns (2791, 6375) n).2) = true := by rw [pr]; exact ns_ok ok_base _
/-- The challenge of what is signed. -/
def sgC (n : Nat) (s : ByteArray) : Nat := chN (sgR n s).1 (sgR n s).2 (ns (2791, 6375) n).1 (ns (2791, 6375) n).2 s
theorem sgC_eq (n : Nat) (s : ByteArray) : sgC n s = chN (sgR n s).1 (sgR n s).2 (ns (2791, 6375) n).1 (ns (2791, 6375) n).2 s := sgC.eq_1 n s
theorem sgC_lt (n : Nat) (s : ByteArray) : sgC n s < 2549 := by rw [sgC_eq]; exact chN_lt _ _ _ _ _
theorem sgT_eq (n : Nat) (s : ByteArray) : sgT n s = (noN n s + sgC n s * n) % 2549 := by rw [sgC_eq]; exact sgT.eq_1 n s
theorem noN_eq (n : Nat) (s : ByteArray) : noN n s = hashN (nums (numS n ++ blank ++ s)) % 2548 + 1 := noN.eq_1 n s
end Go.Proofs.YtmdlgogpgedgnaaGreatDoor.Sg
