/-
  What the functions of chapter 1 that go by squares answer: l1Power of the specification and power of the program, at Elements and numbers up to 2^40, hand back a to the n modulo 10007, and turn nothing in memory.
-/
import Derived.Test.YtceddedlfdgbhaaGreatDoorRows
import Derived.Test.YtceddedlfdgbhaaGreatDoorPlain
import Derived.WalkKit
import Derived.ProofKit
import Derived.Below
namespace Go.Proofs.YtceddedlfdgbhaaGreatDoor.Fd
open Go.ChangeShapes Go.WideShapes Go.ChangeAt Go.RowKit
theorem ret_int {k : IntKind} {a b : Int} (h : a = b) : Ending.returned (.int k a) = .returned (.int k b) := by rw [h]
theorem cast_mul_mod (a b : Nat) : ((a : Int) * (b : Int)) % 10007 = ((a * b % 10007 : Nat) : Int) := by simp
theorem mul_le (a b : Nat) (ha : a < 10007) (hb : b < 10007) : (a : Int) * (b : Int) ≤ 100120036 ∧ 0 ≤ (a : Int) * (b : Int) := by
  have h : a * b ≤ 10006 * 10006 := Nat.mul_le_mul (by omega) (by omega)
  have h2 : (a : Int) * (b : Int) = ((a * b : Nat) : Int) := by simp
  rw [h2]; omega

end Go.Proofs.YtceddedlfdgbhaaGreatDoor.Fd
