/-
  The functions of chapter 2 of the specification: PointOk at any int64, l2Added at Points. They make memory, and turn nothing that was.
-/
import Derived.Test.YtlmpalkjagekjaaCurveI
namespace Go.Proofs.Ytlmpalkjagekjaa.Cv
open Go.ChangeShapes Go.WideShapes Go.ChangeAt Go.RowKit
open Cu
theorem mu_cast (a b : Nat) : ((mu a b : Nat) : Int) = (a : Int) * (b : Int) % 10007 := by unfold mu; simp
theorem pl_cast (a b p q : Nat) : ((pl (mu a b) (mu p q) : Nat) : Int) = ((a : Int) * b + (p : Int) * q) % 10007 := by
  unfold pl mu
  rw [← Nat.add_mod]; simp
theorem mi_lin (A B : Nat) : (((B % 10007 + 10007 - A % 10007) % 10007 : Nat) : Int) = ((B : Int) % 10007 + 10007 - A) % 10007 := by omega
theorem mi_cast (a b p q : Nat) : ((mi (mu a b) (mu p q) : Nat) : Int) = ((a : Int) * b % 10007 + 10007 - (p : Int) * q) % 10007 := by
  have e := mi_lin (p * q) (a * b)
  rw [Int.natCast_mul, Int.natCast_mul] at e
  exact e
theorem eqn_cast (x y : Nat) : (((x : Int) * x + (y : Int) * y) % 10007 == (1 + 23 * ((x : Int) * x % 10007 * ((y : Int) * y % 10007) % 10007)) % 10007) = onB x y := by
  unfold onB
  rw [← beq_cast]
  have e1 : ((pl (mu x x) (mu y y) : Nat) : Int) = ((x : Int) * x + (y : Int) * y) % 10007 := pl_cast x x y y
  have e2 : ((pl 1 (mu (mu (mu x x) (mu y y)) 23) : Nat) : Int) = (1 + 23 * ((x : Int) * x % 10007 * ((y : Int) * y % 10007) % 10007)) % 10007 := by
    rw [← mu_cast x, ← mu_cast y, ← mu_cast (mu x x)]
    generalize mu (mu x x) (mu y y) = m
    unfold pl mu; omega
  rw [e1, e2]
end Go.Proofs.Ytlmpalkjagekjaa.Cv
