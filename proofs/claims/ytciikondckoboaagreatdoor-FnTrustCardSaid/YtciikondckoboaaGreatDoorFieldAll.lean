/-
  What the functions of chapter 1 answer, of the program and of the specification alike: at Elements the sum, the difference, the product, the power, the inverse and the root modulo 10007; -1 at any other int64. They turn nothing in memory.
-/
import Derived.Test.YtciikondckoboaaGreatDoorField
namespace Go.Proofs.YtciikondckoboaaGreatDoor.Fd
open Go.ChangeShapes Go.WideShapes Go.ChangeAt Go.RowKit
/-- The lesser root out of one. -/
def rt (q : Nat) : Nat := if q < (10007 - q) % 10007 then q else (10007 - q) % 10007
theorem rt_eq (q : Nat) (hq : q < 10007) : (rt q : Int) = if (q : Int) < 10007 - q then (q : Int) else (10007 - (q : Int)) % 10007 := by
  by_cases z : q = 0
  · subst z; decide
  · have e1 : (10007 - q) % 10007 = 10007 - q := Nat.mod_eq_of_lt (by omega)
    have e2 : (10007 - (q : Int)) % 10007 = 10007 - q := Int.emod_eq_of_lt (by omega) (by omega)
    unfold rt
    rw [e1, e2]
    split <;> split <;> omega












set_option maxRecDepth 100000 in
set_option maxHeartbeats 1600000 in
theorem spec_Root_yes (a : Nat) (w : World) (ha : a < 10007) (hr : Pl.pw a 2502 * Pl.pw a 2502 % 10007 = a) :
    Calls Tryz.prog 45 #[.int .i64 a] w fun e w' => e = .returned (.int .i64 (rt (Pl.pw a 2502))) ∧ w' = w := by
  have h1 : (0 : Int) ≤ a := by omega
  have h2 : (a : Int) < 10007 := by omega
  have h2' : (a : Int) ≤ 10006 := by omega
  have hq := Pl.pw_lt a 2502
  have L1 := fun w => l1Power_any a 2502 w ha (by decide)
  generalize Pl.pw a 2502 = q at hq L1 hr
  have b2 := mul_le q q hq hq
  have HL1 : Hid (∀ w, Calls Tryz.prog 44 #[.int .i64 a, .int .i64 2502] w fun e w' => e = .returned (.int .i64 q) ∧ w' = w) := L1
  clear L1
  have e1 : ((q : Int) * (q : Int) % 10007 != (a : Int)) = false := by rw [cast_mul_mod, hr]; simp
  have er := rt_eq q hq
  rw [er]
  clear hr er
  by_cases z : q = 0
  · subst z
    go_enter Tryz.func45, Tryz.ntmps45
    go_wp2_with (first | (go_at_call 44; refine (HL1.out _).mono ?_; rintro e w' ⟨rfl, rfl⟩) | go_in)
    go_ret
    exact ⟨rfl, rfl⟩
  · by_cases l : (q : Int) < 10007 - q
    · have l1 : (10007 - (q : Int)) % 10007 = 10007 - q := by omega
      have l2 : -(q : Int) % 10007 = 10007 - q := by omega
      rw [if_pos l]
      go_enter Tryz.func45, Tryz.ntmps45
      go_wp2_with (first | (go_at_call 44; refine (HL1.out _).mono ?_; rintro e w' ⟨rfl, rfl⟩) | go_in)
      go_ret
      exact ⟨rfl, rfl⟩
    · have l1 : (10007 - (q : Int)) % 10007 = 10007 - q := by omega
      have l2 : -(q : Int) % 10007 = 10007 - q := by omega
      rw [if_neg l, l1]
      go_enter Tryz.func45, Tryz.ntmps45
      go_wp2_with (first | (go_at_call 44; refine (HL1.out _).mono ?_; rintro e w' ⟨rfl, rfl⟩) | go_in)
      go_ret
      exact ⟨rfl, rfl⟩
set_option maxRecDepth 100000 in
set_option maxHeartbeats 1600000 in
theorem spec_Root_none (a : Nat) (w : World) (ha : a < 10007) (hr : ¬ Pl.pw a 2502 * Pl.pw a 2502 % 10007 = a) :
    Calls Tryz.prog 45 #[.int .i64 a] w fun e w' => e = .returned (.int .i64 (-1)) ∧ w' = w := by
  have h1 : (0 : Int) ≤ a := by omega
  have h2 : (a : Int) < 10007 := by omega
  have h2' : (a : Int) ≤ 10006 := by omega
  have hq := Pl.pw_lt a 2502
  have L1 := fun w => l1Power_any a 2502 w ha (by decide)
  generalize Pl.pw a 2502 = q at hq L1 hr
  have b2 := mul_le q q hq hq
  have HL1 : Hid (∀ w, Calls Tryz.prog 44 #[.int .i64 a, .int .i64 2502] w fun e w' => e = .returned (.int .i64 q) ∧ w' = w) := L1
  clear L1
  have e1 : ((q : Int) * (q : Int) % 10007 != (a : Int)) = true := by rw [cast_mul_mod]; simp; omega
  clear hr
  go_enter Tryz.func45, Tryz.ntmps45
  go_wp2_with (first | (go_at_call 44; refine (HL1.out _).mono ?_; rintro e w' ⟨rfl, rfl⟩) | go_in)
  go_ret
  exact ⟨rfl, rfl⟩
set_option maxRecDepth 100000 in
set_option maxHeartbeats 800000 in
theorem spec_Root_no (a : Int) (w : World) (h : ¬ (0 ≤ a ∧ a < 10007)) :
    Calls Tryz.prog 45 #[.int .i64 a] w fun e w' => e = .returned (.int .i64 (-1)) ∧ w' = w := by
  by_cases h1 : 0 ≤ a
  · have h2 : ¬ a < 10007 := by omega
    have h2' : ¬ a ≤ 10006 := by omega
    clear h
    go_enter Tryz.func45, Tryz.ntmps45
    go_wp2
    go_ret
    exact ⟨rfl, rfl⟩
  · clear h
    go_enter Tryz.func45, Tryz.ntmps45
    go_wp2
    go_ret
    exact ⟨rfl, rfl⟩
end Go.Proofs.YtciikondckoboaaGreatDoor.Fd
