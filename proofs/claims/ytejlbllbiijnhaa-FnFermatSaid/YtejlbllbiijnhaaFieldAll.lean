/-
  What the functions of chapter 1 answer, of the program and of the specification alike: at Elements the sum, the difference, the product, the power, the inverse and the root modulo 10007; -1 at any other int64. They turn nothing in memory.
-/
import Derived.Test.YtejlbllbiijnhaaField
namespace Go.Proofs.Ytejlbllbiijnhaa.Fd
open Go.ChangeShapes Go.WideShapes Go.ChangeAt Go.RowKit
/-- The lesser root out of one. -/
def rt (q : Nat) : Nat := if q < (10007 - q) % 10007 then q else (10007 - q) % 10007
theorem rt_eq (q : Nat) (hq : q < 10007) : (rt q : Int) = if (q : Int) < 10007 - q then (q : Int) else (10007 - (q : Int)) % 10007 := by
  by_cases z : q = 0
  · subst z; decide
  · have e1 : (10007 - q) % 10007 = 10007 - q := Nat.mod_eq_of_lt (by omega)
    have e2 : (10007 - (q : Int)) % 10007 = 10007 - q := Int.emod_eq_of_lt (by omega) (by omega)
    unfold rt
    rw [e1, e2]
    split <;> split <;> omega

set_option maxRecDepth 100000 in
set_option maxHeartbeats 800000 in
theorem impl_Sum (a b : Nat) (w : World) (ha : a < 10007) (hb : b < 10007) :
    Calls Try.prog 8 #[.int .i64 a, .int .i64 b] w fun e w' => e = .returned (.int .i64 (((a + b) % 10007 : Nat) : Int)) ∧ w' = w := by
  have h1 : (0 : Int) ≤ a := by omega
  have h2 : (a : Int) < 10007 := by omega
  have h2' : (a : Int) ≤ 10006 := by omega
  have h3 : (0 : Int) ≤ b := by omega
  have h4 : (b : Int) < 10007 := by omega
  have h4' : (b : Int) ≤ 10006 := by omega
  go_enter Try.func8, Try.ntmps8
  go_wp2
  go_ret
  exact ⟨ret_int (by omega), rfl⟩
set_option maxRecDepth 100000 in
set_option maxHeartbeats 800000 in
theorem impl_Sum_no (a b : Int) (w : World) (h : ¬ (0 ≤ a ∧ a < 10007) ∨ ¬ (0 ≤ b ∧ b < 10007)) :
    Calls Try.prog 8 #[.int .i64 a, .int .i64 b] w fun e w' => e = .returned (.int .i64 (-1)) ∧ w' = w := by
  by_cases h1 : 0 ≤ a
  · by_cases h2 : a < 10007
    · have h2' : a ≤ 10006 := by omega
      by_cases h3 : 0 ≤ b
      · have h4 : ¬ b < 10007 := by omega
        have h4' : ¬ b ≤ 10006 := by omega
        clear h
        go_enter Try.func8, Try.ntmps8
        go_wp2
        go_ret
        exact ⟨rfl, rfl⟩
      · clear h
        go_enter Try.func8, Try.ntmps8
        go_wp2
        go_ret
        exact ⟨rfl, rfl⟩
    · have h2' : ¬ a ≤ 10006 := by omega
      clear h
      go_enter Try.func8, Try.ntmps8
      go_wp2
      go_ret
      exact ⟨rfl, rfl⟩
  · clear h
    go_enter Try.func8, Try.ntmps8
    go_wp2
    go_ret
    exact ⟨rfl, rfl⟩

set_option maxRecDepth 100000 in
set_option maxHeartbeats 800000 in
theorem impl_Less (a b : Nat) (w : World) (ha : a < 10007) (hb : b < 10007) :
    Calls Try.prog 9 #[.int .i64 a, .int .i64 b] w fun e w' => e = .returned (.int .i64 (((a + 10007 - b) % 10007 : Nat) : Int)) ∧ w' = w := by
  have h1 : (0 : Int) ≤ a := by omega
  have h2 : (a : Int) < 10007 := by omega
  have h2' : (a : Int) ≤ 10006 := by omega
  have h3 : (0 : Int) ≤ b := by omega
  have h4 : (b : Int) < 10007 := by omega
  have h4' : (b : Int) ≤ 10006 := by omega
  go_enter Try.func9, Try.ntmps9
  go_wp2
  go_ret
  exact ⟨ret_int (by omega), rfl⟩
set_option maxRecDepth 100000 in
set_option maxHeartbeats 800000 in
theorem impl_Less_no (a b : Int) (w : World) (h : ¬ (0 ≤ a ∧ a < 10007) ∨ ¬ (0 ≤ b ∧ b < 10007)) :
    Calls Try.prog 9 #[.int .i64 a, .int .i64 b] w fun e w' => e = .returned (.int .i64 (-1)) ∧ w' = w := by
  by_cases h1 : 0 ≤ a
  · by_cases h2 : a < 10007
    · have h2' : a ≤ 10006 := by omega
      by_cases h3 : 0 ≤ b
      · have h4 : ¬ b < 10007 := by omega
        have h4' : ¬ b ≤ 10006 := by omega
        clear h
        go_enter Try.func9, Try.ntmps9
        go_wp2
        go_ret
        exact ⟨rfl, rfl⟩
      · clear h
        go_enter Try.func9, Try.ntmps9
        go_wp2
        go_ret
        exact ⟨rfl, rfl⟩
    · have h2' : ¬ a ≤ 10006 := by omega
      clear h
      go_enter Try.func9, Try.ntmps9
      go_wp2
      go_ret
      exact ⟨rfl, rfl⟩
  · clear h
    go_enter Try.func9, Try.ntmps9
    go_wp2
    go_ret
    exact ⟨rfl, rfl⟩

set_option maxRecDepth 100000 in
set_option maxHeartbeats 800000 in
theorem impl_Product (a b : Nat) (w : World) (ha : a < 10007) (hb : b < 10007) :
    Calls Try.prog 7 #[.int .i64 a, .int .i64 b] w fun e w' => e = .returned (.int .i64 ((a * b % 10007 : Nat) : Int)) ∧ w' = w := by
  have h1 : (0 : Int) ≤ a := by omega
  have h2 : (a : Int) < 10007 := by omega
  have h2' : (a : Int) ≤ 10006 := by omega
  have h3 : (0 : Int) ≤ b := by omega
  have h4 : (b : Int) < 10007 := by omega
  have h4' : (b : Int) ≤ 10006 := by omega
  have b1 := mul_le a b ha hb
  go_enter Try.func7, Try.ntmps7
  go_wp2
  go_ret
  exact ⟨ret_int (cast_mul_mod a b), rfl⟩
set_option maxRecDepth 100000 in
set_option maxHeartbeats 800000 in
theorem impl_Product_no (a b : Int) (w : World) (h : ¬ (0 ≤ a ∧ a < 10007) ∨ ¬ (0 ≤ b ∧ b < 10007)) :
    Calls Try.prog 7 #[.int .i64 a, .int .i64 b] w fun e w' => e = .returned (.int .i64 (-1)) ∧ w' = w := by
  by_cases h1 : 0 ≤ a
  · by_cases h2 : a < 10007
    · have h2' : a ≤ 10006 := by omega
      by_cases h3 : 0 ≤ b
      · have h4 : ¬ b < 10007 := by omega
        have h4' : ¬ b ≤ 10006 := by omega
        clear h
        go_enter Try.func7, Try.ntmps7
        go_wp2
        go_ret
        exact ⟨rfl, rfl⟩
      · clear h
        go_enter Try.func7, Try.ntmps7
        go_wp2
        go_ret
        exact ⟨rfl, rfl⟩
    · have h2' : ¬ a ≤ 10006 := by omega
      clear h
      go_enter Try.func7, Try.ntmps7
      go_wp2
      go_ret
      exact ⟨rfl, rfl⟩
  · clear h
    go_enter Try.func7, Try.ntmps7
    go_wp2
    go_ret
    exact ⟨rfl, rfl⟩

set_option maxRecDepth 100000 in
set_option maxHeartbeats 800000 in
theorem impl_Power (a n : Nat) (w : World) (ha : a < 10007) (hn : n ≤ 1099511627776) :
    Calls Try.prog 11 #[.int .i64 a, .int .i64 n] w fun e w' => e = .returned (.int .i64 (Pl.pw a n)) ∧ w' = w := by
  have h1 : (0 : Int) ≤ a := by omega
  have h2 : (a : Int) < 10007 := by omega
  have h2' : (a : Int) ≤ 10006 := by omega
  have h3 : (n : Int) ≤ 1099511627776 := by omega
  have h3' : ¬ (1099511627776 : Int) < (n : Int) := by omega
  have h4 : (0 : Int) ≤ n := by omega
  have h4' : ¬ (n : Int) < 0 := by omega
  go_enter Try.func11, Try.ntmps11
  go_wp2_with (first | (go_at_call 33; refine (power_any a n _ ha hn).mono ?_; rintro e w' ⟨rfl, rfl⟩) | go_in)
  go_ret
  exact ⟨rfl, rfl⟩
set_option maxRecDepth 100000 in
set_option maxHeartbeats 800000 in
theorem impl_Power_no (a n : Int) (w : World) (h : ¬ (0 ≤ a ∧ a < 10007) ∨ ¬ (0 ≤ n ∧ n ≤ 1099511627776)) :
    Calls Try.prog 11 #[.int .i64 a, .int .i64 n] w fun e w' => e = .returned (.int .i64 (-1)) ∧ w' = w := by
  by_cases h1 : 0 ≤ a
  · by_cases h2 : a < 10007
    · have h2' : a ≤ 10006 := by omega
      by_cases h3 : 0 ≤ n
      · have h4 : ¬ n ≤ 1099511627776 := by omega
        have h4' : 1099511627776 < n := by omega
        have h3' : ¬ n < 0 := by omega
        clear h
        go_enter Try.func11, Try.ntmps11
        go_wp2
        go_ret
        exact ⟨rfl, rfl⟩
      · have h3' : n < 0 := by omega
        clear h
        go_enter Try.func11, Try.ntmps11
        go_wp2
        go_ret
        exact ⟨rfl, rfl⟩
    · have h2' : ¬ a ≤ 10006 := by omega
      clear h
      go_enter Try.func11, Try.ntmps11
      go_wp2
      go_ret
      exact ⟨rfl, rfl⟩
  · clear h
    go_enter Try.func11, Try.ntmps11
    go_wp2
    go_ret
    exact ⟨rfl, rfl⟩

set_option maxRecDepth 100000 in
set_option maxHeartbeats 800000 in
theorem impl_Inverse (a : Nat) (w : World) (ha : a < 10007) :
    Calls Try.prog 16 #[.int .i64 a] w fun e w' => e = .returned (.int .i64 (Pl.pw a 10005)) ∧ w' = w := by
  have h1 : (0 : Int) ≤ a := by omega
  have h2 : (a : Int) < 10007 := by omega
  have h2' : (a : Int) ≤ 10006 := by omega
  go_enter Try.func16, Try.ntmps16
  go_wp2_with (first | (go_at_call 33; refine (power_any a 10005 _ ha (by decide)).mono ?_; rintro e w' ⟨rfl, rfl⟩) | go_in)
  go_ret
  exact ⟨rfl, rfl⟩
set_option maxRecDepth 100000 in
set_option maxHeartbeats 800000 in
theorem impl_Inverse_no (a : Int) (w : World) (h : ¬ (0 ≤ a ∧ a < 10007)) :
    Calls Try.prog 16 #[.int .i64 a] w fun e w' => e = .returned (.int .i64 (-1)) ∧ w' = w := by
  by_cases h1 : 0 ≤ a
  · have h2 : ¬ a < 10007 := by omega
    have h2' : ¬ a ≤ 10006 := by omega
    clear h
    go_enter Try.func16, Try.ntmps16
    go_wp2
    go_ret
    exact ⟨rfl, rfl⟩
  · clear h
    go_enter Try.func16, Try.ntmps16
    go_wp2
    go_ret
    exact ⟨rfl, rfl⟩

set_option maxRecDepth 100000 in
set_option maxHeartbeats 1600000 in
theorem impl_Root_yes (a : Nat) (w : World) (ha : a < 10007) (hr : Pl.pw a 2502 * Pl.pw a 2502 % 10007 = a) :
    Calls Try.prog 22 #[.int .i64 a] w fun e w' => e = .returned (.int .i64 (rt (Pl.pw a 2502))) ∧ w' = w := by
  have h1 : (0 : Int) ≤ a := by omega
  have h2 : (a : Int) < 10007 := by omega
  have h2' : (a : Int) ≤ 10006 := by omega
  have hq := Pl.pw_lt a 2502
  have L1 := fun w => power_any a 2502 w ha (by decide)
  generalize Pl.pw a 2502 = q at hq L1 hr
  have b2 := mul_le q q hq hq
  have HL1 : Hid (∀ w, Calls Try.prog 33 #[.int .i64 a, .int .i64 2502] w fun e w' => e = .returned (.int .i64 q) ∧ w' = w) := L1
  clear L1
  have e1 : ((q : Int) * (q : Int) % 10007 != (a : Int)) = false := by rw [cast_mul_mod, hr]; simp
  have er := rt_eq q hq
  rw [er]
  clear hr er
  by_cases z : q = 0
  · subst z
    go_enter Try.func22, Try.ntmps22
    go_wp2_with (first | (go_at_call 33; refine (HL1.out _).mono ?_; rintro e w' ⟨rfl, rfl⟩) | go_in)
    go_ret
    exact ⟨rfl, rfl⟩
  · by_cases l : (q : Int) < 10007 - q
    · have l1 : (10007 - (q : Int)) % 10007 = 10007 - q := by omega
      have l2 : -(q : Int) % 10007 = 10007 - q := by omega
      rw [if_pos l]
      go_enter Try.func22, Try.ntmps22
      go_wp2_with (first | (go_at_call 33; refine (HL1.out _).mono ?_; rintro e w' ⟨rfl, rfl⟩) | go_in)
      go_ret
      exact ⟨rfl, rfl⟩
    · have l1 : (10007 - (q : Int)) % 10007 = 10007 - q := by omega
      have l2 : -(q : Int) % 10007 = 10007 - q := by omega
      rw [if_neg l, l1]
      go_enter Try.func22, Try.ntmps22
      go_wp2_with (first | (go_at_call 33; refine (HL1.out _).mono ?_; rintro e w' ⟨rfl, rfl⟩) | go_in)
      go_ret
      exact ⟨rfl, rfl⟩
set_option maxRecDepth 100000 in
set_option maxHeartbeats 1600000 in
theorem impl_Root_none (a : Nat) (w : World) (ha : a < 10007) (hr : ¬ Pl.pw a 2502 * Pl.pw a 2502 % 10007 = a) :
    Calls Try.prog 22 #[.int .i64 a] w fun e w' => e = .returned (.int .i64 (-1)) ∧ w' = w := by
  have h1 : (0 : Int) ≤ a := by omega
  have h2 : (a : Int) < 10007 := by omega
  have h2' : (a : Int) ≤ 10006 := by omega
  have hq := Pl.pw_lt a 2502
  have L1 := fun w => power_any a 2502 w ha (by decide)
  generalize Pl.pw a 2502 = q at hq L1 hr
  have b2 := mul_le q q hq hq
  have HL1 : Hid (∀ w, Calls Try.prog 33 #[.int .i64 a, .int .i64 2502] w fun e w' => e = .returned (.int .i64 q) ∧ w' = w) := L1
  clear L1
  have e1 : ((q : Int) * (q : Int) % 10007 != (a : Int)) = true := by rw [cast_mul_mod]; simp; omega
  clear hr
  go_enter Try.func22, Try.ntmps22
  go_wp2_with (first | (go_at_call 33; refine (HL1.out _).mono ?_; rintro e w' ⟨rfl, rfl⟩) | go_in)
  go_ret
  exact ⟨rfl, rfl⟩
set_option maxRecDepth 100000 in
set_option maxHeartbeats 800000 in
theorem impl_Root_no (a : Int) (w : World) (h : ¬ (0 ≤ a ∧ a < 10007)) :
    Calls Try.prog 22 #[.int .i64 a] w fun e w' => e = .returned (.int .i64 (-1)) ∧ w' = w := by
  by_cases h1 : 0 ≤ a
  · have h2 : ¬ a < 10007 := by omega
    have h2' : ¬ a ≤ 10006 := by omega
    clear h
    go_enter Try.func22, Try.ntmps22
    go_wp2
    go_ret
    exact ⟨rfl, rfl⟩
  · clear h
    go_enter Try.func22, Try.ntmps22
    go_wp2
    go_ret
    exact ⟨rfl, rfl⟩

set_option maxRecDepth 100000 in
set_option maxHeartbeats 800000 in
theorem spec_Sum (a b : Nat) (w : World) (ha : a < 10007) (hb : b < 10007) :
    Calls Try.prog 13 #[.int .i64 a, .int .i64 b] w fun e w' => e = .returned (.int .i64 (((a + b) % 10007 : Nat) : Int)) ∧ w' = w := by
  have h1 : (0 : Int) ≤ a := by omega
  have h2 : (a : Int) < 10007 := by omega
  have h2' : (a : Int) ≤ 10006 := by omega
  have h3 : (0 : Int) ≤ b := by omega
  have h4 : (b : Int) < 10007 := by omega
  have h4' : (b : Int) ≤ 10006 := by omega
  go_enter Try.func13, Try.ntmps13
  go_wp2
  go_ret
  exact ⟨ret_int (by omega), rfl⟩
set_option maxRecDepth 100000 in
set_option maxHeartbeats 800000 in
theorem spec_Sum_no (a b : Int) (w : World) (h : ¬ (0 ≤ a ∧ a < 10007) ∨ ¬ (0 ≤ b ∧ b < 10007)) :
    Calls Try.prog 13 #[.int .i64 a, .int .i64 b] w fun e w' => e = .returned (.int .i64 (-1)) ∧ w' = w := by
  by_cases h1 : 0 ≤ a
  · by_cases h2 : a < 10007
    · have h2' : a ≤ 10006 := by omega
      by_cases h3 : 0 ≤ b
      · have h4 : ¬ b < 10007 := by omega
        have h4' : ¬ b ≤ 10006 := by omega
        clear h
        go_enter Try.func13, Try.ntmps13
        go_wp2
        go_ret
        exact ⟨rfl, rfl⟩
      · clear h
        go_enter Try.func13, Try.ntmps13
        go_wp2
        go_ret
        exact ⟨rfl, rfl⟩
    · have h2' : ¬ a ≤ 10006 := by omega
      clear h
      go_enter Try.func13, Try.ntmps13
      go_wp2
      go_ret
      exact ⟨rfl, rfl⟩
  · clear h
    go_enter Try.func13, Try.ntmps13
    go_wp2
    go_ret
    exact ⟨rfl, rfl⟩

set_option maxRecDepth 100000 in
set_option maxHeartbeats 800000 in
theorem spec_Less (a b : Nat) (w : World) (ha : a < 10007) (hb : b < 10007) :
    Calls Try.prog 14 #[.int .i64 a, .int .i64 b] w fun e w' => e = .returned (.int .i64 (((a + 10007 - b) % 10007 : Nat) : Int)) ∧ w' = w := by
  have h1 : (0 : Int) ≤ a := by omega
  have h2 : (a : Int) < 10007 := by omega
  have h2' : (a : Int) ≤ 10006 := by omega
  have h3 : (0 : Int) ≤ b := by omega
  have h4 : (b : Int) < 10007 := by omega
  have h4' : (b : Int) ≤ 10006 := by omega
  go_enter Try.func14, Try.ntmps14
  go_wp2
  go_ret
  exact ⟨ret_int (by omega), rfl⟩
set_option maxRecDepth 100000 in
set_option maxHeartbeats 800000 in
theorem spec_Less_no (a b : Int) (w : World) (h : ¬ (0 ≤ a ∧ a < 10007) ∨ ¬ (0 ≤ b ∧ b < 10007)) :
    Calls Try.prog 14 #[.int .i64 a, .int .i64 b] w fun e w' => e = .returned (.int .i64 (-1)) ∧ w' = w := by
  by_cases h1 : 0 ≤ a
  · by_cases h2 : a < 10007
    · have h2' : a ≤ 10006 := by omega
      by_cases h3 : 0 ≤ b
      · have h4 : ¬ b < 10007 := by omega
        have h4' : ¬ b ≤ 10006 := by omega
        clear h
        go_enter Try.func14, Try.ntmps14
        go_wp2
        go_ret
        exact ⟨rfl, rfl⟩
      · clear h
        go_enter Try.func14, Try.ntmps14
        go_wp2
        go_ret
        exact ⟨rfl, rfl⟩
    · have h2' : ¬ a ≤ 10006 := by omega
      clear h
      go_enter Try.func14, Try.ntmps14
      go_wp2
      go_ret
      exact ⟨rfl, rfl⟩
  · clear h
    go_enter Try.func14, Try.ntmps14
    go_wp2
    go_ret
    exact ⟨rfl, rfl⟩

set_option maxRecDepth 100000 in
set_option maxHeartbeats 800000 in
theorem spec_Product (a b : Nat) (w : World) (ha : a < 10007) (hb : b < 10007) :
    Calls Try.prog 12 #[.int .i64 a, .int .i64 b] w fun e w' => e = .returned (.int .i64 ((a * b % 10007 : Nat) : Int)) ∧ w' = w := by
  have h1 : (0 : Int) ≤ a := by omega
  have h2 : (a : Int) < 10007 := by omega
  have h2' : (a : Int) ≤ 10006 := by omega
  have h3 : (0 : Int) ≤ b := by omega
  have h4 : (b : Int) < 10007 := by omega
  have h4' : (b : Int) ≤ 10006 := by omega
  have b1 := mul_le a b ha hb
  go_enter Try.func12, Try.ntmps12
  go_wp2
  go_ret
  exact ⟨ret_int (cast_mul_mod a b), rfl⟩
set_option maxRecDepth 100000 in
set_option maxHeartbeats 800000 in
theorem spec_Product_no (a b : Int) (w : World) (h : ¬ (0 ≤ a ∧ a < 10007) ∨ ¬ (0 ≤ b ∧ b < 10007)) :
    Calls Try.prog 12 #[.int .i64 a, .int .i64 b] w fun e w' => e = .returned (.int .i64 (-1)) ∧ w' = w := by
  by_cases h1 : 0 ≤ a
  · by_cases h2 : a < 10007
    · have h2' : a ≤ 10006 := by omega
      by_cases h3 : 0 ≤ b
      · have h4 : ¬ b < 10007 := by omega
        have h4' : ¬ b ≤ 10006 := by omega
        clear h
        go_enter Try.func12, Try.ntmps12
        go_wp2
        go_ret
        exact ⟨rfl, rfl⟩
      · clear h
        go_enter Try.func12, Try.ntmps12
        go_wp2
        go_ret
        exact ⟨rfl, rfl⟩
    · have h2' : ¬ a ≤ 10006 := by omega
      clear h
      go_enter Try.func12, Try.ntmps12
      go_wp2
      go_ret
      exact ⟨rfl, rfl⟩
  · clear h
    go_enter Try.func12, Try.ntmps12
    go_wp2
    go_ret
    exact ⟨rfl, rfl⟩

set_option maxRecDepth 100000 in
set_option maxHeartbeats 800000 in
theorem spec_Power (a n : Nat) (w : World) (ha : a < 10007) (hn : n ≤ 1099511627776) :
    Calls Try.prog 15 #[.int .i64 a, .int .i64 n] w fun e w' => e = .returned (.int .i64 (Pl.pw a n)) ∧ w' = w := by
  have h1 : (0 : Int) ≤ a := by omega
  have h2 : (a : Int) < 10007 := by omega
  have h2' : (a : Int) ≤ 10006 := by omega
  have h3 : (n : Int) ≤ 1099511627776 := by omega
  have h3' : ¬ (1099511627776 : Int) < (n : Int) := by omega
  have h4 : (0 : Int) ≤ n := by omega
  have h4' : ¬ (n : Int) < 0 := by omega
  go_enter Try.func15, Try.ntmps15
  go_wp2_with (first | (go_at_call 35; refine (l1Power_any a n _ ha hn).mono ?_; rintro e w' ⟨rfl, rfl⟩) | go_in)
  go_ret
  exact ⟨rfl, rfl⟩
set_option maxRecDepth 100000 in
set_option maxHeartbeats 800000 in
theorem spec_Power_no (a n : Int) (w : World) (h : ¬ (0 ≤ a ∧ a < 10007) ∨ ¬ (0 ≤ n ∧ n ≤ 1099511627776)) :
    Calls Try.prog 15 #[.int .i64 a, .int .i64 n] w fun e w' => e = .returned (.int .i64 (-1)) ∧ w' = w := by
  by_cases h1 : 0 ≤ a
  · by_cases h2 : a < 10007
    · have h2' : a ≤ 10006 := by omega
      by_cases h3 : 0 ≤ n
      · have h4 : ¬ n ≤ 1099511627776 := by omega
        have h4' : 1099511627776 < n := by omega
        have h3' : ¬ n < 0 := by omega
        clear h
        go_enter Try.func15, Try.ntmps15
        go_wp2
        go_ret
        exact ⟨rfl, rfl⟩
      · have h3' : n < 0 := by omega
        clear h
        go_enter Try.func15, Try.ntmps15
        go_wp2
        go_ret
        exact ⟨rfl, rfl⟩
    · have h2' : ¬ a ≤ 10006 := by omega
      clear h
      go_enter Try.func15, Try.ntmps15
      go_wp2
      go_ret
      exact ⟨rfl, rfl⟩
  · clear h
    go_enter Try.func15, Try.ntmps15
    go_wp2
    go_ret
    exact ⟨rfl, rfl⟩

set_option maxRecDepth 100000 in
set_option maxHeartbeats 800000 in
theorem spec_Inverse (a : Nat) (w : World) (ha : a < 10007) :
    Calls Try.prog 17 #[.int .i64 a] w fun e w' => e = .returned (.int .i64 (Pl.pw a 10005)) ∧ w' = w := by
  have h1 : (0 : Int) ≤ a := by omega
  have h2 : (a : Int) < 10007 := by omega
  have h2' : (a : Int) ≤ 10006 := by omega
  go_enter Try.func17, Try.ntmps17
  go_wp2_with (first | (go_at_call 35; refine (l1Power_any a 10005 _ ha (by decide)).mono ?_; rintro e w' ⟨rfl, rfl⟩) | go_in)
  go_ret
  exact ⟨rfl, rfl⟩
set_option maxRecDepth 100000 in
set_option maxHeartbeats 800000 in
theorem spec_Inverse_no (a : Int) (w : World) (h : ¬ (0 ≤ a ∧ a < 10007)) :
    Calls Try.prog 17 #[.int .i64 a] w fun e w' => e = .returned (.int .i64 (-1)) ∧ w' = w := by
  by_cases h1 : 0 ≤ a
  · have h2 : ¬ a < 10007 := by omega
    have h2' : ¬ a ≤ 10006 := by omega
    clear h
    go_enter Try.func17, Try.ntmps17
    go_wp2
    go_ret
    exact ⟨rfl, rfl⟩
  · clear h
    go_enter Try.func17, Try.ntmps17
    go_wp2
    go_ret
    exact ⟨rfl, rfl⟩

set_option maxRecDepth 100000 in
set_option maxHeartbeats 1600000 in
theorem spec_Root_yes (a : Nat) (w : World) (ha : a < 10007) (hr : Pl.pw a 2502 * Pl.pw a 2502 % 10007 = a) :
    Calls Try.prog 23 #[.int .i64 a] w fun e w' => e = .returned (.int .i64 (rt (Pl.pw a 2502))) ∧ w' = w := by
  have h1 : (0 : Int) ≤ a := by omega
  have h2 : (a : Int) < 10007 := by omega
  have h2' : (a : Int) ≤ 10006 := by omega
  have hq := Pl.pw_lt a 2502
  have L1 := fun w => l1Power_any a 2502 w ha (by decide)
  generalize Pl.pw a 2502 = q at hq L1 hr
  have b2 := mul_le q q hq hq
  have HL1 : Hid (∀ w, Calls Try.prog 35 #[.int .i64 a, .int .i64 2502] w fun e w' => e = .returned (.int .i64 q) ∧ w' = w) := L1
  clear L1
  have e1 : ((q : Int) * (q : Int) % 10007 != (a : Int)) = false := by rw [cast_mul_mod, hr]; simp
  have er := rt_eq q hq
  rw [er]
  clear hr er
  by_cases z : q = 0
  · subst z
    go_enter Try.func23, Try.ntmps23
    go_wp2_with (first | (go_at_call 35; refine (HL1.out _).mono ?_; rintro e w' ⟨rfl, rfl⟩) | go_in)
    go_ret
    exact ⟨rfl, rfl⟩
  · by_cases l : (q : Int) < 10007 - q
    · have l1 : (10007 - (q : Int)) % 10007 = 10007 - q := by omega
      have l2 : -(q : Int) % 10007 = 10007 - q := by omega
      rw [if_pos l]
      go_enter Try.func23, Try.ntmps23
      go_wp2_with (first | (go_at_call 35; refine (HL1.out _).mono ?_; rintro e w' ⟨rfl, rfl⟩) | go_in)
      go_ret
      exact ⟨rfl, rfl⟩
    · have l1 : (10007 - (q : Int)) % 10007 = 10007 - q := by omega
      have l2 : -(q : Int) % 10007 = 10007 - q := by omega
      rw [if_neg l, l1]
      go_enter Try.func23, Try.ntmps23
      go_wp2_with (first | (go_at_call 35; refine (HL1.out _).mono ?_; rintro e w' ⟨rfl, rfl⟩) | go_in)
      go_ret
      exact ⟨rfl, rfl⟩
set_option maxRecDepth 100000 in
set_option maxHeartbeats 1600000 in
theorem spec_Root_none (a : Nat) (w : World) (ha : a < 10007) (hr : ¬ Pl.pw a 2502 * Pl.pw a 2502 % 10007 = a) :
    Calls Try.prog 23 #[.int .i64 a] w fun e w' => e = .returned (.int .i64 (-1)) ∧ w' = w := by
  have h1 : (0 : Int) ≤ a := by omega
  have h2 : (a : Int) < 10007 := by omega
  have h2' : (a : Int) ≤ 10006 := by omega
  have hq := Pl.pw_lt a 2502
  have L1 := fun w => l1Power_any a 2502 w ha (by decide)
  generalize Pl.pw a 2502 = q at hq L1 hr
  have b2 := mul_le q q hq hq
  have HL1 : Hid (∀ w, Calls Try.prog 35 #[.int .i64 a, .int .i64 2502] w fun e w' => e = .returned (.int .i64 q) ∧ w' = w) := L1
  clear L1
  have e1 : ((q : Int) * (q : Int) % 10007 != (a : Int)) = true := by rw [cast_mul_mod]; simp; omega
  clear hr
  go_enter Try.func23, Try.ntmps23
  go_wp2_with (first | (go_at_call 35; refine (HL1.out _).mono ?_; rintro e w' ⟨rfl, rfl⟩) | go_in)
  go_ret
  exact ⟨rfl, rfl⟩
set_option maxRecDepth 100000 in
set_option maxHeartbeats 800000 in
theorem spec_Root_no (a : Int) (w : World) (h : ¬ (0 ≤ a ∧ a < 10007)) :
    Calls Try.prog 23 #[.int .i64 a] w fun e w' => e = .returned (.int .i64 (-1)) ∧ w' = w := by
  by_cases h1 : 0 ≤ a
  · have h2 : ¬ a < 10007 := by omega
    have h2' : ¬ a ≤ 10006 := by omega
    clear h
    go_enter Try.func23, Try.ntmps23
    go_wp2
    go_ret
    exact ⟨rfl, rfl⟩
  · clear h
    go_enter Try.func23, Try.ntmps23
    go_wp2
    go_ret
    exact ⟨rfl, rfl⟩
end Go.Proofs.Ytejlbllbiijnhaa.Fd
