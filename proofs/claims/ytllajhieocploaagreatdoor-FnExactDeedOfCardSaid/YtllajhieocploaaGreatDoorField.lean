/-
  What the functions of chapter 1 that go by squares answer: l1Power of the specification and power of the program, at Elements and numbers up to 2^40, hand back a to the n modulo 10007, and turn nothing in memory.
-/
import Derived.Test.YtllajhieocploaaGreatDoorRows
import Derived.Test.YtllajhieocploaaGreatDoorPlain
import Derived.WalkKit
import Derived.ProofKit
import Derived.Below
namespace Go.Proofs.YtllajhieocploaaGreatDoor.Fd
open Go.ChangeShapes Go.WideShapes Go.ChangeAt Go.RowKit
theorem ret_int {k : IntKind} {a b : Int} (h : a = b) : Ending.returned (.int k a) = .returned (.int k b) := by rw [h]
theorem cast_mul_mod (a b : Nat) : ((a : Int) * (b : Int)) % 10007 = ((a * b % 10007 : Nat) : Int) := by simp
theorem mul_le (a b : Nat) (ha : a < 10007) (hb : b < 10007) : (a : Int) * (b : Int) ≤ 100120036 ∧ 0 ≤ (a : Int) * (b : Int) := by
  have h : a * b ≤ 10006 * 10006 := Nat.mul_le_mul (by omega) (by omega)
  have h2 : (a : Int) * (b : Int) = ((a * b : Nat) : Int) := by simp
  rw [h2]; omega

set_option maxHeartbeats 400000 in
theorem l1Power_any (a n : Nat) (w : World) (ha : a < 10007) (hn : n ≤ 1099511627776) :
    Calls Tryz.prog 137 #[.int .i64 a, .int .i64 n] w fun e w' => e = .returned (.int .i64 (Pl.pw a n)) ∧ w' = w := by
  go_enter Tryz.func137, Tryz.ntmps137
  go_wp2
  go_loop [0, 1, 5] (fun x y r => ∃ b m q : Nat, b < 10007 ∧ q < 10007 ∧ m ≤ 1099511627776 ∧ x = .int .i64 b ∧ y = .int .i64 m ∧ r = .int .i64 q ∧ Pl.lf q b m = Pl.pw a n) (fun _ y _ => (intOf y).toNat)
  case atStart => exact ⟨a, n, 1, ha, by omega, hn, rfl, rfl, rfl, Pl.lf_start a n⟩
  case round =>
    obtain ⟨b, m, q, hb, hq, hm, rfl, rfl, rfl, hl⟩ := hrel
    have HL : Hid (Pl.lf q b m = Pl.pw a n) := hl
    clear hl
    have b1 := mul_le q b hq hb
    have b2 := mul_le b b hb hb
    by_cases hz : 0 < m
    · by_cases ho : m % 2 = 1
      · have hp : ((m : Int) % 2 == 1) = true := by simp; omega
        go_wp2
        go_round
        case rel => exact ⟨b * b % 10007, m / 2, q * b % 10007, Nat.mod_lt _ (by decide), Nat.mod_lt _ (by decide), by omega, by simp, by simp, by simp, by rw [Pl.lf_odd _ _ _ ho]; exact HL.out⟩
        case measure => simp [intOf]; omega
      · have hp : ((m : Int) % 2 == 1) = false := by simp; omega
        go_wp2
        go_round
        case rel => exact ⟨b * b % 10007, m / 2, q, Nat.mod_lt _ (by decide), hq, by omega, by simp, by simp, rfl, by rw [Pl.lf_even _ _ _ (by omega)]; exact HL.out⟩
        case measure => simp [intOf]; omega
    · go_wp2
      go_ret
      have e : m = 0 := by omega
      subst e
      exact ⟨ret_int (by rw [← HL.out, Pl.lf_end q b hq]), rfl⟩
set_option maxHeartbeats 400000 in
theorem power_any (a n : Nat) (w : World) (ha : a < 10007) (hn : n ≤ 1099511627776) :
    Calls Tryz.prog 168 #[.int .i64 a, .int .i64 n] w fun e w' => e = .returned (.int .i64 (Pl.pw a n)) ∧ w' = w := by
  go_enter Tryz.func168, Tryz.ntmps168
  go_wp2
  go_loop [1, 5, 6] (fun y r x => ∃ b m q : Nat, b < 10007 ∧ q < 10007 ∧ m ≤ 1099511627776 ∧ x = .int .i64 b ∧ y = .int .i64 m ∧ r = .int .i64 q ∧ Pl.lf q b m = Pl.pw a n) (fun y _ _ => (intOf y).toNat)
  case atStart => exact ⟨a, n, 1, ha, by omega, hn, rfl, rfl, rfl, Pl.lf_start a n⟩
  case round =>
    obtain ⟨b, m, q, hb, hq, hm, rfl, rfl, rfl, hl⟩ := hrel
    have HL : Hid (Pl.lf q b m = Pl.pw a n) := hl
    clear hl
    have b1 := mul_le q b hq hb
    have b2 := mul_le b b hb hb
    by_cases hz : 0 < m
    · by_cases ho : m % 2 = 1
      · have hp : ((m : Int) % 2 == 1) = true := by simp; omega
        go_wp2
        go_round
        case rel => exact ⟨b * b % 10007, m / 2, q * b % 10007, Nat.mod_lt _ (by decide), Nat.mod_lt _ (by decide), by omega, by simp, by simp, by simp, by rw [Pl.lf_odd _ _ _ ho]; exact HL.out⟩
        case measure => simp [intOf]; omega
      · have hp : ((m : Int) % 2 == 1) = false := by simp; omega
        go_wp2
        go_round
        case rel => exact ⟨b * b % 10007, m / 2, q, Nat.mod_lt _ (by decide), hq, by omega, by simp, by simp, rfl, by rw [Pl.lf_even _ _ _ (by omega)]; exact HL.out⟩
        case measure => simp [intOf]; omega
    · go_wp2
      go_ret
      have e : m = 0 := by omega
      subst e
      exact ⟨ret_int (by rw [← HL.out, Pl.lf_end q b hq]), rfl⟩
end Go.Proofs.YtllajhieocploaaGreatDoor.Fd
