/-
  Plain arithmetic modulo 10007, with no program in sight: powers by squaring are powers; at each Element Fermat's and Euler's words hold (the kernel reckons all 10007).
-/
namespace Go.Proofs.YtceddedlfdgbhaaGreatDoor.Pl
/-- a to the power n, that goes round at 10007. -/
def pw (a n : Nat) : Nat := a ^ n % 10007
theorem pw_lt (a n : Nat) : pw a n < 10007 := Nat.mod_lt _ (by decide)
theorem pw_zero (a : Nat) : pw a 0 = 1 := rfl
theorem pw_succ (a n : Nat) : pw a (n + 1) = pw a n * a % 10007 := by
  unfold pw; rw [Nat.pow_succ, Nat.mul_mod, Nat.mul_mod (a ^ n % 10007) a]; simp
/-- The squarings: what is left to do. -/
def lf (r a n : Nat) : Nat := r * a ^ n % 10007
theorem lf_start (a n : Nat) : lf 1 a n = pw a n := by unfold lf pw; simp
theorem lf_end (r a : Nat) (h : r < 10007) : lf r a 0 = r := by unfold lf; simpa using h
theorem lf_even (r a n : Nat) (h : n % 2 = 0) : lf r (a * a % 10007) (n / 2) = lf r a n := by
  unfold lf
  have e : n = n / 2 + n / 2 := by omega
  have e2 : a ^ n = (a * a) ^ (n / 2) := by
    rw [Nat.mul_pow, ← Nat.pow_add, ← e]
  rw [e2, Nat.mul_mod, ← Nat.pow_mod, ← Nat.mul_mod]
theorem lf_odd (r a n : Nat) (h : n % 2 = 1) : lf (r * a % 10007) (a * a % 10007) (n / 2) = lf r a n := by
  have e : n = n / 2 + n / 2 + 1 := by omega
  have e2 : a ^ n = (a * a) ^ (n / 2) * a := by
    rw [Nat.mul_pow, ← Nat.pow_add, ← Nat.pow_succ]; exact congrArg _ e
  have h2 : lf (r * a % 10007) (a * a % 10007) (n / 2) = r * a * (a * a) ^ (n / 2) % 10007 := by
    unfold lf
    rw [Nat.mul_mod, ← Nat.pow_mod, Nat.mod_mod, ← Nat.mul_mod]
  rw [h2]; unfold lf; rw [e2, ← Nat.mul_assoc, Nat.mul_right_comm]

/-- Of one Element: Fermat, Euler, what a root is. -/
def chk (a : Nat) : Bool :=
  let h := a ^ 5003 % 10007
  let q := a ^ 2502 % 10007
  let has := q * q % 10007 == a
  let r := if q < (10007 - q) % 10007 then q else (10007 - q) % 10007
  (has == (h == 0 || h == 1)) && (h == 0 || h == 1 || h == 10006) && (!has || (r * r % 10007 == a && decide (r + r ≤ 10007)))
   && (a == 0 && a ^ 10005 % 10007 == 0 || !(a == 0) && a * (a ^ 10005 % 10007) % 10007 == 1 && a ^ 10006 % 10007 == 1)
def chks (lo : Nat) : Nat → Bool
  | 0 => true
  | k + 1 => chk (lo + k) && chks lo k
def chkss : Nat → Bool
  | 0 => true
  | k + 1 => chks (100 * k) 100 && chkss k
theorem chks_spec (lo k : Nat) (h : chks lo k = true) : ∀ i, i < k → chk (lo + i) = true := by
  induction k with
  | zero => intro i hi; omega
  | succ k ih =>
    simp [chks] at h
    intro i hi
    by_cases e : i = k
    · subst e; exact h.1
    · exact ih h.2 i (by omega)
theorem chkss_spec (k : Nat) (h : chkss k = true) : ∀ a, a < 100 * k → chk a = true := by
  induction k with
  | zero => intro i hi; omega
  | succ k ih =>
    simp [chkss] at h
    intro a ha
    by_cases e : a < 100 * k
    · exact ih h.2 a e
    · have := chks_spec _ _ h.1 (a - 100 * k) (by omega)
      rwa [show 100 * k + (a - 100 * k) = a by omega] at this
theorem chk_most : chkss 100 = true := by decide +kernel
theorem chk_last : chks 10000 7 = true := by decide +kernel
theorem chk_all (a : Nat) (h : a < 10007) : chk a = true := by
  by_cases e : a < 10000
  · exact chkss_spec 100 chk_most a (by omega)
  · have := chks_spec _ _ chk_last (a - 10000) (by omega)
    rwa [show 10000 + (a - 10000) = a by omega] at this
end Go.Proofs.YtceddedlfdgbhaaGreatDoor.Pl
