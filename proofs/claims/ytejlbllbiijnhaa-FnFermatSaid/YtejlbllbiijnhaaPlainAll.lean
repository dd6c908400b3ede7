/-
  The functions of chapter 1 as functions of all integers: -1 where one is no Element, or n out of its range. And the plain laws of the field in these words.
-/
import Derived.Test.YtejlbllbiijnhaaPlain
namespace Go.Proofs.Ytejlbllbiijnhaa.Pl
def el (a : Int) : Bool := decide (0 ≤ a) && decide (a < 10007)
theorem el_iff (a : Int) : el a = true ↔ 0 ≤ a ∧ a < 10007 := by simp [el]
theorem el_not (a : Int) : el a = false ↔ ¬ (0 ≤ a ∧ a < 10007) := by simp [el]
def sumI (a b : Int) : Int := if el a && el b then (a + b) % 10007 else -1
def lessI (a b : Int) : Int := if el a && el b then (a - b + 10007) % 10007 else -1
def prodI (a b : Int) : Int := if el a && el b then a * b % 10007 else -1
def powI (a n : Int) : Int := if el a && (decide (0 ≤ n) && decide (n ≤ 1099511627776)) then (pw a.toNat n.toNat : Int) else -1
def invI (a : Int) : Int := if el a then (pw a.toNat 10005 : Int) else -1
theorem prodI_nat (a b : Nat) (ha : a < 10007) (hb : b < 10007) : prodI a b = ((a * b % 10007 : Nat) : Int) := by
  simp [prodI, el]; omega
theorem sumI_nat (a b : Nat) (ha : a < 10007) (hb : b < 10007) : sumI a b = (((a + b) % 10007 : Nat) : Int) := by
  simp [sumI, el]; omega
theorem powI_nat (a n : Nat) (ha : a < 10007) (hn : n ≤ 1099511627776) : powI a n = (pw a n : Int) := by
  simp [powI, el]; omega
theorem invI_nat (a : Nat) (ha : a < 10007) : invI a = (pw a 10005 : Int) := by
  simp [invI, el]; omega
theorem el_nat {a : Int} (h : el a = true) : ∃ n : Nat, a = n ∧ n < 10007 := by
  obtain ⟨h0, h1⟩ := (el_iff a).1 h
  exact ⟨a.toNat, by omega, by omega⟩
theorem prodI_el {a b : Int} (h : ¬ prodI a b < 0) : el a = true ∧ el b = true := by
  unfold prodI at h
  split at h
  · rename_i c; simpa using c
  · omega
theorem prodI_neg {a b : Int} (h : prodI a b < 0) : sumI a b < 0 ∧ lessI a b < 0 := by
  unfold prodI at h
  split at h
  · have := Int.emod_nonneg (a * b) (show (10007 : Int) ≠ 0 by decide); omega
  · rename_i c
    unfold sumI lessI
    rw [if_neg c, if_neg c]; omega
theorem dist {a b c : Int} (ha : el a = true) (hb : el b = true) (hc : el c = true) : prodI a (sumI b c) = sumI (prodI a b) (prodI a c) := by
  obtain ⟨x, rfl, hx⟩ := el_nat ha
  obtain ⟨y, rfl, hy⟩ := el_nat hb
  obtain ⟨z, rfl, hz⟩ := el_nat hc
  rw [sumI_nat y z hy hz, prodI_nat x _ hx (Nat.mod_lt _ (by decide)), prodI_nat x y hx hy, prodI_nat x z hx hz, sumI_nat _ _ (Nat.mod_lt _ (by decide)) (Nat.mod_lt _ (by decide))]
  refine congrArg (fun n : Nat => (n : Int)) ?_
  rw [← Nat.add_mod, ← Nat.mul_add, Nat.mul_mod, Nat.mod_mod, ← Nat.mul_mod]
theorem back {a b : Int} (ha : el a = true) (hb : el b = true) : sumI (lessI a b) b = a := by
  have h1 := (el_iff a).1 ha
  have h2 := (el_iff b).1 hb
  have e : lessI a b = (a - b + 10007) % 10007 := by simp [lessI, ha, hb]
  have h3 : el (lessI a b) = true := by rw [e, el_iff]; omega
  unfold sumI
  rw [h3, hb, e]; simp; omega
theorem prodI_comm (a b : Int) : prodI b a = prodI a b := by
  unfold prodI; rw [Bool.and_comm, Int.mul_comm]
theorem fermat {a : Int} (ha : el a = true) (h : ¬ a = 0) : prodI a (invI a) = 1 ∧ powI a 10006 = 1 := by
  obtain ⟨x, rfl, hx⟩ := el_nat ha
  have c := chk_all x hx
  unfold chk at c
  have hz : (x == 0) = false := by simp; omega
  rw [hz] at c
  simp only [Bool.and_eq_true, Bool.false_and, Bool.false_or, Bool.not_false, Bool.true_and] at c
  have c2 := c.2
  simp at c2
  rw [invI_nat x hx, prodI_nat x _ hx (pw_lt _ _)]
  have : powI x 10006 = (pw x 10006 : Int) := powI_nat x 10006 hx (by decide)
  rw [this]
  unfold pw
  rw [c2.2]
  refine ⟨?_, rfl⟩
  have c3 := c2.1
  simp only [Nat.mul_mod_mod] at c3 ⊢
  rw [c3]; rfl
theorem inv_zero : invI 0 = 0 := by decide +kernel
theorem pow_next {x n : Int} (h : 0 ≤ powI x n) (hn : n < 1099511627776) : powI x (n + 1) = prodI (powI x n) x := by
  have hx : el x = true ∧ 0 ≤ n := by
    unfold powI at h
    split at h
    · rename_i c; simp at c; exact ⟨c.1, c.2.1⟩
    · omega
  obtain ⟨y, rfl, hy⟩ := el_nat hx.1
  obtain ⟨m, rfl⟩ := Int.eq_ofNat_of_zero_le hx.2
  have e1 : powI y m = (pw y m : Int) := powI_nat y m hy (by omega)
  have e2 : powI y (m + 1) = (pw y (m + 1) : Int) := by have := powI_nat y (m + 1) hy (by omega); simpa using this
  rw [e1, e2, prodI_nat _ _ (pw_lt _ _) hy, pw_succ]
end Go.Proofs.Ytejlbllbiijnhaa.Pl
