/-
  The functions of chapter 2 of the specification: PointOk at any int64, l2Added at Points. They make memory, and turn nothing that was.
-/
import Derived.Test.YtllajhieocploaaGreatDoorCurveI
namespace Go.Proofs.YtllajhieocploaaGreatDoor.Cv
open Go.ChangeShapes Go.WideShapes Go.ChangeAt Go.RowKit
open Cu
theorem mu_cast (a b : Nat) : ((mu a b : Nat) : Int) = (a : Int) * (b : Int) % 10007 := by unfold mu; simp
theorem pl_cast (a b p q : Nat) : ((pl (mu a b) (mu p q) : Nat) : Int) = ((a : Int) * b + (p : Int) * q) % 10007 := by
  unfold pl mu
  rw [← Nat.add_mod]; simp
theorem mi_lin (A B : Nat) : (((B % 10007 + 10007 - A % 10007) % 10007 : Nat) : Int) = ((B : Int) % 10007 + 10007 - A) % 10007 := by omega
theorem mi_cast (a b p q : Nat) : ((mi (mu a b) (mu p q) : Nat) : Int) = ((a : Int) * b % 10007 + 10007 - (p : Int) * q) % 10007 := by
  have e := mi_lin (p * q) (a * b)
  rw [Int.natCast_mul, Int.natCast_mul] at e
  exact e
theorem eqn_cast (x y : Nat) : (((x : Int) * x + (y : Int) * y) % 10007 == (1 + 23 * ((x : Int) * x % 10007 * ((y : Int) * y % 10007) % 10007)) % 10007) = onB x y := by
  unfold onB
  rw [← beq_cast]
  have e1 : ((pl (mu x x) (mu y y) : Nat) : Int) = ((x : Int) * x + (y : Int) * y) % 10007 := pl_cast x x y y
  have e2 : ((pl 1 (mu (mu (mu x x) (mu y y)) 23) : Nat) : Int) = (1 + 23 * ((x : Int) * x % 10007 * ((y : Int) * y % 10007) % 10007)) % 10007 := by
    rw [← mu_cast x, ← mu_cast y, ← mu_cast (mu x x)]
    generalize mu (mu x x) (mu y y) = m
    unfold pl mu; omega
  rw [e1, e2]
theorem l1Inv (x : Int) (w : World) (h0 : 0 ≤ x) (h1 : x < 10007) : Calls Tryz.prog 137 #[.int .i64 x, .int .i64 10005] w fun e w' => e = .returned (.int .i64 (iv x.toNat)) ∧ w' = w := by
  obtain ⟨a, rfl⟩ := Int.eq_ofNat_of_zero_le h0
  exact Fd.l1Power_any a 10005 w (by omega) (by decide)
/-- The specification's k. -/
def kS (a b p q : Nat) : Int := 23 * ((a : Int) * p % 10007) % 10007 * ((b : Int) * q % 10007) % 10007
theorem kS_eq (a b p q : Nat) : kS a b p q = (kN (a, b) (p, q) : Nat) := by
  have e : mu (mu 23 (mu a p)) (mu b q) = kN (a, b) (p, q) := by
    refine c_inj _ _ (mu_lt _ _) (mu_lt _ _) ?_
    rw [c_k, c_mu, c_mu, c_mu, c_mu]
    show c 23 * (c a * c p) * (c b * c q) = 23 * c a * c p * c b * c q
    rw [show c 23 = 23 from rfl]
    grind -lia -linarith -mbtc
  unfold kS
  rw [← e, mu_cast, mu_cast, mu_cast, mu_cast]
  rfl
set_option maxHeartbeats 4000000 in
theorem l2Added_any (a b p q : Nat) (w : World) (ha : a < 10007) (hb : b < 10007) (hp : p < 10007) (hq : q < 10007) :
    Calls Tryz.prog 128 #[.agg #[.int .i64 a, .int .i64 b], .agg #[.int .i64 p, .int .i64 q]] w fun e w' => e = .returned (.agg #[.int .i64 (adN (a, b) (p, q)).1, .int .i64 (adN (a, b) (p, q)).2]) ∧ Below w.heap.size w w' := by
  have b1 := Fd.mul_le a p ha hp
  have b2 := Fd.mul_le b q hb hq
  have b3 : 23 * ((a : Int) * p % 10007) % 10007 * ((b : Int) * q % 10007) ≤ 100120036 ∧ 0 ≤ 23 * ((a : Int) * p % 10007) % 10007 * ((b : Int) * q % 10007) := by
    have e := Fd.mul_le (mu 23 (mu a p)) (mu b q) (mu_lt _ _) (mu_lt _ _)
    rw [mu_cast, mu_cast, mu_cast] at e
    exact e
  have b4 := Fd.mul_le a q ha hq
  have b5 := Fd.mul_le b p hb hp
  have HK := Hid.mk' (kS_eq a b p q)
  have hk : kN (a, b) (p, q) < 10007 := mu_lt _ _
  have hx : adN (a, b) (p, q) = (mu (pl (mu a q) (mu b p)) (iv (pl 1 (kN (a, b) (p, q)))), mu (mi (mu b q) (mu a p)) (iv (mi 1 (kN (a, b) (p, q))))) := rfl
  rw [hx]
  clear hx
  generalize kN (a, b) (p, q) = k at HK hk
  have L1 := Hid.mk' (fun w => l1Inv ((1 + (k : Int)) % 10007) w (by omega) (by omega))
  have L2 := Hid.mk' (fun w => l1Inv ((10008 - (k : Int)) % 10007) w (by omega) (by omega))
  have E1 : ((1 + (k : Int)) % 10007).toNat = pl 1 k := by unfold pl; omega
  have E2 : ((10008 - (k : Int)) % 10007).toNat = mi 1 k := by unfold mi; omega
  rw [E1] at L1
  rw [E2] at L2
  have i1 := iv_lt (pl 1 k)
  have i2 := iv_lt (mi 1 k)
  clear E1 E2
  generalize iv (pl 1 k) = u at L1 i1
  generalize iv (mi 1 k) = v at L2 i2
  have b6 := Fd.mul_le (pl (mu a q) (mu b p)) u (pl_lt _ _) i1
  rw [pl_cast] at b6
  have b7 := Fd.mul_le (mi (mu b q) (mu a p)) v (mi_lt _ _) i2
  rw [mi_cast] at b7
  go_enter Tryz.func128, Tryz.ntmps128
  go_wp2
  have HK2 := HK.out
  unfold kS at HK2
  rw [HK2]
  clear HK2
  go_quiet ((go_at_call 137; refine (L1.out _).mono ?_; rintro e w' ⟨rfl, rfl⟩; exact ⟨rfl, _, rfl⟩))
  go_wp2
  go_quiet ((go_at_call 137; refine (L2.out _).mono ?_; rintro e w' ⟨rfl, rfl⟩; exact ⟨rfl, _, rfl⟩))
  go_wp2
  refine bodyPost_ret (v := .agg #[.int .i64 (((a : Int) * q + (b : Int) * p) % 10007 * u % 10007), .int .i64 (((b : Int) * q % 10007 + 10007 - (a : Int) * p) % 10007 * v % 10007)]) (by simp [results, Tryz.results128, go_sem]) rfl ⟨?_, ?_⟩
  · rw [mu_cast, pl_cast, mu_cast, mi_cast]
  · exact ((Below.drewN ((((Below.refl _ _).alloc (Nat.le_refl _) _).alloc (by simp) _).alloc (by simp; omega) _) _).setCell (by simp; omega) _).setCell (by simp; omega) _
end Go.Proofs.YtllajhieocploaaGreatDoor.Cv
