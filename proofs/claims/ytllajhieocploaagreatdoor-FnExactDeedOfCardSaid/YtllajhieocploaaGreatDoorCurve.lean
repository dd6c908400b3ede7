/-
  The curve in plain natural numbers: the sum as the program reckons it, the group's laws in these numbers, n times a point, and that doubling and adding makes n times a point.
-/
import Derived.Test.YtllajhieocploaaGreatDoorEdw
namespace Go.Proofs.YtllajhieocploaaGreatDoor.Cu
open Ed
def mu (a b : Nat) : Nat := a * b % 10007
def pl (a b : Nat) : Nat := (a + b) % 10007
def mi (a b : Nat) : Nat := (a + 10007 - b) % 10007
def iv (a : Nat) : Nat := Pl.pw a 10005
theorem mu_lt (a b : Nat) : mu a b < 10007 := Nat.mod_lt _ (by decide)
theorem pl_lt (a b : Nat) : pl a b < 10007 := Nat.mod_lt _ (by decide)
theorem mi_lt (a b : Nat) : mi a b < 10007 := Nat.mod_lt _ (by decide)
theorem iv_lt (a : Nat) : iv a < 10007 := Pl.pw_lt _ _
def kN (p q : Nat × Nat) : Nat := mu (mu (mu (mu p.1 p.2) q.1) q.2) 23
def adN (p q : Nat × Nat) : Nat × Nat :=
  (mu (pl (mu p.1 q.2) (mu p.2 q.1)) (iv (pl 1 (kN p q))), mu (mi (mu p.2 q.2) (mu p.1 q.1)) (iv (mi 1 (kN p q))))
def c (n : Nat) : F := Fin.ofNat 10007 n
theorem c_mu (a b : Nat) : c (mu a b) = c a * c b := by
  apply Fin.ext; simp [c, mu, Fin.val_mul, Nat.mul_mod]
theorem c_pl (a b : Nat) : c (pl a b) = c a + c b := by
  apply Fin.ext; simp [c, pl, Fin.val_add, Nat.add_mod]
theorem c_mi (a b : Nat) (h : b < 10007) : c (mi a b) = c a - c b := by
  apply Fin.ext; simp [c, mi, Fin.val_sub]; omega
theorem c_val (a : Nat) (h : a < 10007) : (c a).val = a := by simpa [c] using h
theorem c_iv (a : Nat) (h : a < 10007) : c (iv a) = ivF (c a) := by
  unfold ivF iv; rw [c_val a h]; rfl
theorem c_inj (a b : Nat) (ha : a < 10007) (hb : b < 10007) (h : c a = c b) : a = b := by
  have e := congrArg Fin.val h
  rwa [c_val a ha, c_val b hb] at e
def cc (p : Nat × Nat) : F × F := (c p.1, c p.2)
def El (p : Nat × Nat) : Prop := p.1 < 10007 ∧ p.2 < 10007
theorem cc_inj {p q : Nat × Nat} (hp : El p) (hq : El q) (h : cc p = cc q) : p = q := by
  have h1 : c p.1 = c q.1 := congrArg Prod.fst h
  have h2 : c p.2 = c q.2 := congrArg Prod.snd h
  exact Prod.ext (c_inj _ _ hp.1 hq.1 h1) (c_inj _ _ hp.2 hq.2 h2)
theorem ad_el (p q : Nat × Nat) : El (adN p q) := ⟨mu_lt _ _, mu_lt _ _⟩
theorem c_k (p q : Nat × Nat) : c (kN p q) = kF (cc p) (cc q) := by
  unfold kN kF cc
  rw [c_mu, c_mu, c_mu, c_mu, show c 23 = 23 from rfl]
  show c p.1 * c p.2 * c q.1 * c q.2 * 23 = 23 * c p.1 * c q.1 * c p.2 * c q.2
  grind -lia -linarith -mbtc
theorem cc_ad (p q : Nat × Nat) : cc (adN p q) = adF (cc p) (cc q) := by
  have k := c_k p q
  have hk : kN p q < 10007 := mu_lt _ _
  refine Prod.ext ?_ ?_
  · show c (mu (pl (mu p.1 q.2) (mu p.2 q.1)) (iv (pl 1 (kN p q)))) = (c p.1 * c q.2 + c p.2 * c q.1) * ivF (1 + kF (cc p) (cc q))
    rw [c_mu, c_pl, c_mu, c_mu, c_iv _ (pl_lt _ _), c_pl, k]; rfl
  · show c (mu (mi (mu p.2 q.2) (mu p.1 q.1)) (iv (mi 1 (kN p q)))) = (c p.2 * c q.2 - c p.1 * c q.1) * ivF (1 - kF (cc p) (cc q))
    rw [c_mu, c_mi _ _ (mu_lt _ _), c_mu, c_mu, c_iv _ (mi_lt _ _), c_mi _ _ hk, k]; rfl
/-- A point: two Elements that fit. -/
def okN (p : Nat × Nat) : Bool := decide (p.1 < 10007) && (decide (p.2 < 10007) && (pl (mu p.1 p.1) (mu p.2 p.2) == pl 1 (mu (mu (mu p.1 p.1) (mu p.2 p.2)) 23)))
theorem ok_iff (p : Nat × Nat) : okN p = true ↔ El p ∧ on (cc p) := by
  have hc : c (pl (mu p.1 p.1) (mu p.2 p.2)) = (cc p).1*(cc p).1 + (cc p).2*(cc p).2 := by rw [c_pl, c_mu, c_mu]; rfl
  have hd : c (pl 1 (mu (mu (mu p.1 p.1) (mu p.2 p.2)) 23)) = 1 + 23*(cc p).1*(cc p).1*(cc p).2*(cc p).2 := by
    rw [c_pl, c_mu, c_mu, c_mu, c_mu, show c 23 = 23 from rfl, show c 1 = 1 from rfl]
    show 1 + c p.1 * c p.1 * (c p.2 * c p.2) * 23 = 1 + 23 * c p.1 * c p.1 * c p.2 * c p.2
    grind -lia -linarith -mbtc
  unfold okN El
  simp only [Bool.and_eq_true, decide_eq_true_eq, beq_iff_eq]
  constructor
  · rintro ⟨a, b, e⟩
    refine ⟨⟨a, b⟩, ?_⟩
    have := congrArg c e
    rw [hc, hd] at this; exact this
  · rintro ⟨⟨a, b⟩, e⟩
    refine ⟨a, b, c_inj _ _ (pl_lt _ _) (pl_lt _ _) ?_⟩
    rw [hc, hd]; exact e
theorem ad_ok {p q : Nat × Nat} (hp : okN p = true) (hq : okN q = true) : okN (adN p q) = true := by
  rw [ok_iff] at hp hq ⊢
  exact ⟨ad_el _ _, by rw [cc_ad]; exact on_add _ _ hp.2 hq.2⟩
theorem ad_assoc {p q r : Nat × Nat} (hp : okN p = true) (hq : okN q = true) (hr : okN r = true) : adN (adN p q) r = adN p (adN q r) := by
  rw [ok_iff] at hp hq hr
  refine cc_inj (ad_el _ _) (ad_el _ _) ?_
  rw [cc_ad, cc_ad, cc_ad, cc_ad]; exact Ed.ad_assoc _ _ _ hp.2 hq.2 hr.2
theorem ad_comm (p q : Nat × Nat) : adN p q = adN q p := by
  refine cc_inj (ad_el _ _) (ad_el _ _) ?_
  rw [cc_ad, cc_ad]; exact Ed.ad_comm _ _
theorem ad_nought {p : Nat × Nat} (hp : El p) : adN p (0, 1) = p := by
  refine cc_inj (ad_el _ _) hp ?_
  rw [cc_ad]; exact Ed.ad_nought _
theorem nought_ad {p : Nat × Nat} (hp : El p) : adN (0, 1) p = p := by rw [ad_comm, ad_nought hp]
def opN (p : Nat × Nat) : Nat × Nat := (mi 0 p.1, p.2)
theorem cc_op {p : Nat × Nat} (h : El p) : cc (opN p) = (0 - (cc p).1, (cc p).2) := by
  unfold cc opN
  show (c (mi 0 p.1), c p.2) = _
  rw [c_mi _ _ h.1]; rfl
theorem op_ok {p : Nat × Nat} (h : okN p = true) : okN (opN p) = true := by
  rw [ok_iff] at h ⊢
  exact ⟨⟨mi_lt _ _, h.1.2⟩, by rw [cc_op h.1]; exact on_opp _ h.2⟩
theorem ad_op {p : Nat × Nat} (h : okN p = true) : adN p (opN p) = (0, 1) := by
  rw [ok_iff] at h
  refine cc_inj (ad_el _ _) (by unfold El; decide) ?_
  rw [cc_ad, cc_op h.1]; exact ad_opp _ h.2
theorem ok_el {p : Nat × Nat} (h : okN p = true) : El p := ((ok_iff p).1 h).1
theorem ok_nought : okN (0, 1) = true := by decide +kernel
theorem ok_base : okN (2791, 6375) = true := by decide +kernel
theorem ok_zero : okN (0, 0) = false := by decide +kernel
/-- n times p, one by one. -/
def ns (p : Nat × Nat) : Nat → Nat × Nat
  | 0 => (0, 1)
  | n + 1 => adN (ns p n) p
theorem ns_ok {p : Nat × Nat} (h : okN p = true) (n : Nat) : okN (ns p n) = true := by
  induction n with
  | zero => exact ok_nought
  | succ n ih => exact ad_ok ih h
theorem ns_one {p : Nat × Nat} (h : okN p = true) : ns p 1 = p := nought_ad (ok_el h)
theorem ns_add {p : Nat × Nat} (h : okN p = true) (m n : Nat) : ns p (m + n) = adN (ns p m) (ns p n) := by
  induction n with
  | zero => exact (ad_nought (ok_el (ns_ok h m))).symm
  | succ n ih =>
    show adN (ns p (m + n)) p = adN (ns p m) (adN (ns p n) p)
    rw [ih, ad_assoc (ns_ok h m) (ns_ok h n) h]
theorem ns_mul {p : Nat × Nat} (h : okN p = true) (m n : Nat) : ns p (m * n) = ns (ns p m) n := by
  induction n with
  | zero => rfl
  | succ n ih =>
    rw [Nat.mul_succ, ns_add h, ih]; rfl
theorem ns_sum {p q : Nat × Nat} (hp : okN p = true) (hq : okN q = true) (n : Nat) : ns (adN p q) n = adN (ns p n) (ns q n) := by
  induction n with
  | zero => exact (ad_nought (ok_el ok_nought)).symm
  | succ n ih =>
    show adN (ns (adN p q) n) (adN p q) = adN (adN (ns p n) p) (adN (ns q n) q)
    rw [ih, ad_assoc (ns_ok hp n) (ns_ok hq n) (ad_ok hp hq), ← ad_assoc (ns_ok hq n) hp hq, ad_comm (ns q n) p, ad_assoc hp (ns_ok hq n) hq, ← ad_assoc (ns_ok hp n) hp (ad_ok (ns_ok hq n) hq)]
theorem ns_nought (n : Nat) : ns (0, 1) n = (0, 1) := by
  induction n with
  | zero => rfl
  | succ n ih => show adN (ns (0, 1) n) (0, 1) = (0, 1); rw [ih]; exact ad_nought (ok_el ok_nought)
/-- Doubling and adding: what is left to do. -/
theorem ns_even {r p : Nat × Nat} (hp : okN p = true) (n : Nat) (h : n % 2 = 0) : adN r (ns (adN p p) (n / 2)) = adN r (ns p n) := by
  have e : n = n / 2 + n / 2 := by omega
  rw [ns_sum hp hp, ← ns_add hp, ← e]
theorem ns_odd {r p : Nat × Nat} (hr : okN r = true) (hp : okN p = true) (n : Nat) (h : n % 2 = 1) : adN (adN r p) (ns (adN p p) (n / 2)) = adN r (ns p n) := by
  have e : n = 1 + (n / 2 + n / 2) := by omega
  rw [ns_sum hp hp, ← ns_add hp, ad_assoc hr hp (ns_ok hp _)]
  have e2 : ns p n = adN p (ns p (n / 2 + n / 2)) := by
    have := ns_add hp 1 (n / 2 + n / 2)
    rwa [← e, ns_one hp] at this
  rw [e2]
/-- The same with fuel, to be reckoned. -/
def tm : Nat → Nat × Nat → Nat × Nat → Nat → Nat × Nat
  | 0, r, _, _ => r
  | f + 1, r, p, n => if n = 0 then r else if n % 2 = 1 then tm f (adN r p) (adN p p) (n / 2) else tm f r (adN p p) (n / 2)
theorem tm_spec (f : Nat) : ∀ (r p : Nat × Nat) (n : Nat), okN r = true → okN p = true → n < 2 ^ f → tm f r p n = adN r (ns p n) := by
  induction f with
  | zero =>
    intro r p n hr _ hn
    have e : n = 0 := by have : n < 1 := hn; omega
    subst e
    exact (ad_nought (ok_el hr)).symm
  | succ f ih =>
    intro r p n hr hp hn
    have h2 : n / 2 < 2 ^ f := by rw [Nat.pow_succ] at hn; omega
    unfold tm
    by_cases z : n = 0
    · rw [if_pos z, z]; exact (ad_nought (ok_el hr)).symm
    · rw [if_neg z]
      by_cases o : n % 2 = 1
      · rw [if_pos o, ih _ _ _ (ad_ok hr hp) (ad_ok hp hp) h2, ns_odd hr hp n o]
      · rw [if_neg o, ih _ _ _ hr (ad_ok hp hp) h2, ns_even hp n (by omega)]
theorem tm_ns (p : Nat × Nat) (n f : Nat) (hp : okN p = true) (hn : n < 2 ^ f) : tm f (0, 1) p n = ns p n := by
  rw [tm_spec f _ _ _ ok_nought hp hn, nought_ad (ok_el (ns_ok hp n))]
end Go.Proofs.YtllajhieocploaaGreatDoor.Cu
