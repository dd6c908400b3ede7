/-
  Of all points there are: 10196 times each is Nought (the kernel reckons one of each four), and the base comes back to Nought first after 2549 times.
-/
import Derived.Test.YtciikondckoboaaDoorCurveChk
namespace Go.Proofs.YtciikondckoboaaDoor.Cu
open Ed
def gen : Nat × Nat := (2791, 6375)
def sw : Nat → Nat → Nat → Bool
  | 0, x, y => x == 0 && y == 1
  | f + 1, x, y => !(x == 0 && y == 1) && (fun p : Nat × Nat => sw f p.1 p.2) (adN (x, y) (2791, 6375))
theorem sw_all : sw 2548 2791 6375 = true := by decide +kernel
theorem sw_spec (f : Nat) : ∀ p : Nat × Nat, okN p = true → sw f p.1 p.2 = true → (∀ i, i < f → ¬ adN p (ns gen i) = (0, 1)) ∧ adN p (ns gen f) = (0, 1) := by
  induction f with
  | zero =>
    intro p hp h
    simp only [sw, Bool.and_eq_true, beq_iff_eq] at h
    refine ⟨fun i hi => by omega, ?_⟩
    show adN p (0, 1) = (0, 1)
    rw [ad_nought (ok_el hp)]; exact Prod.ext h.1 h.2
  | succ f ih =>
    intro p hp h
    simp only [sw, Bool.and_eq_true] at h
    have hg : okN gen = true := ok_base
    obtain ⟨h1, h2⟩ := ih (adN p gen) (ad_ok hp hg) h.2
    have mv : ∀ i, adN p (ns gen (i + 1)) = adN (adN p gen) (ns gen i) := by
      intro i
      have e : ns gen (i + 1) = adN gen (ns gen i) := by rw [ad_comm]; rfl
      rw [e, ad_assoc hp hg (ns_ok hg i)]
    refine ⟨fun i hi => ?_, by rw [mv]; exact h2⟩
    cases i with
    | zero =>
      show ¬ adN p (0, 1) = (0, 1)
      rw [ad_nought (ok_el hp)]
      intro e
      have := h.1
      rw [e] at this
      simp at this
    | succ i => rw [mv]; exact h1 i (by omega)
theorem gen_first (m : Nat) (h0 : 0 < m) (h : m < 2549) : ¬ ns gen m = (0, 1) := by
  have hg : okN gen = true := ok_base
  have := (sw_spec 2548 gen hg sw_all).1 (m - 1) (by omega)
  have e : adN gen (ns gen (m - 1)) = ns gen m := by
    rw [ad_comm]
    show ns gen (m - 1 + 1) = ns gen m
    rw [Nat.sub_add_cancel h0]
  rwa [e] at this
theorem gen_order : ns gen 2549 = (0, 1) := by
  have hg : okN gen = true := ok_base
  have := (sw_spec 2548 gen hg sw_all).2
  rw [ad_comm] at this; exact this
/-- N times p is Nought. -/
def Nu (N : Nat) (p : Nat × Nat) : Prop := ns p N = (0, 1)
theorem nu_op {N : Nat} {p : Nat × Nat} (h : okN p = true) (n : Nu N p) : Nu N (opN p) := by
  have e := ns_sum h (op_ok h) N
  unfold Nu at n ⊢
  rw [ad_op h, ns_nought, n, nought_ad (ok_el (ns_ok (op_ok h) _))] at e
  exact e.symm
theorem powm (a b n : Nat) (h : a % 10007 = b % 10007) : a ^ n % 10007 = b ^ n % 10007 := by
  rw [Nat.pow_mod a, h, ← Nat.pow_mod]
theorem sqpow (y n : Nat) : Pl.pw (y * y % 10007) n = Pl.pw y (n + n) := by
  unfold Pl.pw
  rw [← Nat.pow_mod, Nat.mul_pow, ← Nat.pow_add]
theorem op_el {p : Nat × Nat} (h : El p) : El (opN p) := ⟨mi_lt _ _, h.2⟩
theorem pw_shift {a b n : Nat} (h : a = b ∨ a = b + 10007) : Pl.pw a n = Pl.pw b n := by
  unfold Pl.pw
  rcases h with h | h
  · rw [h]
  · rw [h]; exact powm _ _ _ (Nat.add_mod_right _ _)
theorem mlt (a : Nat) : a % 10007 < 10007 := Nat.mod_lt _ (by decide)
def sou : Nat × Nat := (0, 10006)
theorem ok_sou : okN sou = true := by decide +kernel
theorem lt14 : 10196 < 2 ^ 14 := by decide +kernel
theorem tm_sou : tm 14 (0, 1) sou 10196 = (0, 1) := by decide +kernel
theorem nu_sou : Nu 10196 sou := (tm_ns sou 10196 14 ok_sou lt14).symm.trans tm_sou
theorem nu_add {N : Nat} {p q : Nat × Nat} (hp : okN p = true) (hq : okN q = true) (np : Nu N p) (nq : Nu N q) : Nu N (adN p q) := by
  unfold Nu at *
  rw [ns_sum hp hq, np, nq]; exact ad_nought (ok_el ok_nought)
theorem cc_sou : cc sou = (0, 0 - 1) := by decide +kernel
theorem op_op {p : Nat × Nat} (h : okN p = true) : opN (opN p) = p := by
  have hE := ok_el h
  have h1 := ok_el (op_ok h)
  refine cc_inj ⟨mi_lt _ _, hE.2⟩ hE ?_
  rw [cc_op h1, cc_op hE]
  refine Prod.ext ?_ rfl
  show 0 - (0 - (cc p).1) = (cc p).1
  grind -lia -linarith -mbtc
theorem flip_sou {x r : Nat} (h : okN (x, r) = true) : opN (adN (x, r) sou) = (x, mi 0 r) := by
  have hE := ok_el h
  refine cc_inj (op_el (ad_el _ _)) ⟨hE.1, mi_lt _ _⟩ ?_
  rw [cc_op (ad_el _ _), cc_ad, cc_sou]
  have k : kF (cc (x, r)) (0, 0 - 1) = 0 := by unfold kF; grind -lia -linarith -mbtc
  unfold adF
  rw [k, show (1 + 0 : F) = 1 by decide, show (1 - 0 : F) = 1 by decide, iv_one]
  refine Prod.ext ?_ ?_
  · show 0 - ((cc (x, r)).1 * (0 - 1) + (cc (x, r)).2 * 0) * 1 = (cc (x, r)).1
    grind -lia -linarith -mbtc
  · show ((cc (x, r)).2 * (0 - 1) - (cc (x, r)).1 * 0) * 1 = c (mi 0 r)
    rw [c_mi _ _ hE.2]
    show (c r * (0 - 1) - _ * 0) * 1 = c 0 - c r
    rw [show c 0 = 0 from rfl]
    grind -lia -linarith -mbtc
theorem nu_flip {x r : Nat} (h : okN (x, r) = true) (n : Nu 10196 (x, r)) : Nu 10196 (x, mi 0 r) := by
  rw [← flip_sou h]
  exact nu_op (ad_ok h ok_sou) (nu_add h ok_sou n nu_sou)
theorem zero_div (a b : F) (h : a * b = 0) : a = 0 ∨ b = 0 := by
  by_cases z : a = 0
  · exact .inl z
  · right
    have i := ivF_mul a z
    have e : b = (a * ivF a) * b := by rw [i]; grind -lia -linarith -mbtc
    have e2 : a * ivF a * b = ivF a * (a * b) := by grind -lia -linarith -mbtc
    rw [e, e2, h]; grind -lia -linarith -mbtc
theorem roots {r y : Nat} (hr : r < 10007) (hy : y < 10007) (h : r * r % 10007 = y * y % 10007) : y = r ∨ y = mi 0 r := by
  have e : c r * c r = c y * c y := by rw [← c_mu, ← c_mu]; exact congrArg c h
  have e2 : (c y - c r) * (c y + c r) = 0 := by
    have : (c y - c r) * (c y + c r) = c y * c y - c r * c r := by grind -lia -linarith -mbtc
    rw [this, e]; grind -lia -linarith -mbtc
  rcases zero_div _ _ e2 with z | z
  · left; exact c_inj _ _ hy hr (by grind -lia -linarith -mbtc)
  · right
    refine c_inj _ _ hy (mi_lt _ _) ?_
    rw [c_mi _ _ hr, show c 0 = 0 from rfl]; grind -lia -linarith -mbtc
theorem fermat_sq (y : Nat) (hy : y < 10007) : ¬ Pl.pw (y * y % 10007) 5003 = 10006 := by
  have e := sqpow y 5003
  rw [e]
  unfold Pl.pw
  rw [show 5003 + 5003 = 10006 from rfl]
  have c := Pl.chk_all y hy
  unfold Pl.chk at c
  simp only [Bool.and_eq_true, Bool.or_eq_true, beq_iff_eq] at c
  rcases c.2 with h | h
  · rw [h.1]; decide +kernel
  · rw [h.2]; decide
theorem q_of {x y : Nat} (h : okN (x, y) = true) : (10008 - x * x % 10007) * (Pl.pw (10008 - 23 * (x * x % 10007) % 10007) 10005) % 10007 = y * y % 10007 := by
  obtain ⟨hE, hon⟩ := (ok_iff _).1 h
  have hx : x * x % 10007 < 10007 := Nat.mod_lt _ (by decide)
  have h23 : 23 * (x * x % 10007) % 10007 < 10007 := Nat.mod_lt _ (by decide)
  have ex : 10008 - x * x % 10007 = mi 1 (mu x x) ∨ 10008 - x * x % 10007 = mi 1 (mu x x) + 10007 := by
    unfold mi mu; omega
  have ec : c (10008 - x * x % 10007) = 1 - c x * c x := by
    have : c (mi 1 (mu x x)) = 1 - c x * c x := by rw [c_mi _ _ (mu_lt _ _), c_mu]; rfl
    rcases ex with e | e
    · rw [e, this]
    · rw [e, ← this]; apply Fin.ext; simp [c]
  have ed : 10008 - 23 * (x * x % 10007) % 10007 = mi 1 (mu 23 (mu x x)) ∨ 10008 - 23 * (x * x % 10007) % 10007 = mi 1 (mu 23 (mu x x)) + 10007 := by
    unfold mi mu; omega
  have ep : c (Pl.pw (10008 - 23 * (x * x % 10007) % 10007) 10005) = ivF (1 - 23 * (c x * c x)) := by
    have : c (iv (mi 1 (mu 23 (mu x x)))) = ivF (1 - 23 * (c x * c x)) := by
      rw [c_iv _ (mi_lt _ _), c_mi _ _ (mu_lt _ _), c_mu, c_mu]; rfl
    rw [← this]
    exact congrArg c (pw_shift ed)
  have hon' : c x * c x + c y * c y = 1 + 23 * c x * c x * c y * c y := hon
  have hnz : ¬ (1 - 23 * (c x * c x)) = 0 := by
    intro z
    by_cases zx : c x = 0
    · rw [zx] at z; exact one_ne (by rw [← z]; decide)
    · refine nsq (ivF (c x)) ?_
      have i := ivF_mul (c x) zx
      generalize ivF (c x) = w at i
      have e1 : w * w = w * w * 1 := by grind -lia -linarith -mbtc
      have e2 : (1 : F) = 23 * (c x * c x) := by grind -lia -linarith -mbtc
      have e3 : w * w * (23 * (c x * c x)) = 23 * (c x * w) * (c x * w) := by grind -lia -linarith -mbtc
      rw [e1, e2, e3, i]; decide
  have i := ivF_mul _ hnz
  have e : c (mu (10008 - x * x % 10007) (Pl.pw (10008 - 23 * (x * x % 10007) % 10007) 10005)) = c (mu y y) := by
    rw [c_mu, c_mu, ec, ep]
    generalize ivF (1 - 23 * (c x * c x)) = w at i
    have e1 : 1 - c x * c x = c y * c y * (1 - 23 * (c x * c x)) := by grind -lia -linarith -mbtc
    have e2 : c y * c y * (1 - 23 * (c x * c x)) * w = c y * c y * ((1 - 23 * (c x * c x)) * w) := by grind -lia -linarith -mbtc
    rw [e1, e2, i]; grind -lia -linarith -mbtc
  exact c_inj _ _ (mu_lt _ _) (mu_lt _ _) e
theorem nu_low {x y : Nat} (h : okN (x, y) = true) (hx : x < 5050) : Nu 10196 (x, y) := by
  have k := evss_spec chx 50 chx_all x hx
  obtain ⟨⟨_, hy⟩, _⟩ := (ok_iff _).1 h
  have eq := q_of h
  unfold chx at k
  simp only [eq] at k
  split at k
  · rename_i g
    simp only [Bool.and_eq_true, beq_iff_eq] at k g
    obtain ⟨k1, k2⟩ := k
    have k3 := (tm_ns _ 10196 14 k1 lt14).symm.trans k2
    clear k2
    have k2 : Nu 10196 (x, Pl.pw (y * y % 10007) 2502) := k3
    have hr := Pl.pw_lt (y * y % 10007) 2502
    rcases roots hr hy g with e | e
    · rw [← e] at k2; exact k2
    · have := nu_flip k1 k2
      rwa [← e] at this
  · simp only [beq_iff_eq] at k
    exact absurd k (fermat_sq y hy)
theorem nu_all {p : Nat × Nat} (h : okN p = true) : Nu 10196 p := by
  obtain ⟨x, y⟩ := p
  by_cases hx : x < 5050
  · exact nu_low h hx
  · have hE := ok_el h
    have h1 := op_ok h
    have h2 : Nu 10196 (opN (x, y)) := nu_low h1 (by unfold mi; have := hE.1; simp only at this; omega)
    have := nu_op h1 h2
    rwa [op_op h] at this
theorem all_nought {p : Nat × Nat} (h : okN p = true) : ns p 10196 = (0, 1) := nu_all h
end Go.Proofs.YtciikondckoboaaDoor.Cu
