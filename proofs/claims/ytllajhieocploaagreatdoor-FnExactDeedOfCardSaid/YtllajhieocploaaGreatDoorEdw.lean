/-
  The curve over the field of 10007 elements, with no program in sight: sums of points are points, in any order and however they are bracketed; Nought changes nothing, an opposite brings back to Nought.
-/
import Derived.Test.YtllajhieocploaaGreatDoorPlain
namespace Go.Proofs.YtllajhieocploaaGreatDoor.Ed
abbrev F := Fin 10007
theorem poly_nz (d k x1 y1 x2 y2 : F) (e1 : x1*x1+y1*y1 = 1 + d*x1*x1*y1*y1) (e2 : x2*x2+y2*y2 = 1 + d*x2*x2*y2*y2) (hk : k = d*x1*x2*y1*y2) (h : k*k = 1) :
    (x1 + k*y1)*(x1 + k*y1) = d*(x1*y1*(x2+y2))*(x1*y1*(x2+y2)) := by
  grind -lia -linarith -mbtc
theorem poly_nz2 (d k x1 y1 x2 y2 : F) (e1 : x1*x1+y1*y1 = 1 + d*x1*x1*y1*y1) (e2 : x2*x2+y2*y2 = 1 + d*x2*x2*y2*y2) (hk : k = d*x1*x2*y1*y2) (h : k*k = 1) :
    (x1 - k*y1)*(x1 - k*y1) = d*(x1*y1*(x2-y2))*(x1*y1*(x2-y2)) := by
  grind -lia -linarith -mbtc
theorem poly_clos (d x1 y1 x2 y2 : F) (e1 : x1*x1+y1*y1 = 1 + d*x1*x1*y1*y1) (e2 : x2*x2+y2*y2 = 1 + d*x2*x2*y2*y2) :
    (x1*y2+y1*x2)^2*(1-d*x1*x2*y1*y2)^2 + (y1*y2-x1*x2)^2*(1+d*x1*x2*y1*y2)^2 = (1-d*x1*x2*y1*y2)^2*(1+d*x1*x2*y1*y2)^2 + d*(x1*y2+y1*x2)^2*(y1*y2-x1*x2)^2 := by
  grind -lia -linarith -mbtc
theorem over_clos (d n m u v a b : F) (hu : u*a = 1) (hv : v*b = 1) (h : n^2*v^2 + m^2*u^2 = v^2*u^2 + d*n^2*m^2) :
    (n*a)*(n*a)+(m*b)*(m*b) = 1 + d*(n*a)*(n*a)*(m*b)*(m*b) := by
  have e1 : (n*a)*(n*a)+(m*b)*(m*b) = (n^2*v^2 + m^2*u^2)*(a*b)^2 + (n*a)*(n*a)*(1-(v*b)^2) + (m*b)*(m*b)*(1-(u*a)^2) := by
    grind -lia -linarith -mbtc
  have e2 : 1 + d*(n*a)*(n*a)*(m*b)*(m*b) = (v^2*u^2 + d*n^2*m^2)*(a*b)^2 + (1 - (u*a)^2*(v*b)^2) := by
    grind -lia -linarith -mbtc
  rw [e1, e2, h, hu, hv]
  grind -lia -linarith -mbtc
set_option maxHeartbeats 4000000 in
theorem poly_x (d x1 y1 x2 y2 x3 y3 : F) (e1 : x1*x1+y1*y1 = 1 + d*x1*x1*y1*y1) (e2 : x2*x2+y2*y2 = 1 + d*x2*x2*y2*y2) (e3 : x3*x3+y3*y3 = 1 + d*x3*x3*y3*y3) :
    ((x1*y2+y1*x2)*(1-d*x1*x2*y1*y2)*y3 + (y1*y2-x1*x2)*(1+d*x1*x2*y1*y2)*x3) * ((1+d*x2*x3*y2*y3)*(1-d*x2*x3*y2*y3) + d*x1*y1*(x2*y3+y2*x3)*(y2*y3-x2*x3)) =
    (x1*(y2*y3-x2*x3)*(1+d*x2*x3*y2*y3) + y1*(x2*y3+y2*x3)*(1-d*x2*x3*y2*y3)) * ((1+d*x1*x2*y1*y2)*(1-d*x1*x2*y1*y2) + d*(x1*y2+y1*x2)*(y1*y2-x1*x2)*x3*y3) := by
  grind -lia -linarith -mbtc
set_option maxHeartbeats 4000000 in
theorem poly_y (d x1 y1 x2 y2 x3 y3 : F) (e1 : x1*x1+y1*y1 = 1 + d*x1*x1*y1*y1) (e2 : x2*x2+y2*y2 = 1 + d*x2*x2*y2*y2) (e3 : x3*x3+y3*y3 = 1 + d*x3*x3*y3*y3) :
    ((y1*y2-x1*x2)*(1+d*x1*x2*y1*y2)*y3 - (x1*y2+y1*x2)*(1-d*x1*x2*y1*y2)*x3) * ((1+d*x2*x3*y2*y3)*(1-d*x2*x3*y2*y3) - d*x1*y1*(x2*y3+y2*x3)*(y2*y3-x2*x3)) =
    (y1*(y2*y3-x2*x3)*(1+d*x2*x3*y2*y3) - x1*(x2*y3+y2*x3)*(1-d*x2*x3*y2*y3)) * ((1+d*x1*x2*y1*y2)*(1-d*x1*x2*y1*y2) - d*(x1*y2+y1*x2)*(y1*y2-x1*x2)*x3*y3) := by
  grind -lia -linarith -mbtc
theorem frac (n d n' d' w w' : F) (h : n*d' = n'*d) (hw : d*w = 1) (hw' : d'*w' = 1) : n*w = n'*w' := by
  have e1 : n*w = (n*d')*w*w' + n*w*(1 - d'*w') := by grind -lia -linarith -mbtc
  have e2 : n'*w' = (n'*d)*w*w' + n'*w'*(1 - d*w) := by grind -lia -linarith -mbtc
  rw [e1, e2, h, hw, hw']; grind -lia -linarith -mbtc
/-- Left side: first the sum of the first two. -/
theorem left_x (d n m u v a b x3 y3 A : F) (hu : u*a = 1) (hv : v*b = 1) (hA : (1 + d*(n*a)*x3*(m*b)*y3)*A = 1) :
    ((n*a)*y3 + (m*b)*x3)*A = (n*v*y3 + m*u*x3)*(a*b*A) ∧ (u*v + d*n*m*x3*y3)*(a*b*A) = 1 := by
  constructor
  · have e1 : (n*v*y3 + m*u*x3)*(a*b*A) = ((n*a)*y3*(v*b) + (m*b)*x3*(u*a))*A := by grind -lia -linarith -mbtc
    rw [e1, hu, hv]; grind -lia -linarith -mbtc
  · have e1 : (u*v + d*n*m*x3*y3)*(a*b*A) = ((u*a)*(v*b) + d*(n*a)*x3*(m*b)*y3)*A := by grind -lia -linarith -mbtc
    rw [e1, hu, hv, ← hA]; grind -lia -linarith -mbtc
theorem left_y (d n m u v a b x3 y3 A : F) (hu : u*a = 1) (hv : v*b = 1) (hA : (1 - d*(n*a)*x3*(m*b)*y3)*A = 1) :
    ((m*b)*y3 - (n*a)*x3)*A = (m*u*y3 - n*v*x3)*(a*b*A) ∧ (u*v - d*n*m*x3*y3)*(a*b*A) = 1 := by
  constructor
  · have e1 : (m*u*y3 - n*v*x3)*(a*b*A) = ((m*b)*y3*(u*a) - (n*a)*x3*(v*b))*A := by grind -lia -linarith -mbtc
    rw [e1, hu, hv]; grind -lia -linarith -mbtc
  · have e1 : (u*v - d*n*m*x3*y3)*(a*b*A) = ((u*a)*(v*b) - d*(n*a)*x3*(m*b)*y3)*A := by grind -lia -linarith -mbtc
    rw [e1, hu, hv, ← hA]; grind -lia -linarith -mbtc
/-- Right side: first the sum of the last two. -/
theorem right_x (d n m u v a b x1 y1 B : F) (hu : u*a = 1) (hv : v*b = 1) (hB : (1 + d*x1*(n*a)*y1*(m*b))*B = 1) :
    (x1*(m*b) + y1*(n*a))*B = (x1*m*u + y1*n*v)*(a*b*B) ∧ (u*v + d*x1*y1*n*m)*(a*b*B) = 1 := by
  constructor
  · have e1 : (x1*m*u + y1*n*v)*(a*b*B) = (x1*(m*b)*(u*a) + y1*(n*a)*(v*b))*B := by grind -lia -linarith -mbtc
    rw [e1, hu, hv]; grind -lia -linarith -mbtc
  · have e1 : (u*v + d*x1*y1*n*m)*(a*b*B) = ((u*a)*(v*b) + d*x1*(n*a)*y1*(m*b))*B := by grind -lia -linarith -mbtc
    rw [e1, hu, hv, ← hB]; grind -lia -linarith -mbtc
theorem right_y (d n m u v a b x1 y1 B : F) (hu : u*a = 1) (hv : v*b = 1) (hB : (1 - d*x1*(n*a)*y1*(m*b))*B = 1) :
    (y1*(m*b) - x1*(n*a))*B = (y1*m*u - x1*n*v)*(a*b*B) ∧ (u*v - d*x1*y1*n*m)*(a*b*B) = 1 := by
  constructor
  · have e1 : (y1*m*u - x1*n*v)*(a*b*B) = (y1*(m*b)*(u*a) - x1*(n*a)*(v*b))*B := by grind -lia -linarith -mbtc
    rw [e1, hu, hv]; grind -lia -linarith -mbtc
  · have e1 : (u*v - d*x1*y1*n*m)*(a*b*B) = ((u*a)*(v*b) - d*x1*(n*a)*y1*(m*b))*B := by grind -lia -linarith -mbtc
    rw [e1, hu, hv, ← hB]; grind -lia -linarith -mbtc
def ivF (a : F) : F := Fin.ofNat 10007 (Pl.pw a.val 10005)
theorem ivF_mul (a : F) (h : a ≠ 0) : a * ivF a = 1 := by
  have c := Pl.chk_all a.val a.isLt
  unfold Pl.chk at c
  have hz : (a.val == 0) = false := by
    simp only [beq_eq_false_iff_ne]; intro e; exact h (Fin.ext e)
  rw [hz] at c
  simp only [Bool.and_eq_true, Bool.false_and, Bool.false_or, Bool.not_false, Bool.true_and] at c
  have c2 := c.2
  simp at c2
  apply Fin.ext
  simp only [ivF, Fin.val_mul, Fin.val_ofNat, Pl.pw]
  have c3 := c2.1
  simp only [Nat.mul_mod_mod] at c3 ⊢
  rw [c3]; rfl
/-- What holds of each of 0 .. 100 * k - 1, by hundreds. -/
def evs (f : Nat → Bool) (lo : Nat) : Nat → Bool
  | 0 => true
  | k + 1 => f (lo + k) && evs f lo k
def evss (f : Nat → Bool) : Nat → Bool
  | 0 => true
  | k + 1 => evs f (101 * k) 101 && evss f k
theorem evs_spec (f : Nat → Bool) (lo k : Nat) (h : evs f lo k = true) : ∀ i, i < k → f (lo + i) = true := by
  induction k with
  | zero => intro i hi; omega
  | succ k ih =>
    simp [evs] at h
    intro i hi
    by_cases e : i = k
    · subst e; exact h.1
    · exact ih h.2 i (by omega)
theorem evss_spec (f : Nat → Bool) (k : Nat) (h : evss f k = true) : ∀ a, a < 101 * k → f a = true := by
  induction k with
  | zero => intro i hi; omega
  | succ k ih =>
    simp [evss] at h
    intro a ha
    by_cases e : a < 101 * k
    · exact ih h.2 a e
    · have := evs_spec f _ _ h.1 (a - 101 * k) (by omega)
      rwa [show 101 * k + (a - 101 * k) = a by omega] at this
theorem nsq_all : evss (fun z => z * z % 10007 != 23) 100 = true := by decide +kernel
theorem nsq (z : F) : ¬ z * z = 23 := by
  intro h
  have c := evss_spec _ 100 nsq_all z.val (by have := z.isLt; omega)
  simp at c
  exact c (by have e := congrArg Fin.val h; rw [Fin.val_mul] at e; exact e)
theorem two_ne : ¬ (2 : F) = 0 := by decide
theorem one_ne : ¬ (1 : F) = 0 := by decide
def on (p : F × F) : Prop := p.1*p.1+p.2*p.2 = 1 + 23*p.1*p.1*p.2*p.2
def kF (p q : F × F) : F := 23*p.1*q.1*p.2*q.2
def adF (p q : F × F) : F × F := ((p.1*q.2+p.2*q.1) * ivF (1 + kF p q), (p.2*q.2-p.1*q.1) * ivF (1 - kF p q))
theorem sq_out (d s m : F) (hm : m ≠ 0) (h : s*s = d*m*m) : (s * ivF m) * (s * ivF m) = d := by
  have i := ivF_mul m hm
  generalize ivF m = w at i
  have e : (s*w)*(s*w) = (s*s)*(w*w) := by grind -lia -linarith -mbtc
  have e2 : d*m*m*(w*w) = d*(m*w)*(m*w) := by grind -lia -linarith -mbtc
  rw [e, h, e2, i]; grind -lia -linarith -mbtc
theorem den_sq (p q : F × F) (hp : on p) (hq : on q) : ¬ kF p q * kF p q = 1 := by
  intro h
  obtain ⟨x1, y1⟩ := p
  obtain ⟨x2, y2⟩ := q
  have a1 := poly_nz 23 (kF (x1, y1) (x2, y2)) x1 y1 x2 y2 hp hq rfl h
  have a2 := poly_nz2 23 (kF (x1, y1) (x2, y2)) x1 y1 x2 y2 hp hq rfl h
  by_cases m1 : x1*y1*(x2+y2) = 0
  · by_cases m2 : x1*y1*(x2-y2) = 0
    · have hk : kF (x1, y1) (x2, y2) = 23*x1*x2*y1*y2 := rfl
      have e : (2 : F) = 2 * (kF (x1, y1) (x2, y2) * kF (x1, y1) (x2, y2)) := by rw [h]; rfl
      have e2 : 2 * (kF (x1, y1) (x2, y2) * kF (x1, y1) (x2, y2)) = kF (x1, y1) (x2, y2) * 23 * y2 * (x1*y1*(x2+y2) + x1*y1*(x2-y2)) := by
        generalize hkk : kF (x1, y1) (x2, y2) = k at hk
        have : 2 * (k * k) = k * (2 * k) := by grind -lia -linarith -mbtc
        rw [this]
        have : 2 * k = 23 * y2 * (x1*y1*(x2+y2) + x1*y1*(x2-y2)) := by rw [hk]; grind -lia -linarith -mbtc
        rw [this]; grind -lia -linarith -mbtc
      rw [m1, m2] at e2
      exact two_ne (by rw [e, e2]; grind -lia -linarith -mbtc)
    · exact nsq _ (sq_out 23 _ _ m2 a2)
  · exact nsq _ (sq_out 23 _ _ m1 a1)
theorem den (p q : F × F) (hp : on p) (hq : on q) : (1 + kF p q) * ivF (1 + kF p q) = 1 ∧ (1 - kF p q) * ivF (1 - kF p q) = 1 := by
  have h := den_sq p q hp hq
  refine ⟨ivF_mul _ ?_, ivF_mul _ ?_⟩
  · intro e; apply h; grind -lia -linarith -mbtc
  · intro e; apply h; grind -lia -linarith -mbtc
theorem on_add (p q : F × F) (hp : on p) (hq : on q) : on (adF p q) := by
  obtain ⟨h1, h2⟩ := den p q hp hq
  exact over_clos 23 _ _ _ _ _ _ h1 h2 (poly_clos 23 p.1 p.2 q.1 q.2 hp hq)
theorem ad_assoc (p q r : F × F) (hp : on p) (hq : on q) (hr : on r) : adF (adF p q) r = adF p (adF q r) := by
  obtain ⟨h1, h2⟩ := den p q hp hq
  obtain ⟨g1, g2⟩ := den q r hq hr
  obtain ⟨i1, i2⟩ := den (adF p q) r (on_add p q hp hq) hr
  obtain ⟨j1, j2⟩ := den p (adF q r) hp (on_add q r hq hr)
  have lx := left_x 23 (p.1*q.2+p.2*q.1) (p.2*q.2-p.1*q.1) _ _ _ _ r.1 r.2 _ h1 h2 i1
  have ly := left_y 23 (p.1*q.2+p.2*q.1) (p.2*q.2-p.1*q.1) _ _ _ _ r.1 r.2 _ h1 h2 i2
  have rx := right_x 23 (q.1*r.2+q.2*r.1) (q.2*r.2-q.1*r.1) _ _ _ _ p.1 p.2 _ g1 g2 j1
  have ry := right_y 23 (q.1*r.2+q.2*r.1) (q.2*r.2-q.1*r.1) _ _ _ _ p.1 p.2 _ g1 g2 j2
  have fx := frac _ _ _ _ _ _ (poly_x 23 p.1 p.2 q.1 q.2 r.1 r.2 hp hq hr) lx.2 rx.2
  have fy := frac _ _ _ _ _ _ (poly_y 23 p.1 p.2 q.1 q.2 r.1 r.2 hp hq hr) ly.2 ry.2
  exact Prod.ext (lx.1.trans (fx.trans rx.1.symm)) (ly.1.trans (fy.trans ry.1.symm))
theorem k_comm (p q : F × F) : kF p q = kF q p := by unfold kF; grind -lia -linarith -mbtc
theorem ad_comm (p q : F × F) : adF p q = adF q p := by
  unfold adF
  rw [k_comm p q]
  refine Prod.ext ?_ ?_
  · show (p.1*q.2+p.2*q.1) * _ = (q.1*p.2+q.2*p.1) * _
    rw [show p.1*q.2+p.2*q.1 = q.1*p.2+q.2*p.1 by grind -lia -linarith -mbtc]
  · show (p.2*q.2-p.1*q.1) * _ = (q.2*p.2-q.1*p.1) * _
    rw [show p.2*q.2-p.1*q.1 = q.2*p.2-q.1*p.1 by grind -lia -linarith -mbtc]
theorem iv_one : ivF 1 = 1 := by decide +kernel
theorem ad_nought (p : F × F) : adF p (0, 1) = p := by
  have k : kF p (0, 1) = 0 := by unfold kF; grind -lia -linarith -mbtc
  unfold adF
  rw [k, show (1 + 0 : F) = 1 by decide, show (1 - 0 : F) = 1 by decide, iv_one]
  refine Prod.ext ?_ ?_
  · show (p.1*1+p.2*0)*1 = p.1; grind -lia -linarith -mbtc
  · show (p.2*1-p.1*0)*1 = p.2; grind -lia -linarith -mbtc
theorem on_opp (p : F × F) (h : on p) : on (0 - p.1, p.2) := by
  unfold on at h ⊢
  show (0 - p.1)*(0 - p.1) + p.2*p.2 = 1 + 23*(0 - p.1)*(0 - p.1)*p.2*p.2
  have e1 : (0 - p.1)*(0 - p.1) = p.1*p.1 := by grind -lia -linarith -mbtc
  have e2 : 23*(0 - p.1)*(0 - p.1) = 23*p.1*p.1 := by grind -lia -linarith -mbtc
  rw [e1, e2]; exact h
theorem ad_opp (p : F × F) (h : on p) : adF p (0 - p.1, p.2) = (0, 1) := by
  obtain ⟨h1, h2⟩ := den p (0 - p.1, p.2) h (on_opp p h)
  refine Prod.ext ?_ ?_
  · show (p.1*p.2+p.2*(0 - p.1)) * _ = 0
    rw [show p.1*p.2+p.2*(0 - p.1) = 0 by grind -lia -linarith -mbtc]; grind -lia -linarith -mbtc
  · show (p.2*p.2-p.1*(0 - p.1)) * _ = 1
    have e : p.2*p.2-p.1*(0 - p.1) = 1 - kF p (0 - p.1, p.2) := by
      have : p.2*p.2-p.1*(0 - p.1) = p.1*p.1+p.2*p.2 := by grind -lia -linarith -mbtc
      rw [this, h]; unfold kF; grind -lia -linarith -mbtc
    rw [e]; exact h2
end Go.Proofs.YtllajhieocploaaGreatDoor.Ed
