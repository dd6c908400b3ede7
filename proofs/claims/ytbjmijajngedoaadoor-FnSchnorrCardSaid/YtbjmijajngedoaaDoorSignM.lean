/-
  Schnorr, in natural numbers: what is signed is valid, and with no other number.
-/
import Derived.Test.YtbjmijajngedoaaDoorSignW
import Derived.Test.YtbjmijajngedoaaDoorSignX
import Derived.Test.YtbjmijajngedoaaDoorCurveAll
namespace Go.Proofs.YtbjmijajngedoaaDoor.Sg
open Go.ChangeShapes Go.WideShapes Go.ChangeAt Go.RowKit
open Cv Cu
theorem ns_order (q : Nat) : ns (2791, 6375) (2549 * q) = (0, 1) := by
  rw [ns_mul ok_base, show ns (2791, 6375) 2549 = (0, 1) from gen_order, ns_nought]
theorem ns_mod (m : Nat) : ns (2791, 6375) (m % 2549) = ns (2791, 6375) m := by
  have h := ns_add ok_base (2549 * (m / 2549)) (m % 2549)
  rw [ns_order, Nat.div_add_mod] at h
  rw [h]
  exact (nought_ad (ok_el (ns_ok ok_base _))).symm
theorem sg_valid (n : Nat) (s : ByteArray) : ns (2791, 6375) (sgT n s) = adN (sgR n s) (ns (ns (2791, 6375) n) (sgC n s)) := by
  rw [sgT_eq, ns_mod, ns_add ok_base, ← sgR_eq, Nat.mul_comm (sgC n s) n, ns_mul ok_base]
theorem ad_cancel {p d : Nat × Nat} (hp : okN p = true) (hd : okN d = true) (h : adN p d = p) : d = (0, 1) := by
  have h1 : adN (opN p) (adN p d) = adN (opN p) p := by rw [h]
  rw [← ad_assoc (op_ok hp) hp hd, ad_comm (opN p) p, ad_op hp, nought_ad (ok_el hd)] at h1
  exact h1
theorem sg_other (t j : Nat) (hj : j < 2548) : ns (2791, 6375) ((t + 1 + j) % 2549) ≠ ns (2791, 6375) t := by
  rw [ns_mod, Nat.add_assoc, ns_add ok_base]
  intro h
  exact gen_first (1 + j) (by omega) (by omega) (ad_cancel (ns_ok ok_base _) (ns_ok ok_base _) h)
theorem eqB (X Y : Nat × Nat) : ((X.1 : Int) == (Y.1 : Int) && (X.2 : Int) == (Y.2 : Int)) = decide (X = Y) := by
  by_cases h : X = Y
  · subst h; simp
  · rw [decide_eq_false h, Bool.eq_false_iff]
    intro hh
    simp only [Bool.and_eq_true, beq_iff_eq] at hh
    exact h (Prod.ext (by have := hh.1; omega) (by have := hh.2; omega))
theorem va_sg (n T : Nat) (s : ByteArray) : vaN (ns (2791, 6375) n).1 (ns (2791, 6375) n).2 (sgR n s).1 (sgR n s).2 T s = decide (ns (2791, 6375) T = ns (2791, 6375) (sgT n s)) := by
  rw [vaN.eq_1, ← sgC_eq, sg_valid, eqB, pr', pr', pr']
theorem va_yes (n : Nat) (s : ByteArray) : vaN (ns (2791, 6375) n).1 (ns (2791, 6375) n).2 (sgR n s).1 (sgR n s).2 (sgT n s) s = true := by
  rw [va_sg]; exact decide_eq_true rfl
theorem va_no (n j : Nat) (s : ByteArray) (hj : j < 2548) : vaN (ns (2791, 6375) n).1 (ns (2791, 6375) n).2 (sgR n s).1 (sgR n s).2 ((sgT n s + 1 + j) % 2549) s = false := by
  rw [va_sg]; exact decide_eq_false (sg_other _ _ hj)
/-- All that the law asks of a number and a text. -/
theorem schn (n : Int) (s : ByteArray) (hs : s.size ≤ 6) : ∃ (u v t k1 k2 : Int) (f : Bool),
    (∀ w, Tab w → Calls Tryd.prog 8 #[.int .i64 n, .string s] w fun e w' => e = .returned (.tuple #[.agg #[.int .i64 u, .int .i64 v, .int .i64 t], .bool f]) ∧ Below w.heap.size w w') ∧
    (∀ w, Calls Tryd.prog 12 #[.int .i64 n, .string s] w fun e w' => e = .returned (.tuple #[.agg #[.int .i64 u, .int .i64 v, .int .i64 t], .bool f]) ∧ Below w.heap.size w w') ∧
    (∀ w, Calls Tryd.prog 11 #[.int .i64 n] w fun e w' => e = .returned (.tuple #[.agg #[.int .i64 k1, .int .i64 k2], .bool f]) ∧ Below w.heap.size w w') ∧
    (∀ w, Calls Tryd.prog 19 #[.int .i64 n] w fun e w' => e = .returned (.tuple #[.agg #[.int .i64 k1, .int .i64 k2], .bool f]) ∧ Below w.heap.size w w') ∧
    ((f = false ∧ u = 0 ∧ v = 0 ∧ t = 0) ∨ (f = true ∧ ∃ (tn c : Nat) (l1 l2 m1 m2 : Int), t = tn ∧ tn < 2549 ∧ c < 2549 ∧
      (∀ w, Tab w → Calls Tryd.prog 15 #[.agg #[.int .i64 u, .int .i64 v], .agg #[.int .i64 k1, .int .i64 k2], .string s] w fun e w' => e = .returned (.int .i64 c) ∧ Below w.heap.size w w') ∧
      (∀ w, Calls Tryd.prog 21 #[.int .i64 tn, .agg #[.int .i64 2791, .int .i64 6375]] w fun e w' => e = .returned (.tuple #[.agg #[.int .i64 l1, .int .i64 l2], .bool true]) ∧ Below w.heap.size w w') ∧
      (∀ w, Calls Tryd.prog 21 #[.int .i64 c, .agg #[.int .i64 k1, .int .i64 k2]] w fun e w' => e = .returned (.tuple #[.agg #[.int .i64 m1, .int .i64 m2], .bool true]) ∧ Below w.heap.size w w') ∧
      (∀ w, Calls Tryd.prog 23 #[.agg #[.int .i64 u, .int .i64 v], .agg #[.int .i64 m1, .int .i64 m2]] w fun e w' => e = .returned (.tuple #[.agg #[.int .i64 l1, .int .i64 l2], .bool true]) ∧ Below w.heap.size w w') ∧
      (∀ w, Tab w → Calls Tryd.prog 13 #[.agg #[.int .i64 k1, .int .i64 k2], .string s, .agg #[.int .i64 u, .int .i64 v, .int .i64 tn]] w fun e w' => e = .returned (.bool true) ∧ Below w.heap.size w w') ∧
      (∀ j : Nat, j < 2548 → ∀ w, Tab w → Calls Tryd.prog 13 #[.agg #[.int .i64 k1, .int .i64 k2], .string s, .agg #[.int .i64 u, .int .i64 v, .int .i64 ((tn + 1 + j) % 2549 : Nat)]] w fun e w' => e = .returned (.bool false) ∧ Below w.heap.size w w') ∧
      (∀ w, Calls Tryd.prog 24 #[.agg #[.int .i64 k1, .int .i64 k2]] w fun e w' => e = .returned (.bool true) ∧ Below w.heap.size w w'))) := by
  by_cases h : 0 < n ∧ n < 2549
  · obtain ⟨m, rfl⟩ := Int.eq_ofNat_of_zero_le (show 0 ≤ n by omega)
    have h1 : 0 < m := by omega
    have h2 : m < 2549 := by omega
    have ci := fun w t => impl_Signed_yes m s w h1 h2 (by omega) t
    have cs := fun w => spec_Signed_yes m s w h1 h2 (by omega)
    have ck := fun w => impl_KeyOf_yes m w h1 h2
    have cq := fun w => spec_KeyOf_yes m w h1 h2
    have cc := fun w t => impl_Challenge_R m s w (by omega) t
    have cl := fun w => impl_Times_yes (sgT m s) 2791 6375 w ok_base (by have := sgT_lt m s; omega)
    have cr := fun w => impl_Times_yes (sgC m s) (ns (2791, 6375) m).1 (ns (2791, 6375) m).2 w (key_ok m) (by have := sgC_lt m s; omega)
    rw [pr'] at cr
    have hp : okN ((ns (ns (2791, 6375) m) (sgC m s)).1, (ns (ns (2791, 6375) m) (sgC m s)).2) = true := by rw [pr']; exact ns_ok (ns_ok ok_base m) _
    have ca := fun w => impl_Added_yes (sgR m s).1 (sgR m s).2 (ns (ns (2791, 6375) m) (sgC m s)).1 (ns (ns (2791, 6375) m) (sgC m s)).2 w (sgR_ok m s) hp
    rw [pr', pr', ← sg_valid] at ca
    have cv := fun w t => impl_Valid_yes (ns (2791, 6375) m).1 (ns (2791, 6375) m).2 (sgR m s).1 (sgR m s).2 (sgT m s) s w (key_ok m) (sgR_ok m s) (sgT_lt m s) (by omega) t
    rw [va_yes] at cv
    have co := fun (j : Nat) (hj : j < 2548) w t => impl_Valid_yes (ns (2791, 6375) m).1 (ns (2791, 6375) m).2 (sgR m s).1 (sgR m s).2 ((sgT m s + 1 + j) % 2549) s w (key_ok m) (sgR_ok m s) (Nat.mod_lt _ (by omega)) (by omega) t
    have co' : ∀ j : Nat, j < 2548 → ∀ w, Tab w → Calls Tryd.prog 13 #[.agg #[.int .i64 (ns (2791, 6375) m).1, .int .i64 (ns (2791, 6375) m).2], .string s, .agg #[.int .i64 (sgR m s).1, .int .i64 (sgR m s).2, .int .i64 ((sgT m s + 1 + j) % 2549 : Nat)]] w fun e w' => e = .returned (.bool false) ∧ Below w.heap.size w w' := by
      intro j hj w t
      have h := co j hj w t
      rw [va_no m j s hj] at h
      exact h
    have cp := impl_PointOk (ns (2791, 6375) m).1 (ns (2791, 6375) m).2
    rw [okI_cast, key_ok] at cp
    have ht := sgT_lt m s
    have hc := sgC_lt m s
    clear co
    generalize ns (2791, 6375) (sgT m s) = L at cl ca
    generalize ns (ns (2791, 6375) m) (sgC m s) = M at cr ca
    generalize sgT m s = T at ci cs cl cv co' ht
    generalize sgC m s = C at cc cr hc
    generalize sgR m s = R at ci cs cc ca cv co'
    generalize ns (2791, 6375) m = K at ck cq cc cr cv co' cp
    exact ⟨R.1, R.2, T, K.1, K.2, true, ci, cs, ck, cq, .inr ⟨rfl, T, C, L.1, L.2, M.1, M.2, rfl, ht, hc, cc, cl, cr, ca, cv, co', cp⟩⟩
  · exact ⟨0, 0, 0, 0, 0, false, fun w _ => impl_Signed_no n s w (by omega), fun w => spec_Signed_no n s w (by omega), fun w => impl_KeyOf_no n w (by omega), fun w => spec_KeyOf_no n w (by omega), .inl ⟨rfl, rfl, rfl, rfl⟩⟩
end Go.Proofs.YtbjmijajngedoaaDoor.Sg
