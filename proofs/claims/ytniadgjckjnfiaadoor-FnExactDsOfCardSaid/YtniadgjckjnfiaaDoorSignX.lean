/-
  Valid: both answer alike, whatever the key, the text and the Sig.
-/
import Derived.Test.YtniadgjckjnfiaaDoorSignV
namespace Go.Proofs.YtniadgjckjnfiaaDoor.Sg
open Go.ChangeShapes Go.WideShapes Go.ChangeAt Go.RowKit
open Cv Cu
theorem pr' (p : Nat × Nat) : (p.1, p.2) = p := rfl
theorem ns_lt' {a b : Nat} (h : okN (a, b) = true) (n : Nat) : (ns (a, b) n).1 < 10007 ∧ (ns (a, b) n).2 < 10007 := ok_el (ns_ok h n)
theorem ns_ok' {a b : Nat} (h : okN (a, b) = true) (n : Nat) : okN ((ns (a, b) n).1, (ns (a, b) n).2) = true := by rw [pr']; exact ns_ok h n
set_option maxRecDepth 100000 in
set_option maxHeartbeats 4000000 in
theorem spec_Valid_no1 (K1 K2 R1 R2 T : Int) (s : ByteArray) (w : World) (h : okI K1 K2 = false) :
    Calls Tryd.prog 32 #[.agg #[.int .i64 K1, .int .i64 K2], .string s, .agg #[.int .i64 R1, .int .i64 R2, .int .i64 T]] w fun e w' => e = .returned (.bool false) ∧ Below w.heap.size w w' := by
  have ck := spec_PointOk K1 K2
  rw [h] at ck
  have CK := hidIt ck
  have B0 := hidIt (((Below.refl w.heap.size w).alloc (Nat.le_refl _) (.cells #[.int .i64 K1, .int .i64 K2] 23)).alloc (by simp) (.cells #[.int .i64 R1, .int .i64 R2, .int .i64 T] 25))
  have z0 : w.heap.size < w.heap.size + 1 + 1 := by omega
  clear ck h
  go_enter Tryd.func32, Tryd.ntmps32
  go_wp2_with (fail)
  refine (CK.out _).mono ?_
  rintro e w1 ⟨rfl, hb1⟩
  have B1 := hidIt (below_next B0.out hb1)
  clear hb1
  go_wp2_with (fail)
  go_ret
  exact ⟨rfl, B1.out⟩
set_option maxRecDepth 100000 in
set_option maxHeartbeats 4000000 in
theorem spec_Valid_no2 (K1 K2 R1 R2 T : Int) (s : ByteArray) (w : World) (h : okI K1 K2 = true) (h2 : okI R1 R2 = false) :
    Calls Tryd.prog 32 #[.agg #[.int .i64 K1, .int .i64 K2], .string s, .agg #[.int .i64 R1, .int .i64 R2, .int .i64 T]] w fun e w' => e = .returned (.bool false) ∧ Below w.heap.size w w' := by
  have ck := spec_PointOk K1 K2
  rw [h] at ck
  have CK := hidIt ck
  have cr := spec_PointOk R1 R2
  rw [h2] at cr
  have CR := hidIt cr
  have F0 := hidIt (five_new w K1 K2 R1 R2 T 23 25)
  have B0 := hidIt (((Below.refl w.heap.size w).alloc (Nat.le_refl _) (.cells #[.int .i64 K1, .int .i64 K2] 23)).alloc (by simp) (.cells #[.int .i64 R1, .int .i64 R2, .int .i64 T] 25))
  have z0 : w.heap.size < w.heap.size + 1 + 1 := by omega
  clear ck cr h h2
  go_enter Tryd.func32, Tryd.ntmps32
  go_wp2_with (fail)
  refine (CK.out _).mono ?_
  rintro e w1 ⟨rfl, hb1⟩
  have F1 : Five w1 w.heap.size K1 K2 R1 R2 T := five_kept hb1 F0.out (by simp)
  have B1 := hidIt (below_next B0.out hb1)
  have z1 : w.heap.size + 1 < w1.heap.size := by have := hb1.size; simp at this; omega
  obtain ⟨a0, a1, a2, a3, a4⟩ := F1
  clear hb1
  go_wp2_with (fail)
  refine (CR.out _).mono ?_
  rintro e w2 ⟨rfl, hb2⟩
  have B2 := hidIt (below_next B1.out hb2)
  clear hb2
  go_wp2_with (fail)
  go_ret
  exact ⟨rfl, B2.out⟩
set_option maxRecDepth 100000 in
set_option maxHeartbeats 4000000 in
theorem spec_Valid_no3 (K1 K2 R1 R2 T : Int) (s : ByteArray) (w : World) (h : okI K1 K2 = true) (h2 : okI R1 R2 = true) (h3 : ¬ 0 ≤ T ∨ 0 ≤ T ∧ ¬ T ≤ 2548) :
    Calls Tryd.prog 32 #[.agg #[.int .i64 K1, .int .i64 K2], .string s, .agg #[.int .i64 R1, .int .i64 R2, .int .i64 T]] w fun e w' => e = .returned (.bool false) ∧ Below w.heap.size w w' := by
  have ck := spec_PointOk K1 K2
  rw [h] at ck
  have CK := hidIt ck
  have cr := spec_PointOk R1 R2
  rw [h2] at cr
  have CR := hidIt cr
  have F0 := hidIt (five_new w K1 K2 R1 R2 T 23 25)
  have B0 := hidIt (((Below.refl w.heap.size w).alloc (Nat.le_refl _) (.cells #[.int .i64 K1, .int .i64 K2] 23)).alloc (by simp) (.cells #[.int .i64 R1, .int .i64 R2, .int .i64 T] 25))
  have z0 : w.heap.size < w.heap.size + 1 + 1 := by omega
  clear ck cr h h2
  rcases h3 with h3 | ⟨h3, h4⟩
  all_goals
    (try have h6 : decide (T ≤ 2548) = false := by simpa using h4)
    (try clear h4)
    go_enter Tryd.func32, Tryd.ntmps32
    go_wp2_with (fail)
    refine (CK.out _).mono ?_
    rintro e w1 ⟨rfl, hb1⟩
    have F1 : Five w1 w.heap.size K1 K2 R1 R2 T := five_kept hb1 F0.out (by simp)
    have B1 := hidIt (below_next B0.out hb1)
    have z1 : w.heap.size + 1 < w1.heap.size := by have := hb1.size; simp at this; omega
    have H1 := hidIt F1
    obtain ⟨a0, a1, a2, a3, a4⟩ := F1
    clear hb1
    go_wp2_with (fail)
    refine (CR.out _).mono ?_
    rintro e w2 ⟨rfl, hb2⟩
    have F2 := H1.out.next hb2 z1
    have B2 := hidIt (below_next B1.out hb2)
    have z2 : w.heap.size + 1 < w2.heap.size := by have := hb2.size; omega
    obtain ⟨f0, f1, f2, f3, f4⟩ := F2
    clear hb2 a0 a1 a2 a3 a4
    go_wp2_with (first | (go_at_call 44; go_in) | fail)
    go_ret
    exact ⟨rfl, B2.out⟩
/-- Is it valid? Of two Points, a text and a number from 0 to 2548. -/
def vaN (k1 k2 r1 r2 T : Nat) (s : ByteArray) : Bool := ((ns (2791, 6375) T).1 : Int) == ((adN (r1, r2) ((ns (k1, k2) (chN r1 r2 k1 k2 s)).1, (ns (k1, k2) (chN r1 r2 k1 k2 s)).2)).1 : Int) && ((ns (2791, 6375) T).2 : Int) == ((adN (r1, r2) ((ns (k1, k2) (chN r1 r2 k1 k2 s)).1, (ns (k1, k2) (chN r1 r2 k1 k2 s)).2)).2 : Int)
theorem spec_Valid_yes (k1 k2 r1 r2 T : Nat) (s : ByteArray) (w : World) (hk : okN (k1, k2) = true) (hr : okN (r1, r2) = true) (hT : T < 2549) (hs : s.size ≤ 4611686018427380000) :
    Calls Tryd.prog 32 #[.agg #[.int .i64 k1, .int .i64 k2], .string s, .agg #[.int .i64 r1, .int .i64 r2, .int .i64 T]] w fun e w' => e = .returned (.bool (vaN k1 k2 r1 r2 T s)) ∧ Below w.heap.size w w' := by
  have ck := spec_PointOk k1 k2
  rw [okI_cast, hk] at ck
  have cr := spec_PointOk r1 r2
  rw [okI_cast, hr] at cr
  have bk := ok_le hk
  have br := ok_le hr
  have hc := chN_lt r1 r2 k1 k2 s
  have cc := fun w => l3Challenge_any r1 r2 k1 k2 s w br.1 br.2 bk.1 bk.2 hs
  rw [vaN.eq_1]
  generalize chN r1 r2 k1 k2 s = c at hc cc ⊢
  have cp := fun w => l2Times_any k1 k2 c w hk (by omega)
  have hq := ns_lt' hk c
  have cs := fun w => l2Added_any r1 r2 (ns (k1, k2) c).1 (ns (k1, k2) c).2 w (ok_el hr).1 (ok_el hr).2 hq.1 hq.2
  have ca := fun w => l2Times_any 2791 6375 T w ok_base (by omega)
  generalize ns (2791, 6375) T = A at ca ⊢
  generalize adN (r1, r2) ((ns (k1, k2) c).1, (ns (k1, k2) c).2) = S at cs ⊢
  generalize ns (k1, k2) c = P at cp cs
  exact spec_Valid_aux k1 k2 r1 r2 T c P.1 P.2 S.1 S.2 A.1 A.2 s w hT ck cr cc cp cs ca
theorem impl_Valid_yes (k1 k2 r1 r2 T : Nat) (s : ByteArray) (w : World) (hk : okN (k1, k2) = true) (hr : okN (r1, r2) = true) (hT : T < 2549) (hs : s.size ≤ 4611686018427380000) (ht : Tab w) :
    Calls Tryd.prog 55 #[.agg #[.int .i64 k1, .int .i64 k2], .string s, .agg #[.int .i64 r1, .int .i64 r2, .int .i64 T]] w fun e w' => e = .returned (.bool (vaN k1 k2 r1 r2 T s)) ∧ Below w.heap.size w w' := by
  have hc := chN_lt r1 r2 k1 k2 s
  have cc := fun w t => impl_Challenge_yes r1 r2 k1 k2 s w hr hk (by omega) t
  rw [vaN.eq_1]
  generalize chN r1 r2 k1 k2 s = c at hc cc ⊢
  have hp := ns_ok' hk c
  have cp := fun w => impl_Times_yes c k1 k2 w hk (by omega)
  have cs := fun w => impl_Added_yes r1 r2 (ns (k1, k2) c).1 (ns (k1, k2) c).2 w hr hp
  have ca := fun w => timesBase_any T w (by omega)
  exact impl_Valid_aux k1 k2 r1 r2 T c _ _ _ _ _ _ s w ht hT cc cp cs ca
/-- Both answer alike. -/
theorem valid_both (K1 K2 : Int) (s : ByteArray) (R1 R2 T : Int) (hs : s.size ≤ 4611686018427380000) : ∃ f : Bool,
    (∀ w, Calls Tryd.prog 32 #[.agg #[.int .i64 K1, .int .i64 K2], .string s, .agg #[.int .i64 R1, .int .i64 R2, .int .i64 T]] w fun e w' => e = .returned (.bool f) ∧ Below w.heap.size w w') ∧
    (∀ w, Tab w → Calls Tryd.prog 55 #[.agg #[.int .i64 K1, .int .i64 K2], .string s, .agg #[.int .i64 R1, .int .i64 R2, .int .i64 T]] w fun e w' => e = .returned (.bool f) ∧ Below w.heap.size w w') := by
  by_cases hr : okI R1 R2 = true
  · by_cases hk : okI K1 K2 = true
    · obtain ⟨r1, r2, rfl, rfl, hr1⟩ := okI_nat hr
      obtain ⟨k1, k2, rfl, rfl, hk1⟩ := okI_nat hk
      by_cases hT : 0 ≤ T ∧ T < 2549
      · obtain ⟨t, rfl⟩ := Int.eq_ofNat_of_zero_le hT.1
        exact ⟨vaN k1 k2 r1 r2 t s, fun w => spec_Valid_yes k1 k2 r1 r2 t s w hk1 hr1 (by omega) hs, fun w h => impl_Valid_yes k1 k2 r1 r2 t s w hk1 hr1 (by omega) hs h⟩
      · refine ⟨false, fun w => spec_Valid_no3 k1 k2 r1 r2 T s w hk hr (by omega), fun w h => impl_Valid_no k1 k2 r1 r2 T (chN r1 r2 k1 k2 s) s w h (.inr ?_) (fun w t => impl_Challenge_yes r1 r2 k1 k2 s w hr1 hk1 (by omega) t)⟩
        have hc : (((chN r1 r2 k1 k2 s : Nat) : Int) == -1) = false := by generalize chN r1 r2 k1 k2 s = c; simp
        by_cases h1 : T < 0
        · exact .inl ⟨hc, h1⟩
        · exact .inr ⟨hc, h1, by omega⟩
    · have hk' : okI K1 K2 = false := by simpa using hk
      exact ⟨false, fun w => spec_Valid_no1 K1 K2 R1 R2 T s w hk', fun w h => impl_Valid_no K1 K2 R1 R2 T (-1) s w h (.inl rfl) (fun w _ => impl_Challenge_no R1 R2 K1 K2 s w (.inr ⟨hr, hk'⟩))⟩
  · have hr' : okI R1 R2 = false := by simpa using hr
    refine ⟨false, fun w => ?_, fun w h => impl_Valid_no K1 K2 R1 R2 T (-1) s w h (.inl rfl) (fun w _ => impl_Challenge_no R1 R2 K1 K2 s w (.inl hr'))⟩
    by_cases hk : okI K1 K2 = true
    · exact spec_Valid_no2 K1 K2 R1 R2 T s w hk hr'
    · exact spec_Valid_no1 K1 K2 R1 R2 T s w (by simpa using hk)
set_option maxRecDepth 100000 in
set_option maxHeartbeats 2000000 in
theorem toSig_any (x y t : Int) (w : World) : Calls Tryd.prog 35 #[.agg #[.int .i64 x, .int .i64 y, .int .i64 t]] w fun e w' => e = .returned (.agg #[.int .i64 x, .int .i64 y, .int .i64 t]) ∧ Below w.heap.size w w' := by
  have z0 : w.heap.size < w.heap.size + 1 + 1 + 1 := by omega
  go_enter Tryd.func35, Tryd.ntmps35
  go_wp2_with (fail)
  refine (toPoint_any _ _ _).mono ?_
  rintro e w1 ⟨rfl, hb1⟩
  obtain ⟨hc1, hf1⟩ := bcell hb1
  have z1 : w.heap.size + 1 + 1 < w1.heap.size := by have := hb1.size; simp at this; omega
  have z2 : w.heap.size + 1 < w1.heap.size := by omega
  have z3 : w.heap.size < w1.heap.size := by omega
  have z4 : w.heap.size + 1 < w.heap.size + 1 + 1 + 1 := by omega
  go_wp2_with (fail)
  refine bodyPost_ret (v := .agg #[.int .i64 x, .int .i64 y, .int .i64 t]) (by simp [results, Tryd.results35, go_sem, *]) rfl ⟨rfl, ?_⟩
  have b0 := ((((Below.refl w.heap.size w).alloc (Nat.le_refl _) _).alloc (by simp) _).alloc (by simp; omega) _).trans (hb1.mono (B' := w.heap.size) (by simp; omega))
  exact (((((b0.setCell (by simp; omega) _).setCell (by simp; omega) _).setCell (by simp; omega) _).setCell (by simp) _).setCell (by simp) _).setCell (by simp) _
end Go.Proofs.YtniadgjckjnfiaaDoor.Sg
