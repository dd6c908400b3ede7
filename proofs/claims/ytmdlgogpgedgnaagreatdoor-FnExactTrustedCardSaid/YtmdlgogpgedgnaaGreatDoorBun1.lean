/-
  Signed of the specification; two Sigs held against one another.
  Valid: both answer alike, whatever the key, the text and the Sig.
  Valid, in one plain function of any numbers and any text: both answer it.
  SealOf and Holds of the specification.
  Holds of the specification.
-/
import Derived.Test.YtmdlgogpgedgnaaGreatDoorSignU
import Derived.Test.YtmdlgogpgedgnaaGreatDoorSignV
import Derived.Test.YtmdlgogpgedgnaaGreatDoorRollM
import Derived.Test.YtmdlgogpgedgnaaGreatDoorBoxM
import Derived.Test.YtmdlgogpgedgnaaGreatDoorQuiet
namespace Go.Proofs.YtmdlgogpgedgnaaGreatDoor.Sg
open Go.ChangeShapes Go.WideShapes Go.ChangeAt Go.RowKit
open Cv Cu
set_option maxHeartbeats 2000000 in
theorem eqSig_same (x y t : Int) (w : World) : Calls Tryz.prog 35 #[.agg #[.int .i64 x, .int .i64 y, .int .i64 t], .agg #[.int .i64 x, .int .i64 y, .int .i64 t]] w fun e w' => e = .returned (.bool true) ∧ Below w.heap.size w w' := by
  have h1 : (t != t) = false := by simp
  have z0 : w.heap.size < w.heap.size + 1 + 1 := by omega
  go_enter Tryz.func35, Tryz.ntmps35
  go_wp2_with (fail)
  refine (eqPoint_same _ _ _).mono ?_
  rintro e w1 ⟨rfl, hb1⟩
  obtain ⟨hc1, hf1⟩ := bcell hb1
  have z1 : w.heap.size + 1 < w1.heap.size := by have := hb1.size; simp at this; omega
  go_wp2_with (fail)
  go_ret
  exact ⟨rfl, (((Below.refl _ _).alloc (Nat.le_refl _) _).alloc (by simp) _).trans (hb1.mono (B' := w.heap.size) (by simp; omega))⟩
end Go.Proofs.YtmdlgogpgedgnaaGreatDoor.Sg
namespace Go.Proofs.YtmdlgogpgedgnaaGreatDoor.Sg
open Go.ChangeShapes Go.WideShapes Go.ChangeAt Go.RowKit
open Cv Cu
theorem pr' (p : Nat × Nat) : (p.1, p.2) = p := rfl
theorem ns_lt' {a b : Nat} (h : okN (a, b) = true) (n : Nat) : (ns (a, b) n).1 < 10007 ∧ (ns (a, b) n).2 < 10007 := ok_el (ns_ok h n)
theorem ns_ok' {a b : Nat} (h : okN (a, b) = true) (n : Nat) : okN ((ns (a, b) n).1, (ns (a, b) n).2) = true := by rw [pr']; exact ns_ok h n
set_option maxRecDepth 100000 in
set_option maxHeartbeats 4000000 in
theorem spec_Valid_no1 (K1 K2 R1 R2 T : Int) (s : ByteArray) (w : World) (h : okI K1 K2 = false) :
    Calls Tryz.prog 27 #[.agg #[.int .i64 K1, .int .i64 K2], .string s, .agg #[.int .i64 R1, .int .i64 R2, .int .i64 T]] w fun e w' => e = .returned (.bool false) ∧ Below w.heap.size w w' := by
  have ck := spec_PointOk K1 K2
  rw [h] at ck
  have CK := hidIt ck
  have B0 := hidIt (((Below.refl w.heap.size w).alloc (Nat.le_refl _) (.cells #[.int .i64 K1, .int .i64 K2] 34)).alloc (by simp) (.cells #[.int .i64 R1, .int .i64 R2, .int .i64 T] 36))
  have z0 : w.heap.size < w.heap.size + 1 + 1 := by omega
  clear ck h
  go_enter Tryz.func27, Tryz.ntmps27
  go_wp2_with (fail)
  refine (CK.out _).mono ?_
  rintro e w1 ⟨rfl, hb1⟩
  have B1 := hidIt (below_next B0.out hb1)
  clear hb1
  go_wp2_with (fail)
  go_ret
  exact ⟨rfl, B1.out⟩
set_option maxRecDepth 100000 in
set_option maxHeartbeats 4000000 in
theorem spec_Valid_no2 (K1 K2 R1 R2 T : Int) (s : ByteArray) (w : World) (h : okI K1 K2 = true) (h2 : okI R1 R2 = false) :
    Calls Tryz.prog 27 #[.agg #[.int .i64 K1, .int .i64 K2], .string s, .agg #[.int .i64 R1, .int .i64 R2, .int .i64 T]] w fun e w' => e = .returned (.bool false) ∧ Below w.heap.size w w' := by
  have ck := spec_PointOk K1 K2
  rw [h] at ck
  have CK := hidIt ck
  have cr := spec_PointOk R1 R2
  rw [h2] at cr
  have CR := hidIt cr
  have F0 := hidIt (five_new w K1 K2 R1 R2 T 34 36)
  have B0 := hidIt (((Below.refl w.heap.size w).alloc (Nat.le_refl _) (.cells #[.int .i64 K1, .int .i64 K2] 34)).alloc (by simp) (.cells #[.int .i64 R1, .int .i64 R2, .int .i64 T] 36))
  have z0 : w.heap.size < w.heap.size + 1 + 1 := by omega
  clear ck cr h h2
  go_enter Tryz.func27, Tryz.ntmps27
  go_wp2_with (fail)
  refine (CK.out _).mono ?_
  rintro e w1 ⟨rfl, hb1⟩
  have F1 : Five w1 w.heap.size K1 K2 R1 R2 T := five_kept hb1 F0.out (by simp)
  have B1 := hidIt (below_next B0.out hb1)
  have z1 : w.heap.size + 1 < w1.heap.size := by have := hb1.size; simp at this; omega
  obtain ⟨a0, a1, a2, a3, a4⟩ := F1
  clear hb1
  go_wp2_with (fail)
  refine (CR.out _).mono ?_
  rintro e w2 ⟨rfl, hb2⟩
  have B2 := hidIt (below_next B1.out hb2)
  clear hb2
  go_wp2_with (fail)
  go_ret
  exact ⟨rfl, B2.out⟩
set_option maxRecDepth 100000 in
set_option maxHeartbeats 4000000 in
theorem spec_Valid_no3 (K1 K2 R1 R2 T : Int) (s : ByteArray) (w : World) (h : okI K1 K2 = true) (h2 : okI R1 R2 = true) (h3 : ¬ 0 ≤ T ∨ 0 ≤ T ∧ ¬ T ≤ 2548) :
    Calls Tryz.prog 27 #[.agg #[.int .i64 K1, .int .i64 K2], .string s, .agg #[.int .i64 R1, .int .i64 R2, .int .i64 T]] w fun e w' => e = .returned (.bool false) ∧ Below w.heap.size w w' := by
  have ck := spec_PointOk K1 K2
  rw [h] at ck
  have CK := hidIt ck
  have cr := spec_PointOk R1 R2
  rw [h2] at cr
  have CR := hidIt cr
  have F0 := hidIt (five_new w K1 K2 R1 R2 T 34 36)
  have B0 := hidIt (((Below.refl w.heap.size w).alloc (Nat.le_refl _) (.cells #[.int .i64 K1, .int .i64 K2] 34)).alloc (by simp) (.cells #[.int .i64 R1, .int .i64 R2, .int .i64 T] 36))
  have z0 : w.heap.size < w.heap.size + 1 + 1 := by omega
  clear ck cr h h2
  rcases h3 with h3 | ⟨h3, h4⟩
  all_goals
    (try have h6 : decide (T ≤ 2548) = false := by simpa using h4)
    (try clear h4)
    go_enter Tryz.func27, Tryz.ntmps27
    go_wp2_with (fail)
    refine (CK.out _).mono ?_
    rintro e w1 ⟨rfl, hb1⟩
    have F1 : Five w1 w.heap.size K1 K2 R1 R2 T := five_kept hb1 F0.out (by simp)
    have B1 := hidIt (below_next B0.out hb1)
    have z1 : w.heap.size + 1 < w1.heap.size := by have := hb1.size; simp at this; omega
    have H1 := hidIt F1
    obtain ⟨a0, a1, a2, a3, a4⟩ := F1
    clear hb1
    go_wp2_with (fail)
    refine (CR.out _).mono ?_
    rintro e w2 ⟨rfl, hb2⟩
    have F2 := H1.out.next hb2 z1
    have B2 := hidIt (below_next B1.out hb2)
    have z2 : w.heap.size + 1 < w2.heap.size := by have := hb2.size; omega
    obtain ⟨f0, f1, f2, f3, f4⟩ := F2
    clear hb2 a0 a1 a2 a3 a4
    go_wp2_with (first | (go_at_call 40; go_in) | fail)
    go_ret
    exact ⟨rfl, B2.out⟩
/-- Is it valid? Of two Points, a text and a number from 0 to 2548. -/
def vaN (k1 k2 r1 r2 T : Nat) (s : ByteArray) : Bool := ((ns (2791, 6375) T).1 : Int) == ((adN (r1, r2) ((ns (k1, k2) (chN r1 r2 k1 k2 s)).1, (ns (k1, k2) (chN r1 r2 k1 k2 s)).2)).1 : Int) && ((ns (2791, 6375) T).2 : Int) == ((adN (r1, r2) ((ns (k1, k2) (chN r1 r2 k1 k2 s)).1, (ns (k1, k2) (chN r1 r2 k1 k2 s)).2)).2 : Int)
theorem spec_Valid_yes (k1 k2 r1 r2 T : Nat) (s : ByteArray) (w : World) (hk : okN (k1, k2) = true) (hr : okN (r1, r2) = true) (hT : T < 2549) (hs : s.size ≤ 4611686018427380000) :
    Calls Tryz.prog 27 #[.agg #[.int .i64 k1, .int .i64 k2], .string s, .agg #[.int .i64 r1, .int .i64 r2, .int .i64 T]] w fun e w' => e = .returned (.bool (vaN k1 k2 r1 r2 T s)) ∧ Below w.heap.size w w' := by
  have ck := spec_PointOk k1 k2
  rw [okI_cast, hk] at ck
  have cr := spec_PointOk r1 r2
  rw [okI_cast, hr] at cr
  have bk := ok_le hk
  have br := ok_le hr
  have hc := chN_lt r1 r2 k1 k2 s
  have cc := fun w => l3Challenge_any r1 r2 k1 k2 s w br.1 br.2 bk.1 bk.2 hs
  rw [vaN.eq_1]
  generalize chN r1 r2 k1 k2 s = c at hc cc ⊢
  have cp := fun w => l2Times_any k1 k2 c w hk (by omega)
  have hq := ns_lt' hk c
  have cs := fun w => l2Added_any r1 r2 (ns (k1, k2) c).1 (ns (k1, k2) c).2 w (ok_el hr).1 (ok_el hr).2 hq.1 hq.2
  have ca := fun w => l2Times_any 2791 6375 T w ok_base (by omega)
  generalize ns (2791, 6375) T = A at ca ⊢
  generalize adN (r1, r2) ((ns (k1, k2) c).1, (ns (k1, k2) c).2) = S at cs ⊢
  generalize ns (k1, k2) c = P at cp cs
  exact spec_Valid_aux k1 k2 r1 r2 T c P.1 P.2 S.1 S.2 A.1 A.2 s w hT ck cr cc cp cs ca
theorem impl_Valid_yes (k1 k2 r1 r2 T : Nat) (s : ByteArray) (w : World) (hk : okN (k1, k2) = true) (hr : okN (r1, r2) = true) (hT : T < 2549) (hs : s.size ≤ 4611686018427380000) (ht : Tab w) :
    Calls Tryz.prog 65 #[.agg #[.int .i64 k1, .int .i64 k2], .string s, .agg #[.int .i64 r1, .int .i64 r2, .int .i64 T]] w fun e w' => e = .returned (.bool (vaN k1 k2 r1 r2 T s)) ∧ Below w.heap.size w w' := by
  have hc := chN_lt r1 r2 k1 k2 s
  have cc := fun w t => impl_Challenge_yes r1 r2 k1 k2 s w hr hk (by omega) t
  rw [vaN.eq_1]
  generalize chN r1 r2 k1 k2 s = c at hc cc ⊢
  have hp := ns_ok' hk c
  have cp := fun w => impl_Times_yes c k1 k2 w hk (by omega)
  have cs := fun w => impl_Added_yes r1 r2 (ns (k1, k2) c).1 (ns (k1, k2) c).2 w hr hp
  have ca := fun w => timesBase_any T w (by omega)
  exact impl_Valid_aux k1 k2 r1 r2 T c _ _ _ _ _ _ s w ht hT cc cp cs ca
/-- Both answer alike. -/
theorem valid_both (K1 K2 : Int) (s : ByteArray) (R1 R2 T : Int) (hs : s.size ≤ 4611686018427380000) : ∃ f : Bool,
    (∀ w, Calls Tryz.prog 27 #[.agg #[.int .i64 K1, .int .i64 K2], .string s, .agg #[.int .i64 R1, .int .i64 R2, .int .i64 T]] w fun e w' => e = .returned (.bool f) ∧ Below w.heap.size w w') ∧
    (∀ w, Tab w → Calls Tryz.prog 65 #[.agg #[.int .i64 K1, .int .i64 K2], .string s, .agg #[.int .i64 R1, .int .i64 R2, .int .i64 T]] w fun e w' => e = .returned (.bool f) ∧ Below w.heap.size w w') := by
  by_cases hr : okI R1 R2 = true
  · by_cases hk : okI K1 K2 = true
    · obtain ⟨r1, r2, rfl, rfl, hr1⟩ := okI_nat hr
      obtain ⟨k1, k2, rfl, rfl, hk1⟩ := okI_nat hk
      by_cases hT : 0 ≤ T ∧ T < 2549
      · obtain ⟨t, rfl⟩ := Int.eq_ofNat_of_zero_le hT.1
        exact ⟨vaN k1 k2 r1 r2 t s, fun w => spec_Valid_yes k1 k2 r1 r2 t s w hk1 hr1 (by omega) hs, fun w h => impl_Valid_yes k1 k2 r1 r2 t s w hk1 hr1 (by omega) hs h⟩
      · refine ⟨false, fun w => spec_Valid_no3 k1 k2 r1 r2 T s w hk hr (by omega), fun w h => impl_Valid_no k1 k2 r1 r2 T (chN r1 r2 k1 k2 s) s w h (.inr ?_) (fun w t => impl_Challenge_yes r1 r2 k1 k2 s w hr1 hk1 (by omega) t)⟩
        have hc : (((chN r1 r2 k1 k2 s : Nat) : Int) == -1) = false := by generalize chN r1 r2 k1 k2 s = c; simp
        by_cases h1 : T < 0
        · exact .inl ⟨hc, h1⟩
        · exact .inr ⟨hc, h1, by omega⟩
    · have hk' : okI K1 K2 = false := by simpa using hk
      exact ⟨false, fun w => spec_Valid_no1 K1 K2 R1 R2 T s w hk', fun w h => impl_Valid_no K1 K2 R1 R2 T (-1) s w h (.inl rfl) (fun w _ => impl_Challenge_no R1 R2 K1 K2 s w (.inr ⟨hr, hk'⟩))⟩
  · have hr' : okI R1 R2 = false := by simpa using hr
    refine ⟨false, fun w => ?_, fun w h => impl_Valid_no K1 K2 R1 R2 T (-1) s w h (.inl rfl) (fun w _ => impl_Challenge_no R1 R2 K1 K2 s w (.inl hr'))⟩
    by_cases hk : okI K1 K2 = true
    · exact spec_Valid_no2 K1 K2 R1 R2 T s w hk hr'
    · exact spec_Valid_no1 K1 K2 R1 R2 T s w (by simpa using hk)
set_option maxRecDepth 100000 in
set_option maxHeartbeats 2000000 in
theorem toSig_any (x y t : Int) (w : World) : Calls Tryz.prog 18 #[.agg #[.int .i64 x, .int .i64 y, .int .i64 t]] w fun e w' => e = .returned (.agg #[.int .i64 x, .int .i64 y, .int .i64 t]) ∧ Below w.heap.size w w' := by
  have z0 : w.heap.size < w.heap.size + 1 + 1 + 1 := by omega
  go_enter Tryz.func18, Tryz.ntmps18
  go_wp2_with (fail)
  refine (toPoint_any _ _ _).mono ?_
  rintro e w1 ⟨rfl, hb1⟩
  obtain ⟨hc1, hf1⟩ := bcell hb1
  have z1 : w.heap.size + 1 + 1 < w1.heap.size := by have := hb1.size; simp at this; omega
  have z2 : w.heap.size + 1 < w1.heap.size := by omega
  have z3 : w.heap.size < w1.heap.size := by omega
  have z4 : w.heap.size + 1 < w.heap.size + 1 + 1 + 1 := by omega
  go_wp2_with (fail)
  refine bodyPost_ret (v := .agg #[.int .i64 x, .int .i64 y, .int .i64 t]) (by simp [results, Tryz.results18, go_sem, *]) rfl ⟨rfl, ?_⟩
  have b0 := ((((Below.refl w.heap.size w).alloc (Nat.le_refl _) _).alloc (by simp) _).alloc (by simp; omega) _).trans (hb1.mono (B' := w.heap.size) (by simp; omega))
  exact (((((b0.setCell (by simp; omega) _).setCell (by simp; omega) _).setCell (by simp; omega) _).setCell (by simp) _).setCell (by simp) _).setCell (by simp) _
end Go.Proofs.YtmdlgogpgedgnaaGreatDoor.Sg
namespace Go.Proofs.YtmdlgogpgedgnaaGreatDoor.Sg
open Go.ChangeShapes Go.WideShapes Go.ChangeAt Go.RowKit
open Cv Cu
def validB (K1 K2 : Int) (s : ByteArray) (R1 R2 T : Int) : Bool :=
  okI R1 R2 && (okI K1 K2 && (decide (0 ≤ T ∧ T < 2549) && vaN K1.toNat K2.toNat R1.toNat R2.toNat T.toNat s))
theorem validB_yes {k1 k2 r1 r2 t : Nat} (s : ByteArray) (hk : okN (k1, k2) = true) (hr : okN (r1, r2) = true) (hT : t < 2549) : validB k1 k2 s r1 r2 t = vaN k1 k2 r1 r2 t s := by
  unfold validB
  rw [okI_cast, hr, okI_cast, hk, decide_eq_true (by omega)]
  rfl
theorem validB_noR {K1 K2 R1 R2 T : Int} {s : ByteArray} (h : okI R1 R2 = false) : validB K1 K2 s R1 R2 T = false := by unfold validB; rw [h, Bool.false_and]
theorem validB_noK {K1 K2 R1 R2 T : Int} {s : ByteArray} (h : okI K1 K2 = false) : validB K1 K2 s R1 R2 T = false := by unfold validB; rw [h, Bool.false_and, Bool.and_false]
theorem validB_noT {K1 K2 R1 R2 T : Int} {s : ByteArray} (h : ¬ (0 ≤ T ∧ T < 2549)) : validB K1 K2 s R1 R2 T = false := by unfold validB; rw [decide_eq_false h, Bool.false_and, Bool.and_false, Bool.and_false]
theorem spec_Valid_any (K1 K2 : Int) (s : ByteArray) (R1 R2 T : Int) (w : World) (hs : s.size ≤ 4611686018427380000) :
    Calls Tryz.prog 27 #[.agg #[.int .i64 K1, .int .i64 K2], .string s, .agg #[.int .i64 R1, .int .i64 R2, .int .i64 T]] w fun e w' => e = .returned (.bool (validB K1 K2 s R1 R2 T)) ∧ Below w.heap.size w w' := by
  by_cases hk : okI K1 K2 = true
  · by_cases hr : okI R1 R2 = true
    · obtain ⟨r1, r2, rfl, rfl, hr1⟩ := okI_nat hr
      obtain ⟨k1, k2, rfl, rfl, hk1⟩ := okI_nat hk
      by_cases hT : 0 ≤ T ∧ T < 2549
      · obtain ⟨t, rfl⟩ := Int.eq_ofNat_of_zero_le hT.1
        rw [validB_yes s hk1 hr1 (by omega)]
        exact spec_Valid_yes k1 k2 r1 r2 t s w hk1 hr1 (by omega) hs
      · rw [validB_noT hT]
        exact spec_Valid_no3 k1 k2 r1 r2 T s w hk hr (by omega)
    · have hr' : okI R1 R2 = false := by simpa using hr
      rw [validB_noR hr']
      exact spec_Valid_no2 K1 K2 R1 R2 T s w hk hr'
  · have hk' : okI K1 K2 = false := by simpa using hk
    rw [validB_noK hk']
    exact spec_Valid_no1 K1 K2 R1 R2 T s w hk'
theorem impl_Valid_any (K1 K2 : Int) (s : ByteArray) (R1 R2 T : Int) (w : World) (h : Tab w) (hs : s.size ≤ 4611686018427380000) :
    Calls Tryz.prog 65 #[.agg #[.int .i64 K1, .int .i64 K2], .string s, .agg #[.int .i64 R1, .int .i64 R2, .int .i64 T]] w fun e w' => e = .returned (.bool (validB K1 K2 s R1 R2 T)) ∧ Below w.heap.size w w' := by
  by_cases hr : okI R1 R2 = true
  · by_cases hk : okI K1 K2 = true
    · obtain ⟨r1, r2, rfl, rfl, hr1⟩ := okI_nat hr
      obtain ⟨k1, k2, rfl, rfl, hk1⟩ := okI_nat hk
      by_cases hT : 0 ≤ T ∧ T < 2549
      · obtain ⟨t, rfl⟩ := Int.eq_ofNat_of_zero_le hT.1
        rw [validB_yes s hk1 hr1 (by omega)]
        exact impl_Valid_yes k1 k2 r1 r2 t s w hk1 hr1 (by omega) hs h
      · rw [validB_noT hT]
        refine impl_Valid_no k1 k2 r1 r2 T (chN r1 r2 k1 k2 s) s w h (.inr ?_) (fun w t => impl_Challenge_yes r1 r2 k1 k2 s w hr1 hk1 (by omega) t)
        have hc : (((chN r1 r2 k1 k2 s : Nat) : Int) == -1) = false := by generalize chN r1 r2 k1 k2 s = c; simp
        by_cases h1 : T < 0
        · exact .inl ⟨hc, h1⟩
        · exact .inr ⟨hc, h1, by omega⟩
    · have hk' : okI K1 K2 = false := by simpa using hk
      rw [validB_noK hk']
      exact impl_Valid_no K1 K2 R1 R2 T (-1) s w h (.inl rfl) (fun w _ => impl_Challenge_no R1 R2 K1 K2 s w (.inr ⟨hr, hk'⟩))
  · have hr' : okI R1 R2 = false := by simpa using hr
    rw [validB_noR hr']
    exact impl_Valid_no K1 K2 R1 R2 T (-1) s w h (.inl rfl) (fun w _ => impl_Challenge_no R1 R2 K1 K2 s w (.inl hr'))
end Go.Proofs.YtmdlgogpgedgnaaGreatDoor.Sg
namespace Go.Proofs.YtmdlgogpgedgnaaGreatDoor.Dd
open Go.ChangeShapes Go.WideShapes Go.ChangeAt Go.RowKit
open Cv Cu Sg
open Go.Proofs.YtmdlgogpgedgnaaGreatDoor.Bo (Box Box.new Box.newAt Box.kept Box.alloc Box.put Box.other Box.c Box.drew)
open Go.Proofs.YtmdlgogpgedgnaaGreatDoor.Ro (timB secB inB)
open Go.Proofs.YtmdlgogpgedgnaaGreatDoor.Ro (spec_l9Time)
open Go.Proofs.YtmdlgogpgedgnaaGreatDoor.Rc (BelowBy wp_region_below calls_below calls_same)
set_option linter.unusedVariables false
/-- The cells of a Seal, and the Seal. -/
abbrev sc (k1 k2 u r1 r2 t : Int) : Array Value := #[.int .i64 k1, .int .i64 k2, .int .i64 u, .int .i64 r1, .int .i64 r2, .int .i64 t]
abbrev sv (k1 k2 u r1 r2 t : Int) : Value := .agg (sc k1 k2 u r1 r2 t)
theorem ret_box {fn : Func} {tm : Array Value} {wf : World} {b : Nat} {c : Array Value} {v : Value} (t : Box wf b c) (h : ∀ w2, Box w2 b c → (results fn tm).run Tryz.prog w2 = .ok v w2) : (results fn tm).run Tryz.prog wf = .ok v wf := h wf t
/-- What is sealed: Until, a blank, the text. -/
def stx (u : Nat) (s : ByteArray) : ByteArray := numS u ++ Sg.blank ++ s
theorem stx_eq (u : Nat) (s : ByteArray) : stx u s = numS u ++ ⟨#[32]⟩ ++ s := rfl
theorem stx_size {u : Nat} {s : ByteArray} (hu : u ≤ 1099511627776) : (stx u s).size ≤ s.size + 22 := by
  have := numS_size u hu
  unfold stx
  rw [ByteArray.size_append, ByteArray.size_append, Sg.blank_size]
  omega
def holdsB (K1 K2 u R1 R2 T : Int) (s : ByteArray) (now : Int) : Bool :=
  timB u && (timB now && (decide (now < u) && validB K1 K2 (stx u.toNat s) R1 R2 T))
theorem tim_nat {u : Int} (h : timB u = true) : ∃ m : Nat, u = (m : Int) ∧ m ≤ 1000000 := by
  unfold timB inB at h
  simp only [Bool.and_eq_true, decide_eq_true_eq] at h
  exact ⟨u.toNat, by omega, by omega⟩
theorem sec_nat {u : Int} (h : secB u = true) : ∃ m : Nat, u = (m : Int) ∧ 0 < m ∧ m < 2549 := by
  unfold secB inB at h
  simp only [Bool.and_eq_true, decide_eq_true_eq] at h
  exact ⟨u.toNat, by omega, by omega, by omega⟩
/-- The Seal of a secret, a time and a text. -/
def sealN (n u : Nat) (s : ByteArray) : Int × Int × Int × Int × Int × Int :=
  (((ns (2791, 6375) n).1 : Int), ((ns (2791, 6375) n).2 : Int), (u : Int), ((sgR n (stx u s)).1 : Int), ((sgR n (stx u s)).2 : Int), (sgT n (stx u s) : Int))
theorem sealN_eq (n u : Nat) (s : ByteArray) : sealN n u s = (((ns (2791, 6375) n).1 : Int), ((ns (2791, 6375) n).2 : Int), (u : Int), ((sgR n (stx u s)).1 : Int), ((sgR n (stx u s)).2 : Int), (sgT n (stx u s) : Int)) := sealN.eq_1 n u s
/-- SealOf's answer. -/
def sealR (n : Int) (s : ByteArray) (u : Int) : (Int × Int × Int × Int × Int × Int) × Bool :=
  if secB n && timB u then (sealN n.toNat u.toNat s, true) else ((0, 0, 0, 0, 0, 0), false)
abbrev svt (q : Int × Int × Int × Int × Int × Int) : Value := sv q.1 q.2.1 q.2.2.1 q.2.2.2.1 q.2.2.2.2.1 q.2.2.2.2.2
theorem sealR_yes {n u : Nat} {s : ByteArray} (h : secB n = true) (h' : timB u = true) : sealR n s u = (sealN n u s, true) := by
  unfold sealR
  rw [h, h', Int.toNat_natCast, Int.toNat_natCast]
  rfl
theorem sealR_no {n u : Int} {s : ByteArray} (h : secB n = false ∨ timB u = false) : sealR n s u = ((0, 0, 0, 0, 0, 0), false) := by
  unfold sealR
  rcases h with h | h
  · rw [h]; rfl
  · rw [h, Bool.and_false]; rfl
end Go.Proofs.YtmdlgogpgedgnaaGreatDoor.Dd
namespace Go.Proofs.YtmdlgogpgedgnaaGreatDoor.Dd
open Go.ChangeShapes Go.WideShapes Go.ChangeAt Go.RowKit
open Cv Cu Sg
open Go.Proofs.YtmdlgogpgedgnaaGreatDoor.Bo (Box Box.new Box.newAt Box.kept Box.alloc Box.put Box.other Box.c Box.drew)
open Go.Proofs.YtmdlgogpgedgnaaGreatDoor.Ro (timB secB inB)
open Go.Proofs.YtmdlgogpgedgnaaGreatDoor.Ro (spec_l9Time)
open Go.Proofs.YtmdlgogpgedgnaaGreatDoor.Rc (BelowBy wp_region_below calls_below calls_same)
set_option linter.unusedVariables false
set_option maxRecDepth 100000 in
set_option maxHeartbeats 4000000 in
theorem spec_Holds (K1 K2 u R1 R2 T : Int) (s : ByteArray) (now : Int) (w : World) (hs : s.size ≤ 4611686018427370000) :
    Calls Tryz.prog 14 #[sv K1 K2 u R1 R2 T, .string s, .int .i64 now] w fun e w' => e = .returned (.bool (holdsB K1 K2 u R1 R2 T s now)) ∧ Below w.heap.size w w' := by
  have CU := hidIt (fun W => spec_l9Time u W)
  have CN := hidIt (fun W => spec_l9Time now W)
  have CI : Hid (timB u = true → ∀ W, Calls Tryz.prog 28 #[.int .i64 u] W fun e w' => e = .returned (.string (numS u.toNat)) ∧ Below W.heap.size W w') := hidIt (fun h W => by
    obtain ⟨m, rfl, hm⟩ := tim_nat h
    exact l1Int_any m W (by omega))
  have hx : timB u = true → (numS u.toNat).size ≤ 21 := fun h => by
    obtain ⟨m, rfl, hm⟩ := tim_nat h
    exact numS_size m (by omega)
  have CV : Hid (timB u = true → ∀ W, Calls Tryz.prog 27 #[.agg #[.int .i64 K1, .int .i64 K2], .string (numS u.toNat ++ ⟨#[32]⟩ ++ s), .agg #[.int .i64 R1, .int .i64 R2, .int .i64 T]] W fun e w' => e = .returned (.bool (validB K1 K2 (stx u.toNat s) R1 R2 T)) ∧ Below W.heap.size W w') := hidIt (fun h W => by
    obtain ⟨m, rfl, hm⟩ := tim_nat h
    exact spec_Valid_any K1 K2 (stx m s) R1 R2 T W (by have := stx_size (u := m) (s := s) (by omega); omega))
  unfold holdsB
  generalize validB K1 K2 (stx u.toNat s) R1 R2 T = va at CV ⊢
  generalize numS u.toNat = x at CI CV hx
  generalize timB now = tn at *
  cases htu : timB u with
  | false =>
    rw [htu] at CU
    clear hx CV CI htu
    have BA := Box.new w (sc K1 K2 u R1 R2 T) 38
    have HB : Hid (Below w.heap.size w (w.alloc (.cells (sc K1 K2 u R1 R2 T) 38))) := hidIt ((Below.refl w.heap.size w).alloc (Nat.le_refl _) _)
    go_enter Tryz.func14, Tryz.ntmps14
    go_upto_region 1 with fail
    generalize w.alloc (.cells (sc K1 K2 u R1 R2 T) 38) = wz at BA HB ⊢
    haveI := BelowBy.one wz
    have g0 := fun p : BelowBy wz => p.cell (BA.c 0 (v := .int .i64 K1) rfl)
    have g1 := fun p : BelowBy wz => p.cell (BA.c 1 (v := .int .i64 K2) rfl)
    have g2 := fun p : BelowBy wz => p.cell (BA.c 2 (v := .int .i64 u) rfl)
    have g3 := fun p : BelowBy wz => p.cell (BA.c 3 (v := .int .i64 R1) rfl)
    have g4 := fun p : BelowBy wz => p.cell (BA.c 4 (v := .int .i64 R2) rfl)
    have g5 := fun p : BelowBy wz => p.cell (BA.c 5 (v := .int .i64 T) rfl)
    clear BA
    refine wp_region_below (by kernel_rfl) (by kernel_rfl) ?_
    repeat (go_big_quiet_step (first | (go_at_call 26; first | (with_reducible exact calls_same (CU.out _)) | (with_reducible exact calls_same (CN.out _)))))
    refine wpQuiet_nil ?_
    intro _ hw'
    obtain ⟨pq, rfl⟩ := hw'
    have k2 := pq.h
    generalize pq.world = w2 at k2 ⊢
    replace HB := hidIt (HB.out.trans (k2.mono HB.out.size))
    clear k2 g0 g1 g2 g3 g4 g5
    go_wp2_with (fail)
    go_ret
    exact ⟨rfl, HB.out⟩
  | true =>
    replace CI := hidIt (CI.out htu)
    replace CV := hidIt (CV.out htu)
    replace hx := hx htu
    rw [htu] at CU
    clear htu
    have q0 : (⟨#[32]⟩ : ByteArray).size = 1 := rfl
    have q1 : ¬ 9223372036854775807 < x.size + 1 := by omega
    have q2 : ¬ 9223372036854775807 < x.size + 1 + s.size := by omega
    cases tn with
    | false =>
      have BA := Box.new w (sc K1 K2 u R1 R2 T) 38
      have HB : Hid (Below w.heap.size w (w.alloc (.cells (sc K1 K2 u R1 R2 T) 38))) := hidIt ((Below.refl w.heap.size w).alloc (Nat.le_refl _) _)
      go_enter Tryz.func14, Tryz.ntmps14
      go_upto_region 1 with fail
      generalize w.alloc (.cells (sc K1 K2 u R1 R2 T) 38) = wz at BA HB ⊢
      haveI := BelowBy.one wz
      have g0 := fun p : BelowBy wz => p.cell (BA.c 0 (v := .int .i64 K1) rfl)
      have g1 := fun p : BelowBy wz => p.cell (BA.c 1 (v := .int .i64 K2) rfl)
      have g2 := fun p : BelowBy wz => p.cell (BA.c 2 (v := .int .i64 u) rfl)
      have g3 := fun p : BelowBy wz => p.cell (BA.c 3 (v := .int .i64 R1) rfl)
      have g4 := fun p : BelowBy wz => p.cell (BA.c 4 (v := .int .i64 R2) rfl)
      have g5 := fun p : BelowBy wz => p.cell (BA.c 5 (v := .int .i64 T) rfl)
      clear BA
      refine wp_region_below (by kernel_rfl) (by kernel_rfl) ?_
      repeat (go_big_quiet_step (first | (go_at_call 26; first | (with_reducible exact calls_same (CU.out _)) | (with_reducible exact calls_same (CN.out _)))))
      refine wpQuiet_nil ?_
      intro _ hw'
      obtain ⟨pq, rfl⟩ := hw'
      have k2 := pq.h
      generalize pq.world = w2 at k2 ⊢
      replace HB := hidIt (HB.out.trans (k2.mono HB.out.size))
      clear k2 g0 g1 g2 g3 g4 g5
      go_wp2_with (fail)
      go_ret
      exact ⟨rfl, HB.out⟩
    | true =>
      by_cases hlt : now < u
      · have hd : decide (now < u) = true := decide_eq_true hlt
        rw [hd]
        have BA := Box.new w (sc K1 K2 u R1 R2 T) 38
        have HB : Hid (Below w.heap.size w (w.alloc (.cells (sc K1 K2 u R1 R2 T) 38))) := hidIt ((Below.refl w.heap.size w).alloc (Nat.le_refl _) _)
        go_enter Tryz.func14, Tryz.ntmps14
        go_upto_region 1 with fail
        generalize w.alloc (.cells (sc K1 K2 u R1 R2 T) 38) = wz at BA HB ⊢
        haveI := BelowBy.one wz
        have g0 := fun p : BelowBy wz => p.cell (BA.c 0 (v := .int .i64 K1) rfl)
        have g1 := fun p : BelowBy wz => p.cell (BA.c 1 (v := .int .i64 K2) rfl)
        have g2 := fun p : BelowBy wz => p.cell (BA.c 2 (v := .int .i64 u) rfl)
        have g3 := fun p : BelowBy wz => p.cell (BA.c 3 (v := .int .i64 R1) rfl)
        have g4 := fun p : BelowBy wz => p.cell (BA.c 4 (v := .int .i64 R2) rfl)
        have g5 := fun p : BelowBy wz => p.cell (BA.c 5 (v := .int .i64 T) rfl)
        clear BA
        refine wp_region_below (by kernel_rfl) (by kernel_rfl) ?_
        repeat (go_big_quiet_step (first | (go_at_call 26; first | (with_reducible exact calls_same (CU.out _)) | (with_reducible exact calls_same (CN.out _))) | (go_at_call 28; exact calls_below (CI.out _)) | (go_at_call 27; exact calls_below (CV.out _))))
        refine wpQuiet_nil ?_
        intro _ hw'
        obtain ⟨pq, rfl⟩ := hw'
        have k2 := pq.h
        generalize pq.world = w2 at k2 ⊢
        replace HB := hidIt (HB.out.trans (k2.mono HB.out.size))
        clear k2 g0 g1 g2 g3 g4 g5
        go_wp2_with (fail)
        go_ret
        exact ⟨by cases va <;> rfl, HB.out⟩
      · have hd : decide (now < u) = false := decide_eq_false hlt
        rw [hd]
        have BA := Box.new w (sc K1 K2 u R1 R2 T) 38
        have HB : Hid (Below w.heap.size w (w.alloc (.cells (sc K1 K2 u R1 R2 T) 38))) := hidIt ((Below.refl w.heap.size w).alloc (Nat.le_refl _) _)
        go_enter Tryz.func14, Tryz.ntmps14
        go_upto_region 1 with fail
        generalize w.alloc (.cells (sc K1 K2 u R1 R2 T) 38) = wz at BA HB ⊢
        haveI := BelowBy.one wz
        have g0 := fun p : BelowBy wz => p.cell (BA.c 0 (v := .int .i64 K1) rfl)
        have g1 := fun p : BelowBy wz => p.cell (BA.c 1 (v := .int .i64 K2) rfl)
        have g2 := fun p : BelowBy wz => p.cell (BA.c 2 (v := .int .i64 u) rfl)
        have g3 := fun p : BelowBy wz => p.cell (BA.c 3 (v := .int .i64 R1) rfl)
        have g4 := fun p : BelowBy wz => p.cell (BA.c 4 (v := .int .i64 R2) rfl)
        have g5 := fun p : BelowBy wz => p.cell (BA.c 5 (v := .int .i64 T) rfl)
        clear BA
        refine wp_region_below (by kernel_rfl) (by kernel_rfl) ?_
        repeat (go_big_quiet_step (first | (go_at_call 26; first | (with_reducible exact calls_same (CU.out _)) | (with_reducible exact calls_same (CN.out _)))))
        refine wpQuiet_nil ?_
        intro _ hw'
        obtain ⟨pq, rfl⟩ := hw'
        have k2 := pq.h
        generalize pq.world = w2 at k2 ⊢
        replace HB := hidIt (HB.out.trans (k2.mono HB.out.size))
        clear k2 g0 g1 g2 g3 g4 g5
        go_wp2_with (fail)
        go_ret
        exact ⟨rfl, HB.out⟩
end Go.Proofs.YtmdlgogpgedgnaaGreatDoor.Dd
