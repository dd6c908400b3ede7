/-
  FnExactTimes answers true at every n and every Point and leaves them as they were: Times of the program answers as the specification's. No condition.
-/
import Derived.Test.YthejkafdoomhoabRows
import Derived.WalkKit
import Derived.ProofKit
import Derived.OpenShut
import Derived.ShutString
import Derived.ChangeOld
import Derived.Below
import Derived.Lib.SmallJoins
import Derived.Test.YthejkafdoomhoabLawC
import Derived.Test.YthejkafdoomhoabCurveX
namespace Go.Proofs.Ythejkafdoomhoab.fnExactTimes
open Go.ChangeShapes Go.WideShapes Go.ChangeAt Go.RowKit Go.Joins
set_option linter.unusedVariables false

theorem own : ownKnob Try.prog.godebug = none := by kernel_rfl
theorem laidOut : laidOutB Try.prog = true := by kernel_rfl
theorem cells23 : Try.prog.cellsOf 23 = 2 := by kernel_rfl
open Cv Cu
/-- Both answer alike: n times the Point, or the zero Point and false. -/
theorem both (n x y : Int) : ∃ (u v : Int) (f : Bool), (∀ w, Calls Try.prog 9 #[.int .i64 n, .agg #[.int .i64 x, .int .i64 y]] w fun e w' => e = .returned (.tuple #[.agg #[.int .i64 u, .int .i64 v], .bool f]) ∧ Below w.heap.size w w') ∧ (∀ w, Calls Try.prog 10 #[.int .i64 n, .agg #[.int .i64 x, .int .i64 y]] w fun e w' => e = .returned (.tuple #[.agg #[.int .i64 u, .int .i64 v], .bool f]) ∧ Below w.heap.size w w') := by
  by_cases h : okI x y = true
  · by_cases h1 : n < 0
    · exact ⟨0, 0, false, fun w => spec_Times_no n x y w (.inr (.inl ⟨h, h1⟩)), fun w => impl_Times_no n x y w (.inr (.inl ⟨h, h1⟩))⟩
    · by_cases h2 : 1099511627776 < n
      · exact ⟨0, 0, false, fun w => spec_Times_no n x y w (.inr (.inr ⟨h, h1, h2⟩)), fun w => impl_Times_no n x y w (.inr (.inr ⟨h, h1, h2⟩))⟩
      · obtain ⟨a, b, rfl, rfl, h3⟩ := okI_nat h
        obtain ⟨m, rfl⟩ := Int.eq_ofNat_of_zero_le (show 0 ≤ n by omega)
        exact ⟨_, _, _, fun w => spec_Times_yes m a b w h3 (by omega), fun w => impl_Times_yes m a b w h3 (by omega)⟩
  · have h' : okI x y = false := by simpa using h
    exact ⟨0, 0, false, fun w => spec_Times_no n x y w (.inl h'), fun w => impl_Times_no n x y w (.inl h')⟩
set_option maxRecDepth 100000 in
set_option maxHeartbeats 4000000 in

theorem walk (n0 x1 y1 : Int) (w : World) :
    Calls Try.prog 4 #[.int .i64 n0, .agg #[.int .i64 x1, .int .i64 y1]] w fun e w' => e = .returned (.bool true) ∧ Below w.heap.size w w' := by
  obtain ⟨u, v, f, c1, c2⟩ := both n0 x1 y1
  have C1 := Hid.mk' c1
  have C2 := Hid.mk' c2
  clear c1 c2
  have hff : (f != f) = false := by simp
  go_enter Try.func4, Try.ntmps4
  go_wp2_with (fail)
  refine (toPoint_any _ _ _).mono ?_
  rintro e wA ⟨rfl, hbA⟩
  obtain ⟨hcA, hfA⟩ := bcell hbA
  have zA : w.heap.size < wA.heap.size := by have := hbA.size; simp at this; omega
  go_wp2_with (fail)
  refine (C1.out _).mono ?_
  rintro e wB ⟨rfl, hbB⟩
  obtain ⟨hcB, hfB⟩ := bcell hbB
  have zB : w.heap.size < wB.heap.size := by have := hbB.size; omega
  have zB1 : w.heap.size < wB.heap.size + 1 := by omega
  have nB : ¬ w.heap.size = wB.heap.size := by omega
  go_wp2_with (fail)
  refine (toPoint_any _ _ _).mono ?_
  rintro e wC ⟨rfl, hbC⟩
  obtain ⟨hcC, hfC⟩ := bcell hbC
  have zC : wB.heap.size < wC.heap.size := by have := hbC.size; simp at this; omega
  go_wp2_with (fail)
  refine (C2.out _).mono ?_
  rintro e wD ⟨rfl, hbD⟩
  obtain ⟨hcD, hfD⟩ := bcell hbD
  have zD : wB.heap.size < wD.heap.size := by have := hbD.size; omega
  go_wp2_with (fail)
  refine (eqPoint_same _ _ _).mono ?_
  rintro e wE ⟨rfl, hbE⟩
  go_wp2_with (fail)
  go_ret
  have b1 := (((Below.refl w.heap.size w).alloc (Nat.le_refl _) _).trans (hbA.mono (B' := w.heap.size) (by simp))).trans (hbB.mono (B' := w.heap.size) (by omega))
  have b2 := ((b1.alloc (by omega) _).trans (hbC.mono (B' := w.heap.size) (by simp; omega))).trans (hbD.mono (B' := w.heap.size) (by omega))
  exact ⟨rfl, (b2.alloc (by omega) _).trans (hbE.mono (B' := w.heap.size) (by simp; omega))⟩

set_option maxRecDepth 100000 in
theorem lifted (os : Os) (started : os.Started) (H : Type) (enc : TypeId × Value → H) :
    ReturnsInHanded {} Try.checked os 4 .any (Rows.fnExactTimesSpec.pre6 enc Try.prog Try.f4 Rows.fnExactTimesRow.domain false) (Rows.fnExactTimesSpec.post enc Try.prog Try.f4 false true false false) := by
  refine returnsInHanded_of_change (C := Try.checked) own started (by kernel_rfl) Try.func4
    (ChangeSpec.witness6 (enc := enc) (C := Try.checked) false ⟨#[], #[.int .i64 0, .agg #[.int .i64 0, .int .i64 0]], []⟩ 8 (by kernel_rfl) (by kernel_rfl) (by kernel_rfl) (by kernel_rfl)) ?_
  intro W base args ds gs before hval0 hW hcnd _
  have hval : ∀ (j : Nat) t v, Try.f4.params[j]? = some t → args[j]? = some v → Value.okWide Try.prog W .any base t v := hval0
  have hW' := hW
  obtain ⟨p, q, hA0, hV, rfl, hfz, hnd⟩ := hW
  have hA : DataW.TrodAll enc Try.prog W 0 (fun _ => true) true Try.f4.params.toList args.toList ds p := hA0
  rw [Try.params4] at hA hval
  obtain ⟨v0, vs0, d0, ds0, p0, q0, hargs, rfl, rfl, h0, r0⟩ := trodAll_cons hA
  obtain ⟨v1, vs1, d1, ds1, p1, q1, rfl, rfl, rfl, h1, r1⟩ := trodAll_cons r0
  obtain ⟨rfl, rfl, rfl⟩ := trodAll_nil r1
  obtain rfl : args = #[v0, v1] := by cases args; simp_all
  obtain ⟨rfl, rfl⟩ := trodVars_none hV
  have k0 := h0
  have lt0 : ∀ x ∈ p0, x.block < W.heap.size := by obtain ⟨m, hm⟩ := k0; exact DataW.trod_lt m _ _ _ hm
  have k1 := h1
  have lt1 : ∀ x ∈ p1, x.block < W.heap.size := by obtain ⟨m, hm⟩ := k1; exact DataW.trod_lt m _ _ _ hm
  obtain ⟨n0, rfl, rfl, rfl, wn0⟩ := open_int Try.underlying2 (hval 0 2 v0 rfl rfl) h0
  obtain ⟨cx1, cy1, dx1, dy1, m1, rfl, rfl, rfl, hx1, hy1⟩ := open_agg2 Try.underlying23 (by kernel_rfl) cells23 (hval 1 23 v1 rfl rfl) h1
  obtain ⟨x1, ex1, rfl, wx1⟩ := DataW.trod_int Try.underlying2 hx1
  obtain ⟨y1, ey1, rfl, wy1⟩ := DataW.trod_int Try.underlying2 hy1
  simp at ex1 ey1
  subst ex1 ey1
  clear hA0 hval0
  refine (walk n0 x1 y1 W).mono fun e W' ⟨he, bel⟩ => ?_
  subst he
  exact ⟨_, rfl, _, _, _, [], _, [], hW', trodAll_mk1 (shut_bool Try.underlying4 _), (trodAll_cons_mk (Below.trod laidOut (by kernel_rfl) (of_decide_eq_true (by kernel_rfl)) k0 bel lt0) (trodAll_cons_mk (Below.trod laidOut (by kernel_rfl) (of_decide_eq_true (by kernel_rfl)) k1 bel lt1) trodAll_mk0)), rfl, bel.frame _, fun h => by cases h⟩

theorem over : Rows.fnExactTimesRow.holds Try.pinned (OpenSpec.ofChange Rows.fnExactTimesSpec) :=
  OpenClaim.holds_of_wide 4 Try.f4 rfl rfl rfl rfl rfl rfl rfl ⟨rfl, rfl, rfl, rfl, rfl⟩ rfl rfl rfl rfl rfl (by kernel_rfl) Try.func4 (by kernel_rfl)
    (of_decide_eq_true (by kernel_rfl)) (by unfold Func.isWrapper; first | (rw [if_pos (by decide +kernel)]; kernel_rfl) | (rw [if_neg (by decide +kernel)]; exact ⟨rfl, rfl⟩))
    (fun os started H enc _ => lifted os started H enc)
end Go.Proofs.Ythejkafdoomhoab.fnExactTimes
namespace Go.Proofs.Ythejkafdoomhoab
theorem fnExactTimes_holds : Rows.FnExactTimesSaid := fnExactTimes.over
#print axioms fnExactTimes_holds
end Go.Proofs.Ythejkafdoomhoab
