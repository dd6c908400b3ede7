/-
  FnExactOpposite answers true at every Point and leaves it as it was: Opposite of the program answers as the specification's. No condition.
-/
import Derived.Test.YthejkafdoomhoabRows
import Derived.WalkKit
import Derived.ProofKit
import Derived.OpenShut
import Derived.ShutString
import Derived.ChangeOld
import Derived.Below
import Derived.Lib.SmallJoins
import Derived.Test.YthejkafdoomhoabLawC
import Derived.Test.YthejkafdoomhoabCurveV
namespace Go.Proofs.Ythejkafdoomhoab.fnExactOpposite
open Go.ChangeShapes Go.WideShapes Go.ChangeAt Go.RowKit Go.Joins
set_option linter.unusedVariables false

theorem own : ownKnob Try.prog.godebug = none := by kernel_rfl
theorem laidOut : laidOutB Try.prog = true := by kernel_rfl
theorem cells23 : Try.prog.cellsOf 23 = 2 := by kernel_rfl
open Cv Cu
/-- Both answer alike: the opposite, or the zero Point and false. -/
theorem both (x y : Int) : ∃ (u v : Int) (f : Bool), (∀ w, Calls Try.prog 5 #[.agg #[.int .i64 x, .int .i64 y]] w fun e w' => e = .returned (.tuple #[.agg #[.int .i64 u, .int .i64 v], .bool f]) ∧ Below w.heap.size w w') ∧ (∀ w, Calls Try.prog 7 #[.agg #[.int .i64 x, .int .i64 y]] w fun e w' => e = .returned (.tuple #[.agg #[.int .i64 u, .int .i64 v], .bool f]) ∧ Below w.heap.size w w') := by
  by_cases h : okI x y = true
  · obtain ⟨a, b, rfl, rfl, h1⟩ := okI_nat h
    exact ⟨_, _, _, fun w => spec_Opposite_yes a b w h1, fun w => impl_Opposite_yes a b w h1⟩
  · have h' : okI x y = false := by simpa using h
    exact ⟨0, 0, false, fun w => spec_Opposite_no x y w h', fun w => impl_Opposite_no x y w h'⟩
set_option maxHeartbeats 4000000 in

theorem walk (x0 y0 : Int) (w : World) :
    Calls Try.prog 3 #[.agg #[.int .i64 x0, .int .i64 y0]] w fun e w' => e = .returned (.bool true) ∧ Below w.heap.size w w' := by
  obtain ⟨u, v, f, c1, c2⟩ := both x0 y0
  have C1 := Hid.mk' c1
  have C2 := Hid.mk' c2
  clear c1 c2
  have hff : (f != f) = false := by simp
  go_enter Try.func3, Try.ntmps3
  go_wp2_with (fail)
  refine (toPoint_any _ _ _).mono ?_
  rintro e wA ⟨rfl, hbA⟩
  obtain ⟨hcA, hfA⟩ := bcell hbA
  have zA : w.heap.size < wA.heap.size := by have := hbA.size; simp at this; omega
  go_wp2_with (fail)
  refine (C1.out _).mono ?_
  rintro e wB ⟨rfl, hbB⟩
  obtain ⟨hcB, hfB⟩ := bcell hbB
  have zB : w.heap.size < wB.heap.size := by have := hbB.size; omega
  have zB1 : w.heap.size < wB.heap.size + 1 := by omega
  have nB : ¬ w.heap.size = wB.heap.size := by omega
  go_wp2_with (fail)
  refine (toPoint_any _ _ _).mono ?_
  rintro e wC ⟨rfl, hbC⟩
  obtain ⟨hcC, hfC⟩ := bcell hbC
  have zC : wB.heap.size < wC.heap.size := by have := hbC.size; simp at this; omega
  go_wp2_with (fail)
  refine (C2.out _).mono ?_
  rintro e wD ⟨rfl, hbD⟩
  obtain ⟨hcD, hfD⟩ := bcell hbD
  have zD : wB.heap.size < wD.heap.size := by have := hbD.size; omega
  go_wp2_with (fail)
  refine (eqPoint_same _ _ _).mono ?_
  rintro e wE ⟨rfl, hbE⟩
  go_wp2_with (fail)
  go_ret
  have b1 := (((Below.refl w.heap.size w).alloc (Nat.le_refl _) _).trans (hbA.mono (B' := w.heap.size) (by simp))).trans (hbB.mono (B' := w.heap.size) (by omega))
  have b2 := ((b1.alloc (by omega) _).trans (hbC.mono (B' := w.heap.size) (by simp; omega))).trans (hbD.mono (B' := w.heap.size) (by omega))
  exact ⟨rfl, (b2.alloc (by omega) _).trans (hbE.mono (B' := w.heap.size) (by simp; omega))⟩

set_option maxRecDepth 100000 in
theorem lifted (os : Os) (started : os.Started) (H : Type) (enc : TypeId × Value → H) :
    ReturnsInHanded {} Try.checked os 3 .any (Rows.fnExactOppositeSpec.pre6 enc Try.prog Try.f3 Rows.fnExactOppositeRow.domain false) (Rows.fnExactOppositeSpec.post enc Try.prog Try.f3 false true false false) := by
  refine returnsInHanded_of_change (C := Try.checked) own started (by kernel_rfl) Try.func3
    (ChangeSpec.witness6 (enc := enc) (C := Try.checked) false ⟨#[], #[.agg #[.int .i64 0, .int .i64 0]], []⟩ 8 (by kernel_rfl) (by kernel_rfl) (by kernel_rfl) (by kernel_rfl)) ?_
  intro W base args ds gs before hval0 hW hcnd _
  have hval : ∀ (j : Nat) t v, Try.f3.params[j]? = some t → args[j]? = some v → Value.okWide Try.prog W .any base t v := hval0
  have hW' := hW
  obtain ⟨p, q, hA0, hV, rfl, hfz, hnd⟩ := hW
  have hA : DataW.TrodAll enc Try.prog W 0 (fun _ => true) true Try.f3.params.toList args.toList ds p := hA0
  rw [Try.params3] at hA hval
  obtain ⟨v0, vs0, d0, ds0, p0, q0, hargs, rfl, rfl, h0, r0⟩ := trodAll_cons hA
  obtain ⟨rfl, rfl, rfl⟩ := trodAll_nil r0
  obtain rfl : args = #[v0] := by cases args; simp_all
  obtain ⟨rfl, rfl⟩ := trodVars_none hV
  have k0 := h0
  have lt0 : ∀ x ∈ p0, x.block < W.heap.size := by obtain ⟨m, hm⟩ := k0; exact DataW.trod_lt m _ _ _ hm
  obtain ⟨cx0, cy0, dx0, dy0, m0, rfl, rfl, rfl, hx0, hy0⟩ := open_agg2 Try.underlying23 (by kernel_rfl) cells23 (hval 0 23 v0 rfl rfl) h0
  obtain ⟨x0, ex0, rfl, wx0⟩ := DataW.trod_int Try.underlying2 hx0
  obtain ⟨y0, ey0, rfl, wy0⟩ := DataW.trod_int Try.underlying2 hy0
  simp at ex0 ey0
  subst ex0 ey0
  clear hA0 hval0
  refine (walk x0 y0 W).mono fun e W' ⟨he, bel⟩ => ?_
  subst he
  exact ⟨_, rfl, _, _, _, [], _, [], hW', trodAll_mk1 (shut_bool Try.underlying4 _), (trodAll_cons_mk (Below.trod laidOut (by kernel_rfl) (of_decide_eq_true (by kernel_rfl)) k0 bel lt0) trodAll_mk0), rfl, bel.frame _, fun h => by cases h⟩

theorem over : Rows.fnExactOppositeRow.holds Try.pinned (OpenSpec.ofChange Rows.fnExactOppositeSpec) :=
  OpenClaim.holds_of_wide 3 Try.f3 rfl rfl rfl rfl rfl rfl rfl ⟨rfl, rfl, rfl, rfl, rfl⟩ rfl rfl rfl rfl rfl (by kernel_rfl) Try.func3 (by kernel_rfl)
    (of_decide_eq_true (by kernel_rfl)) (by unfold Func.isWrapper; first | (rw [if_pos (by decide +kernel)]; kernel_rfl) | (rw [if_neg (by decide +kernel)]; exact ⟨rfl, rfl⟩))
    (fun os started H enc _ => lifted os started H enc)
end Go.Proofs.Ythejkafdoomhoab.fnExactOpposite
namespace Go.Proofs.Ythejkafdoomhoab
theorem fnExactOpposite_holds : Rows.FnExactOppositeSaid := fnExactOpposite.over
#print axioms fnExactOpposite_holds
end Go.Proofs.Ythejkafdoomhoab
