/-
  FnExactStep answers true at every Roll and every two numbers: Step of the program answers as the specification's. No condition.
-/
import Derived.Test.YthgkfimfceegmaaRows
import Derived.WalkKit
import Derived.ProofKit
import Derived.OpenShut
import Derived.ShutString
import Derived.ChangeOld
import Derived.Below
import Derived.Lib.SmallJoins
import Derived.Test.YthgkfimfceegmaaRollJ
namespace Go.Proofs.Ythgkfimfceegmaa.fnExactStep
open Go.ChangeShapes Go.WideShapes Go.ChangeAt Go.RowKit Go.Joins
set_option linter.unusedVariables false

theorem own : ownKnob Try.prog.godebug = none := by kernel_rfl
theorem laidOut : laidOutB Try.prog = true := by kernel_rfl
open Ro
set_option maxRecDepth 100000 in
set_option maxHeartbeats 4000000 in

theorem walk (p0 m0 o0 n0 a0 : Int) (n1 : Int) (n2 : Int) (w : World) :
    Calls Try.prog 5 #[.agg #[.int .i64 p0, .int .i64 m0, .int .i64 o0, .int .i64 n0, .int .i64 a0], .int .i64 n1, .int .i64 n2] w fun e w' => e = .returned (.bool true) ∧ Below w.heap.size w w' := by
  have CT := hidIt (fun W => toRoll_any p0 m0 o0 n0 a0 W)
  have CS := hidIt (fun W => spec_Step p0 m0 o0 n0 a0 n1 n2 W)
  have CI := hidIt (fun W => impl_Step p0 m0 o0 n0 a0 n1 n2 W)
  generalize stepR p0 m0 o0 n0 a0 n1 n2 = q at CS CI
  obtain ⟨⟨p, m, o, n, a⟩, b⟩ := q
  have CE := hidIt (fun W => eqRoll_same p m o n a W)
  have hb : (b != b) = false := by cases b <;> rfl
  have HB : Hid (Below w.heap.size w (w.alloc (rbox p0 m0 o0 n0 a0 23))) := hidIt ((Below.refl w.heap.size w).alloc (Nat.le_refl _) _)
  have BY : Hid (Bx (w.alloc (rbox p0 m0 o0 n0 a0 23)) w.heap.size p0 m0 o0 n0 a0) := hidIt ⟨by simp, by simp, by simp, by simp, by simp⟩
  go_enter Try.func5, Try.ntmps5
  go_wp2_with (fail)
  refine (CT.out _).mono ?_
  rintro e w0 ⟨rfl, k0⟩
  replace HB := hidIt (HB.out.trans (k0.mono HB.out.size))
  replace BY := hidIt (BY.out.kept k0)
  clear k0
  go_wp2_with (fail)
  refine (CS.out _).mono ?_
  rintro e w1 ⟨rfl, k1⟩
  replace HB := hidIt (HB.out.trans (k1.mono HB.out.size))
  replace BY := hidIt (BY.out.kept k1)
  clear k1
  have kA := (Below.refl w1.heap.size w1).alloc (Nat.le_refl _) (rbox p m o n a 25)
  replace HB := hidIt (HB.out.trans (kA.mono HB.out.size))
  replace BY := hidIt (BY.out.kept kA)
  clear kA
  have BX : Hid (Bx (w1.alloc (rbox p m o n a 25)) w1.heap.size p m o n a) := hidIt ⟨by simp, by simp, by simp, by simp, by simp⟩
  have d0 := BY.out.c0
  have d1 := BY.out.c1
  have d2 := BY.out.c2
  have d3 := BY.out.c3
  have d4 := BY.out.c4
  go_wp2_with (fail)
  refine (CT.out _).mono ?_
  rintro e w1' ⟨rfl, k1⟩
  replace HB := hidIt (HB.out.trans (k1.mono HB.out.size))
  replace BX := hidIt (BX.out.kept k1)
  clear k1 d0 d1 d2 d3 d4
  go_wp2_with (fail)
  refine (CI.out _).mono ?_
  rintro e w2 ⟨rfl, k2⟩
  replace HB := hidIt (HB.out.trans (k2.mono HB.out.size))
  replace BX := hidIt (BX.out.kept k2)
  clear k2
  have kA := (Below.refl w2.heap.size w2).alloc (Nat.le_refl _) (rbox p m o n a 25)
  replace HB := hidIt (HB.out.trans (kA.mono HB.out.size))
  replace BX := hidIt (BX.out.kept kA)
  clear kA
  generalize w1.heap.size = g1 at BX ⊢
  have c0 := BX.out.c0
  have c1 := BX.out.c1
  have c2 := BX.out.c2
  have c3 := BX.out.c3
  have c4 := BX.out.c4
  go_wp2_with (fail)
  refine (CE.out _).mono ?_
  rintro e w3 ⟨rfl, k3⟩
  replace HB := hidIt (HB.out.trans (k3.mono HB.out.size))
  clear k3
  go_wp2_with (fail)
  go_ret
  exact ⟨rfl, HB.out⟩

set_option maxRecDepth 100000 in
theorem lifted (os : Os) (started : os.Started) (H : Type) (enc : TypeId × Value → H) :
    ReturnsInHanded {} Try.checked os 5 .any (Rows.fnExactStepSpec.pre6 enc Try.prog Try.f5 Rows.fnExactStepRow.domain false) (Rows.fnExactStepSpec.post enc Try.prog Try.f5 false true false false) := by
  refine returnsInHanded_of_change (C := Try.checked) own started (by kernel_rfl) Try.func5
    (ChangeSpec.witness6 (enc := enc) (C := Try.checked) false ⟨#[], #[.agg #[.int .i64 0, .int .i64 0, .int .i64 0, .int .i64 0, .int .i64 0], .int .i64 0, .int .i64 0], []⟩ 8 (by kernel_rfl) (by kernel_rfl) (by kernel_rfl) (by kernel_rfl)) ?_
  intro W base args ds gs before hval0 hW hcnd _
  have hval : ∀ (j : Nat) t v, Try.f5.params[j]? = some t → args[j]? = some v → Value.okWide Try.prog W .any base t v := hval0
  have hW' := hW
  obtain ⟨p, q, hA0, hV, rfl, hfz, hnd⟩ := hW
  have hA : DataW.TrodAll enc Try.prog W 0 (fun _ => true) true Try.f5.params.toList args.toList ds p := hA0
  rw [Try.params5] at hA hval
  obtain ⟨v0, vs0, d0, ds0, p0, q0, hargs, rfl, rfl, h0, r0⟩ := trodAll_cons hA
  obtain ⟨v1, vs1, d1, ds1, p1, q1, rfl, rfl, rfl, h1, r1⟩ := trodAll_cons r0
  obtain ⟨v2, vs2, d2, ds2, p2, q2, rfl, rfl, rfl, h2, r2⟩ := trodAll_cons r1
  obtain ⟨rfl, rfl, rfl⟩ := trodAll_nil r2
  obtain rfl : args = #[v0, v1, v2] := by cases args; simp_all
  obtain ⟨rfl, rfl⟩ := trodVars_none hV
  have k0 := h0
  have lt0 : ∀ x ∈ p0, x.block < W.heap.size := by obtain ⟨m, hm⟩ := k0; exact DataW.trod_lt m _ _ _ hm
  have k1 := h1
  have lt1 : ∀ x ∈ p1, x.block < W.heap.size := by obtain ⟨m, hm⟩ := k1; exact DataW.trod_lt m _ _ _ hm
  have k2 := h2
  have lt2 : ∀ x ∈ p2, x.block < W.heap.size := by obtain ⟨m, hm⟩ := k2; exact DataW.trod_lt m _ _ _ hm
  obtain ⟨p0, m0, o0, n0, a0, rfl⟩ := Ro.open_roll Try.underlying23 (by kernel_rfl) rfl rfl rfl rfl rfl (by kernel_rfl) (by kernel_rfl) (by kernel_rfl) (by kernel_rfl) (by kernel_rfl) Try.underlying2 Try.underlying2 Try.underlying2 Try.underlying2 Try.underlying2 (hval 0 23 v0 rfl rfl) h0
  obtain ⟨n1, rfl, rfl, rfl, wn1⟩ := open_int Try.underlying2 (hval 1 2 v1 rfl rfl) h1
  obtain ⟨n2, rfl, rfl, rfl, wn2⟩ := open_int Try.underlying2 (hval 2 2 v2 rfl rfl) h2
  clear hA0 hval0
  refine (walk p0 m0 o0 n0 a0 n1 n2 W).mono fun e W' ⟨he, bel⟩ => ?_
  subst he
  exact ⟨_, rfl, _, _, _, [], _, [], hW', trodAll_mk1 (shut_bool Try.underlying4 _), (trodAll_cons_mk (Below.trod laidOut (by kernel_rfl) (of_decide_eq_true (by kernel_rfl)) k0 bel lt0) (trodAll_cons_mk (Below.trod laidOut (by kernel_rfl) (of_decide_eq_true (by kernel_rfl)) k1 bel lt1) (trodAll_cons_mk (Below.trod laidOut (by kernel_rfl) (of_decide_eq_true (by kernel_rfl)) k2 bel lt2) trodAll_mk0))), rfl, bel.frame _, fun h => by cases h⟩

theorem over : Rows.fnExactStepRow.holds Try.pinned (OpenSpec.ofChange Rows.fnExactStepSpec) :=
  OpenClaim.holds_of_wide 5 Try.f5 rfl rfl rfl rfl rfl rfl rfl ⟨rfl, rfl, rfl, rfl, rfl⟩ rfl rfl rfl rfl rfl (by kernel_rfl) Try.func5 (by kernel_rfl)
    (of_decide_eq_true (by kernel_rfl)) (by unfold Func.isWrapper; first | (rw [if_pos (by decide +kernel)]; kernel_rfl) | (rw [if_neg (by decide +kernel)]; exact ⟨rfl, rfl⟩))
    (fun os started H enc _ => lifted os started H enc)
end Go.Proofs.Ythgkfimfceegmaa.fnExactStep
namespace Go.Proofs.Ythgkfimfceegmaa
theorem fnExactStep_holds : Rows.FnExactStepSaid := fnExactStep.over
#print axioms fnExactStep_holds
end Go.Proofs.Ythgkfimfceegmaa
