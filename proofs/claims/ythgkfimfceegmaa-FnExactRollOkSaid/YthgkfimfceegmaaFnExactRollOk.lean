/-
  FnExactRollOk answers true at every Roll and leaves it as it was: RollOk of the program answers as the specification's. No condition.
-/
import Derived.Test.YthgkfimfceegmaaRows
import Derived.WalkKit
import Derived.ProofKit
import Derived.OpenShut
import Derived.ShutString
import Derived.ChangeOld
import Derived.Below
import Derived.Lib.SmallJoins
import Derived.Test.YthgkfimfceegmaaRollK
namespace Go.Proofs.Ythgkfimfceegmaa.fnExactRollOk
open Go.ChangeShapes Go.WideShapes Go.ChangeAt Go.RowKit Go.Joins
set_option linter.unusedVariables false

theorem own : ownKnob Try.prog.godebug = none := by kernel_rfl
theorem laidOut : laidOutB Try.prog = true := by kernel_rfl
open Ro
set_option maxRecDepth 100000 in
set_option maxHeartbeats 4000000 in

theorem walk (p0 m0 o0 n0 a0 : Int) (w : World) :
    Calls Try.prog 3 #[.agg #[.int .i64 p0, .int .i64 m0, .int .i64 o0, .int .i64 n0, .int .i64 a0]] w fun e w' => e = .returned (.bool true) ∧ Below w.heap.size w w' := by
  have CT := hidIt (fun W => toRoll_any p0 m0 o0 n0 a0 W)
  have CS : Hid (∀ W, Calls Try.prog 7 #[rv p0 m0 o0 n0 a0] W fun e w' => e = .returned (.bool (rollOk p0 m0 o0 n0 a0)) ∧ Below W.heap.size W w') := hidIt (fun W => (spec_RollOk p0 m0 o0 n0 a0 W).mono (fun e w1 ⟨h1, h2⟩ => ⟨h1, by rw [h2]; exact (Below.refl _ _).alloc (Nat.le_refl _) _⟩))
  have CI : Hid (∀ W, Calls Try.prog 9 #[rv p0 m0 o0 n0 a0] W fun e w' => e = .returned (.bool (rollOk p0 m0 o0 n0 a0)) ∧ Below W.heap.size W w') := hidIt (fun W => (impl_RollOk p0 m0 o0 n0 a0 W).mono (fun e w1 ⟨h1, h2⟩ => ⟨h1, by rw [h2]; go_grown⟩))
  generalize rollOk p0 m0 o0 n0 a0 = r at CS CI
  have hr : (r != r) = false := by cases r <;> rfl
  have HB : Hid (Below w.heap.size w (w.alloc (rbox p0 m0 o0 n0 a0 23))) := hidIt ((Below.refl w.heap.size w).alloc (Nat.le_refl _) _)
  have BX : Hid (Bx (w.alloc (rbox p0 m0 o0 n0 a0 23)) w.heap.size p0 m0 o0 n0 a0) := hidIt ⟨by simp, by simp, by simp, by simp, by simp⟩
  go_enter Try.func3, Try.ntmps3
  go_wp2_with (fail)
  refine (CT.out _).mono ?_
  rintro e w1 ⟨rfl, k1⟩
  replace HB := hidIt (HB.out.trans (k1.mono HB.out.size))
  replace BX := hidIt (BX.out.kept k1)
  clear k1
  go_wp2_with (fail)
  refine (CS.out _).mono ?_
  rintro e w2 ⟨rfl, k2⟩
  replace HB := hidIt (HB.out.trans (k2.mono HB.out.size))
  replace BX := hidIt (BX.out.kept k2)
  clear k2
  have c0 := BX.out.c0
  have c1 := BX.out.c1
  have c2 := BX.out.c2
  have c3 := BX.out.c3
  have c4 := BX.out.c4
  go_wp2_with (fail)
  refine (CT.out _).mono ?_
  rintro e w3 ⟨rfl, k3⟩
  replace HB := hidIt (HB.out.trans (k3.mono HB.out.size))
  clear k3
  go_wp2_with (fail)
  refine (CI.out _).mono ?_
  rintro e w4 ⟨rfl, k4⟩
  replace HB := hidIt (HB.out.trans (k4.mono HB.out.size))
  clear k4
  go_wp2_with (fail)
  go_ret
  exact ⟨rfl, HB.out⟩

set_option maxRecDepth 100000 in
theorem lifted (os : Os) (started : os.Started) (H : Type) (enc : TypeId × Value → H) :
    ReturnsInHanded {} Try.checked os 3 .any (Rows.fnExactRollOkSpec.pre6 enc Try.prog Try.f3 Rows.fnExactRollOkRow.domain false) (Rows.fnExactRollOkSpec.post enc Try.prog Try.f3 false true false false) := by
  refine returnsInHanded_of_change (C := Try.checked) own started (by kernel_rfl) Try.func3
    (ChangeSpec.witness6 (enc := enc) (C := Try.checked) false ⟨#[], #[.agg #[.int .i64 0, .int .i64 0, .int .i64 0, .int .i64 0, .int .i64 0]], []⟩ 8 (by kernel_rfl) (by kernel_rfl) (by kernel_rfl) (by kernel_rfl)) ?_
  intro W base args ds gs before hval0 hW hcnd _
  have hval : ∀ (j : Nat) t v, Try.f3.params[j]? = some t → args[j]? = some v → Value.okWide Try.prog W .any base t v := hval0
  have hW' := hW
  obtain ⟨p, q, hA0, hV, rfl, hfz, hnd⟩ := hW
  have hA : DataW.TrodAll enc Try.prog W 0 (fun _ => true) true Try.f3.params.toList args.toList ds p := hA0
  rw [Try.params3] at hA hval
  obtain ⟨v0, vs0, d0, ds0, p0, q0, hargs, rfl, rfl, h0, r0⟩ := trodAll_cons hA
  obtain ⟨rfl, rfl, rfl⟩ := trodAll_nil r0
  obtain rfl : args = #[v0] := by cases args; simp_all
  obtain ⟨rfl, rfl⟩ := trodVars_none hV
  have k0 := h0
  have lt0 : ∀ x ∈ p0, x.block < W.heap.size := by obtain ⟨m, hm⟩ := k0; exact DataW.trod_lt m _ _ _ hm
  obtain ⟨p0, m0, o0, n0, a0, rfl⟩ := Ro.open_roll Try.underlying23 (by kernel_rfl) rfl rfl rfl rfl rfl (by kernel_rfl) (by kernel_rfl) (by kernel_rfl) (by kernel_rfl) (by kernel_rfl) Try.underlying2 Try.underlying2 Try.underlying2 Try.underlying2 Try.underlying2 (hval 0 23 v0 rfl rfl) h0
  clear hA0 hval0
  refine (walk p0 m0 o0 n0 a0 W).mono fun e W' ⟨he, bel⟩ => ?_
  subst he
  exact ⟨_, rfl, _, _, _, [], _, [], hW', trodAll_mk1 (shut_bool Try.underlying4 _), (trodAll_cons_mk (Below.trod laidOut (by kernel_rfl) (of_decide_eq_true (by kernel_rfl)) k0 bel lt0) trodAll_mk0), rfl, bel.frame _, fun h => by cases h⟩

theorem over : Rows.fnExactRollOkRow.holds Try.pinned (OpenSpec.ofChange Rows.fnExactRollOkSpec) :=
  OpenClaim.holds_of_wide 3 Try.f3 rfl rfl rfl rfl rfl rfl rfl ⟨rfl, rfl, rfl, rfl, rfl⟩ rfl rfl rfl rfl rfl (by kernel_rfl) Try.func3 (by kernel_rfl)
    (of_decide_eq_true (by kernel_rfl)) (by unfold Func.isWrapper; first | (rw [if_pos (by decide +kernel)]; kernel_rfl) | (rw [if_neg (by decide +kernel)]; exact ⟨rfl, rfl⟩))
    (fun os started H enc _ => lifted os started H enc)
end Go.Proofs.Ythgkfimfceegmaa.fnExactRollOk
namespace Go.Proofs.Ythgkfimfceegmaa
theorem fnExactRollOk_holds : Rows.FnExactRollOkSaid := fnExactRollOk.over
#print axioms fnExactRollOk_holds
end Go.Proofs.Ythgkfimfceegmaa
