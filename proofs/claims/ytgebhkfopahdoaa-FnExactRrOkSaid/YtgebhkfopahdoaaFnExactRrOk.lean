/-
  FnExactRrOk answers true at every Record and leaves it as it was: RrOk of the program answers as the specification's. No condition.
-/
import Derived.Test.YtgebhkfopahdoaaRows
import Derived.WalkKit
import Derived.ProofKit
import Derived.OpenShut
import Derived.ShutString
import Derived.ChangeOld
import Derived.Below
import Derived.Lib.SmallJoins
import Derived.Test.YtgebhkfopahdoaaRecR
namespace Go.Proofs.Ytgebhkfopahdoaa.fnExactRrOk
open Go.ChangeShapes Go.WideShapes Go.ChangeAt Go.RowKit Go.Joins
set_option linter.unusedVariables false

theorem own : ownKnob Try.prog.godebug = none := by kernel_rfl
theorem laidOut : laidOutB Try.prog = true := by kernel_rfl
open Rc Go.Proofs.Ytgebhkfopahdoaa.Nm
set_option maxRecDepth 100000 in
set_option maxHeartbeats 4000000 in

theorem walk (s0 : ByteArray) (n0 m0 : Int) (u0 : ByteArray) (ws0 : s0.size ≤ 9223372036854775807) (wu0 : u0.size ≤ 9223372036854775807) (w : World) :
    Calls Try.prog 3 #[.agg #[.string s0, .int .i64 n0, .int .i64 m0, .string u0]] w fun e w' => e = .returned (.bool true) ∧ Below w.heap.size w w' := by
  have hZ := fun W => laws_szRr (s0, n0, m0, u0) 1048576 W ws0 wu0 (by omega) (by omega)
  have hT := fun W => laws_toRr (s0, n0, m0, u0) W
  have hS := fun W => spec_RrOk (s0, n0, m0, u0) W
  have hI := fun W => impl_RrOk (s0, n0, m0, u0) W
  simp only [rv] at hZ hT hS hI
  generalize okR (toR (s0, n0, m0, u0)) = r at hS hI
  have hr : (r != r) = false := by cases r <;> rfl
  go_enter Try.func3, Try.ntmps3
  go_wp2_with (fail)
  refine (hZ _).mono ?_
  rintro e w1 ⟨z, rfl, hz1, hz2, k1⟩
  clear hz2 hZ
  have kb := Bx.kept (x := (s0, n0, m0, u0)) (g := w.heap.size) ⟨by simp, by simp, by simp, by simp⟩ k1
  have K1 := hidIt kb
  have B1 := hidIt (below_box k1)
  have c0 := kb.c0
  have c1 := kb.c1
  have c2 := kb.c2
  have c3 := kb.c3
  clear kb k1
  by_cases hz : z < 0
  · go_wp2_with (fail)
    go_ret
    exact ⟨rfl, B1.out⟩
  · go_wp2_with (fail)
    refine (hT _).mono ?_
    rintro e w2 ⟨rfl, k2⟩
    have K2 := hidIt (K1.out.kept k2)
    have B2 := hidIt (B1.out.trans (k2.mono B1.out.size))
    clear k2
    go_wp2_with (fail)
    refine (hS _).mono ?_
    rintro e w3 ⟨rfl, k3⟩
    have K3 := hidIt (K2.out.kept k3)
    have B3 := hidIt (B2.out.trans (k3.mono B2.out.size))
    have d0 := K3.out.c0
    have d1 := K3.out.c1
    have d2 := K3.out.c2
    have d3 := K3.out.c3
    clear k3 c0 c1 c2 c3
    go_wp2_with (fail)
    refine (hT _).mono ?_
    rintro e w4 ⟨rfl, k4⟩
    have B4 := hidIt (B3.out.trans (k4.mono B3.out.size))
    clear k4 d0 d1 d2 d3
    go_wp2_with (fail)
    refine (hI _).mono ?_
    rintro e w5 ⟨rfl, k5⟩
    have B5 := hidIt (B4.out.trans (k5.mono B4.out.size))
    clear k5
    go_wp2_with (fail)
    go_ret
    exact ⟨rfl, B5.out⟩

set_option maxRecDepth 100000 in
theorem lifted (os : Os) (started : os.Started) (H : Type) (enc : TypeId × Value → H) :
    ReturnsInHanded {} Try.checked os 3 .any (Rows.fnExactRrOkSpec.pre6 enc Try.prog Try.f3 Rows.fnExactRrOkRow.domain false) (Rows.fnExactRrOkSpec.post enc Try.prog Try.f3 false true false false) := by
  refine returnsInHanded_of_change (C := Try.checked) own started (by kernel_rfl) Try.func3
    (ChangeSpec.witness6 (enc := enc) (C := Try.checked) false ⟨#[], #[.agg #[.string ByteArray.empty, .int .i64 0, .int .i64 0, .string ByteArray.empty]], []⟩ 8 (by kernel_rfl) (by kernel_rfl) (by kernel_rfl) (by kernel_rfl)) ?_
  intro W base args ds gs before hval0 hW hcnd _
  have hval : ∀ (j : Nat) t v, Try.f3.params[j]? = some t → args[j]? = some v → Value.okWide Try.prog W .any base t v := hval0
  have hW' := hW
  obtain ⟨p, q, hA0, hV, rfl, hfz, hnd⟩ := hW
  have hA : DataW.TrodAll enc Try.prog W 0 (fun _ => true) true Try.f3.params.toList args.toList ds p := hA0
  rw [Try.params3] at hA hval
  obtain ⟨v0, vs0, d0, ds0, p0, q0, hargs, rfl, rfl, h0, r0⟩ := trodAll_cons hA
  obtain ⟨rfl, rfl, rfl⟩ := trodAll_nil r0
  obtain rfl : args = #[v0] := by cases args; simp_all
  obtain ⟨rfl, rfl⟩ := trodVars_none hV
  have k0 := h0
  have lt0 : ∀ x ∈ p0, x.block < W.heap.size := by obtain ⟨m, hm⟩ := k0; exact DataW.trod_lt m _ _ _ hm
  obtain ⟨s0, n0, m0, u0, rfl, ws0, wu0⟩ := Rc.open_rec Try.underlying23 (by kernel_rfl) rfl rfl rfl rfl (by kernel_rfl) (by kernel_rfl) (by kernel_rfl) (by kernel_rfl) Try.underlying9 Try.underlying2 Try.underlying2 Try.underlying9 (hval 0 23 v0 rfl rfl) h0
  clear hA0 hval0
  refine (walk s0 n0 m0 u0 ws0 wu0 W).mono fun e W' ⟨he, bel⟩ => ?_
  subst he
  exact ⟨_, rfl, _, _, _, [], _, [], hW', trodAll_mk1 (shut_bool Try.underlying4 _), (trodAll_cons_mk (Below.trod laidOut (by kernel_rfl) (of_decide_eq_true (by kernel_rfl)) k0 bel lt0) trodAll_mk0), rfl, bel.frame _, fun h => by cases h⟩

theorem over : Rows.fnExactRrOkRow.holds Try.pinned (OpenSpec.ofChange Rows.fnExactRrOkSpec) :=
  OpenClaim.holds_of_wide 3 Try.f3 rfl rfl rfl rfl rfl rfl rfl ⟨rfl, rfl, rfl, rfl, rfl⟩ rfl rfl rfl rfl rfl (by kernel_rfl) Try.func3 (by kernel_rfl)
    (of_decide_eq_true (by kernel_rfl)) (by unfold Func.isWrapper; first | (rw [if_pos (by decide +kernel)]; kernel_rfl) | (rw [if_neg (by decide +kernel)]; exact ⟨rfl, rfl⟩))
    (fun os started H enc _ => lifted os started H enc)
end Go.Proofs.Ytgebhkfopahdoaa.fnExactRrOk
namespace Go.Proofs.Ytgebhkfopahdoaa
theorem fnExactRrOk_holds : Rows.FnExactRrOkSaid := fnExactRrOk.over
#print axioms fnExactRrOk_holds
end Go.Proofs.Ytgebhkfopahdoaa
