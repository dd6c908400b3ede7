/-
  FnExactKeyOf answers true at every number and leaves it as it was: KeyOf of the program answers as the specification's. No condition.
-/
import Derived.Test.YtbjmijajngedoaaRows
import Derived.WalkKit
import Derived.ProofKit
import Derived.OpenShut
import Derived.ShutString
import Derived.ChangeOld
import Derived.Below
import Derived.Lib.SmallJoins
import Derived.Test.YtbjmijajngedoaaLawC
import Derived.Test.YtbjmijajngedoaaSignK
namespace Go.Proofs.Ytbjmijajngedoaa.fnExactKeyOf
open Go.ChangeShapes Go.WideShapes Go.ChangeAt Go.RowKit Go.Joins
set_option linter.unusedVariables false

theorem own : ownKnob Try.prog.godebug = none := by kernel_rfl
theorem laidOut : laidOutB Try.prog = true := by kernel_rfl
open Cv Cu
/-- Both answer alike: the key, or the zero Point and false. -/
theorem both (n : Int) : ∃ (u v : Int) (f : Bool), (∀ w, Calls Try.prog 23 #[.int .i64 n] w fun e w' => e = .returned (.tuple #[.agg #[.int .i64 u, .int .i64 v], .bool f]) ∧ Below w.heap.size w w') ∧ (∀ w, Calls Try.prog 24 #[.int .i64 n] w fun e w' => e = .returned (.tuple #[.agg #[.int .i64 u, .int .i64 v], .bool f]) ∧ Below w.heap.size w w') := by
  by_cases h : 0 < n ∧ n < 2549
  · obtain ⟨m, rfl⟩ := Int.eq_ofNat_of_zero_le (show 0 ≤ n by omega)
    exact ⟨_, _, _, fun w => spec_KeyOf_yes m w (by omega) (by omega), fun w => impl_KeyOf_yes m w (by omega) (by omega)⟩
  · exact ⟨0, 0, false, fun w => spec_KeyOf_no n w (by omega), fun w => impl_KeyOf_no n w (by omega)⟩
set_option maxHeartbeats 4000000 in

theorem walk (n0 : Int) (w : World) :
    Calls Try.prog 5 #[.int .i64 n0] w fun e w' => e = .returned (.bool true) ∧ Below w.heap.size w w' := by
  obtain ⟨u, v, f, c1, c2⟩ := both n0
  have C1 := Hid.mk' c1
  have C2 := Hid.mk' c2
  clear c1 c2
  have hff : (f != f) = false := by simp
  go_enter Try.func5, Try.ntmps5
  go_wp2_with (fail)
  refine (C1.out _).mono ?_
  rintro e wB ⟨rfl, hbB⟩
  go_wp2_with (fail)
  refine (C2.out _).mono ?_
  rintro e wD ⟨rfl, hbD⟩
  obtain ⟨hcD, hfD⟩ := bcell hbD
  have zD : wB.heap.size < wD.heap.size := by have := hbD.size; simp at this; omega
  go_wp2_with (fail)
  refine (eqPoint_same _ _ _).mono ?_
  rintro e wE ⟨rfl, hbE⟩
  go_wp2_with (fail)
  go_ret
  have zB := hbB.size
  have b2 := (hbB.alloc zB _).trans (hbD.mono (B' := w.heap.size) (by simp; omega))
  exact ⟨rfl, (b2.alloc (by omega) _).trans (hbE.mono (B' := w.heap.size) (by simp; omega))⟩

set_option maxRecDepth 100000 in
theorem lifted (os : Os) (started : os.Started) (H : Type) (enc : TypeId × Value → H) :
    ReturnsInHanded {} Try.checked os 5 .any (Rows.fnExactKeyOfSpec.pre6 enc Try.prog Try.f5 Rows.fnExactKeyOfRow.domain false) (Rows.fnExactKeyOfSpec.post enc Try.prog Try.f5 false true false false) := by
  refine returnsInHanded_of_change (C := Try.checked) own started (by kernel_rfl) Try.func5
    (ChangeSpec.witness6 (enc := enc) (C := Try.checked) false ⟨#[], #[.int .i64 0], []⟩ 8 (by kernel_rfl) (by kernel_rfl) (by kernel_rfl) (by kernel_rfl)) ?_
  intro W base args ds gs before hval0 hW hcnd _
  have hval : ∀ (j : Nat) t v, Try.f5.params[j]? = some t → args[j]? = some v → Value.okWide Try.prog W .any base t v := hval0
  have hW' := hW
  obtain ⟨p, q, hA0, hV, rfl, hfz, hnd⟩ := hW
  have hA : DataW.TrodAll enc Try.prog W 0 (fun _ => true) true Try.f5.params.toList args.toList ds p := hA0
  rw [Try.params5] at hA hval
  obtain ⟨v0, vs0, d0, ds0, p0, q0, hargs, rfl, rfl, h0, r0⟩ := trodAll_cons hA
  obtain ⟨rfl, rfl, rfl⟩ := trodAll_nil r0
  obtain rfl : args = #[v0] := by cases args; simp_all
  obtain ⟨rfl, rfl⟩ := trodVars_none hV
  have k0 := h0
  have lt0 : ∀ x ∈ p0, x.block < W.heap.size := by obtain ⟨m, hm⟩ := k0; exact DataW.trod_lt m _ _ _ hm
  obtain ⟨n0, rfl, rfl, rfl, wn0⟩ := open_int Try.underlying2 (hval 0 2 v0 rfl rfl) h0
  clear hA0 hval0
  refine (walk n0 W).mono fun e W' ⟨he, bel⟩ => ?_
  subst he
  exact ⟨_, rfl, _, _, _, [], _, [], hW', trodAll_mk1 (shut_bool Try.underlying4 _), (trodAll_cons_mk (Below.trod laidOut (by kernel_rfl) (of_decide_eq_true (by kernel_rfl)) k0 bel lt0) trodAll_mk0), rfl, bel.frame _, fun h => by cases h⟩

theorem over : Rows.fnExactKeyOfRow.holds Try.pinned (OpenSpec.ofChange Rows.fnExactKeyOfSpec) :=
  OpenClaim.holds_of_wide 5 Try.f5 rfl rfl rfl rfl rfl rfl rfl ⟨rfl, rfl, rfl, rfl, rfl⟩ rfl rfl rfl rfl rfl (by kernel_rfl) Try.func5 (by kernel_rfl)
    (of_decide_eq_true (by kernel_rfl)) (by unfold Func.isWrapper; first | (rw [if_pos (by decide +kernel)]; kernel_rfl) | (rw [if_neg (by decide +kernel)]; exact ⟨rfl, rfl⟩))
    (fun os started H enc _ => lifted os started H enc)
end Go.Proofs.Ytbjmijajngedoaa.fnExactKeyOf
namespace Go.Proofs.Ytbjmijajngedoaa
theorem fnExactKeyOf_holds : Rows.FnExactKeyOfSaid := fnExactKeyOf.over
#print axioms fnExactKeyOf_holds
end Go.Proofs.Ytbjmijajngedoaa
