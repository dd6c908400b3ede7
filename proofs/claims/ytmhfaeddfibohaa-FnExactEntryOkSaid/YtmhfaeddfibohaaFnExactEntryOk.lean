/-
  FnExactEntryOk answers true at every Entry and leaves it as it was: EntryOk of the program answers as the specification's. No condition.
-/
import Derived.Test.YtmhfaeddfibohaaRows
import Derived.WalkKit
import Derived.ProofKit
import Derived.OpenShut
import Derived.ShutString
import Derived.ChangeOld
import Derived.Below
import Derived.Lib.SmallJoins
import Derived.Test.YtmhfaeddfibohaaBokI
import Derived.Test.YtmhfaeddfibohaaEntL
import Derived.Test.YtmhfaeddfibohaaBoxM
namespace Go.Proofs.Ytmhfaeddfibohaa.fnExactEntryOk
open Go.ChangeShapes Go.WideShapes Go.ChangeAt Go.RowKit Go.Joins
set_option linter.unusedVariables false

theorem own : ownKnob Try.prog.godebug = none := by kernel_rfl
theorem laidOut : laidOutB Try.prog = true := by kernel_rfl
open En
open Go.Proofs.Ytmhfaeddfibohaa.Bk (okE)
theorem on {W a b : World} (h : Below W.heap.size W a) (k : Below a.heap.size a b) : Below W.heap.size W b := h.trans (k.mono h.size)
set_option maxRecDepth 100000 in
set_option maxHeartbeats 8000000 in

theorem walk (x0 : En.Rw) (hx0 : x0.1.size ≤ 9223372036854775807 ∧ x0.2.1.size ≤ 9223372036854775807) (w : World) :
    Calls Try.prog 5 #[En.rv x0] w fun e w' => e = .returned (.bool true) ∧ Below w.heap.size w w' := by
  have Z0 := hidIt (fun l W h0 h1 => sz_any x0 l W hx0.1 hx0.2 h0 h1)
  have T0 := hidIt (fun (c0 c1 : ByteArray) (c2 c3 : Int) (c4 : Bool) W => to_any (c0, c1, c2, c3, c4) W)
  have CS := hidIt (fun W => spec_EntryOk x0 W hx0.1 hx0.2)
  have CI := hidIt (fun W => impl_EntryOk x0 W hx0.1 hx0.2)
  generalize okE (toE x0) = r at CS CI
  have hr : (r != r) = false := by cases r <;> rfl
  have hr2 : (r == r) = true := by cases r <;> rfl
  clear hx0
  obtain ⟨a0, a1, a2, a3, a4⟩ := x0
  have BA := hidIt (Bo.Box.new w (rc (a0, a1, a2, a3, a4)) 49)
  have HB := hidIt ((Below.refl w.heap.size w).alloc (Nat.le_refl _) (.cells (rc (a0, a1, a2, a3, a4)) 49))
  simp only [rv, rc] at Z0 T0 CS CI BA HB
  go_enter Try.func5, Try.ntmps5
  go_wp2_with (fail)
  refine (Z0.out _ _ (by decide) (by decide)).mono ?_
  rintro e w1 ⟨l, rfl, l0, _, _, k1⟩
  replace HB := hidIt (on HB.out k1)
  replace BA := hidIt (BA.out.kept k1)
  clear k1
  by_cases hl : l < 0
  · go_wp2_with (fail)
    go_ret
    exact ⟨rfl, HB.out⟩
  have p0 := BA.out.c 0 (v := .string a0) rfl
  have p1 := BA.out.c 1 (v := .string a1) rfl
  have p2 := BA.out.c 2 (v := .int .i64 a2) rfl
  have p3 := BA.out.c 3 (v := .int .i64 a3) rfl
  have p4 := BA.out.c 4 (v := .bool a4) rfl
  go_wp2_with (fail)
  refine (T0.out _ _ _ _ _ _).mono ?_
  rintro e w2 ⟨rfl, k2⟩
  replace HB := hidIt (on HB.out k2)
  replace BA := hidIt (BA.out.kept k2)
  clear k2 p0 p1 p2 p3 p4
  go_wp2_with (fail)
  refine (CS.out _).mono ?_
  rintro e w3 ⟨rfl, k3⟩
  replace HB := hidIt (on HB.out k3)
  replace BA := hidIt (BA.out.kept k3)
  clear k3
  have p0 := BA.out.c 0 (v := .string a0) rfl
  have p1 := BA.out.c 1 (v := .string a1) rfl
  have p2 := BA.out.c 2 (v := .int .i64 a2) rfl
  have p3 := BA.out.c 3 (v := .int .i64 a3) rfl
  have p4 := BA.out.c 4 (v := .bool a4) rfl
  go_wp2_with (fail)
  refine (T0.out _ _ _ _ _ _).mono ?_
  rintro e w4 ⟨rfl, k4⟩
  replace HB := hidIt (on HB.out k4)
  replace BA := hidIt (BA.out.kept k4)
  clear k4 p0 p1 p2 p3 p4
  go_wp2_with (fail)
  refine (CI.out _).mono ?_
  rintro e w5 ⟨rfl, k5⟩
  replace HB := hidIt (on HB.out k5)
  clear k5
  go_wp2_with (fail)
  go_ret
  exact ⟨rfl, HB.out⟩

set_option maxRecDepth 100000 in
theorem lifted (os : Os) (started : os.Started) (H : Type) (enc : TypeId × Value → H) :
    ReturnsInHanded {} Try.checked os 5 .any (Rows.fnExactEntryOkSpec.pre6 enc Try.prog Try.f5 Rows.fnExactEntryOkRow.domain false) (Rows.fnExactEntryOkSpec.post enc Try.prog Try.f5 false true false false) := by
  refine returnsInHanded_of_change (C := Try.checked) own started (by kernel_rfl) Try.func5
    (ChangeSpec.witness6 (enc := enc) (C := Try.checked) false ⟨#[], #[.agg #[.string ByteArray.empty, .string ByteArray.empty, .int .i64 0, .int .i64 0, .bool false]], []⟩ 8 (by kernel_rfl) (by kernel_rfl) (by kernel_rfl) (by kernel_rfl)) ?_
  intro W base args ds gs before hval0 hW hcnd _
  have hval : ∀ (j : Nat) t v, Try.f5.params[j]? = some t → args[j]? = some v → Value.okWide Try.prog W .any base t v := hval0
  have hW' := hW
  obtain ⟨p, q, hA0, hV, rfl, hfz, hnd⟩ := hW
  have hA : DataW.TrodAll enc Try.prog W 0 (fun _ => true) true Try.f5.params.toList args.toList ds p := hA0
  rw [Try.params5] at hA hval
  obtain ⟨v0, vs0, d0, ds0, p0, q0, hargs, rfl, rfl, h0, r0⟩ := trodAll_cons hA
  obtain ⟨rfl, rfl, rfl⟩ := trodAll_nil r0
  obtain rfl : args = #[v0] := by cases args; simp_all
  obtain ⟨rfl, rfl⟩ := trodVars_none hV
  have k0 := h0
  have lt0 : ∀ x ∈ p0, x.block < W.heap.size := by obtain ⟨m, hm⟩ := k0; exact DataW.trod_lt m _ _ _ hm
  obtain ⟨x0, rfl, hx0⟩ := En.open_one Try.underlying49 (by kernel_rfl) rfl rfl rfl rfl rfl (by kernel_rfl) (by kernel_rfl) (by kernel_rfl) (by kernel_rfl) (by kernel_rfl) Try.underlying9 Try.underlying9 Try.underlying2 Try.underlying2 Try.underlying4 (hval 0 49 v0 rfl rfl) h0
  clear hA0 hval0
  refine (walk x0 hx0 W).mono fun e W' ⟨he, bel⟩ => ?_
  subst he
  exact ⟨_, rfl, _, _, _, [], _, [], hW', trodAll_mk1 (shut_bool Try.underlying4 _), (trodAll_cons_mk (Below.trod laidOut (by kernel_rfl) (of_decide_eq_true (by kernel_rfl)) k0 bel lt0) trodAll_mk0), rfl, bel.frame _, fun h => by cases h⟩

theorem over : Rows.fnExactEntryOkRow.holds Try.pinned (OpenSpec.ofChange Rows.fnExactEntryOkSpec) :=
  OpenClaim.holds_of_wide 5 Try.f5 rfl rfl rfl rfl rfl rfl rfl ⟨rfl, rfl, rfl, rfl, rfl⟩ rfl rfl rfl rfl rfl (by kernel_rfl) Try.func5 (by kernel_rfl)
    (of_decide_eq_true (by kernel_rfl)) (by unfold Func.isWrapper; first | (rw [if_pos (by decide +kernel)]; kernel_rfl) | (rw [if_neg (by decide +kernel)]; exact ⟨rfl, rfl⟩))
    (fun os started H enc _ => lifted os started H enc)
end Go.Proofs.Ytmhfaeddfibohaa.fnExactEntryOk
namespace Go.Proofs.Ytmhfaeddfibohaa
theorem fnExactEntryOk_holds : Rows.FnExactEntryOkSaid := fnExactEntryOk.over
#print axioms fnExactEntryOk_holds
end Go.Proofs.Ytmhfaeddfibohaa
