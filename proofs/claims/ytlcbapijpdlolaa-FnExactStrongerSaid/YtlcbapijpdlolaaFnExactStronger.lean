/-
  FnExactStronger answers true at every two Members and leaves them as they were: Stronger of the program answers as the specification's. No condition.
-/
import Derived.Test.YtlcbapijpdlolaaRows
import Derived.WalkKit
import Derived.ProofKit
import Derived.OpenShut
import Derived.ShutString
import Derived.ChangeOld
import Derived.Below
import Derived.Lib.SmallJoins
import Derived.Test.YtlcbapijpdlolaaMbH
import Derived.Test.YtlcbapijpdlolaaMem2L
import Derived.Test.YtlcbapijpdlolaaBoxM
import Derived.Test.YtlcbapijpdlolaaQuiet
namespace Go.Proofs.Ytlcbapijpdlolaa.fnExactStronger
open Go.ChangeShapes Go.WideShapes Go.ChangeAt Go.RowKit Go.Joins
set_option linter.unusedVariables false

theorem own : ownKnob Try.prog.godebug = none := by kernel_rfl
theorem laidOut : laidOutB Try.prog = true := by kernel_rfl
open Mm
open Go.Proofs.Ytlcbapijpdlolaa.Mk (newB)
open Go.Proofs.Ytlcbapijpdlolaa.Rc (BelowBy BelowBy.one BelowBy.cell wp_region_below calls_below calls_same)
theorem on {W a b : World} (h : Below W.heap.size W a) (k : Below a.heap.size a b) : Below W.heap.size W b := h.trans (k.mono h.size)
set_option maxRecDepth 100000 in
set_option maxHeartbeats 8000000 in

theorem walk (x0 : Mm.Rw) (hx0 : True) (x1 : Mm.Rw) (hx1 : True) (w : World) :
    Calls Try.prog 6 #[Mm.rv x0, Mm.rv x1] w fun e w' => e = .returned (.bool true) ∧ Below w.heap.size w w' := by
  have T0 := hidIt (fun (c0 c1 c2 : Int) W => to_any (c0, c1, c2) W)
  have CS := hidIt (fun W => spec_Stronger x0 x1 W)
  have CI := hidIt (fun W => impl_Stronger x0 x1 W)
  generalize newB (toE x0) (toE x1) = r at CS CI
  have hr : (r != r) = false := by cases r <;> rfl
  have hr2 : (r == r) = true := by cases r <;> rfl
  clear hx0 hx1
  obtain ⟨a0, a1, a2⟩ := x0
  obtain ⟨b0, b1, b2⟩ := x1
  have BA := hidIt ((Bo.Box.new w (rc (a0, a1, a2)) 44).alloc (.cells (rc (b0, b1, b2)) 44))
  have BB : Hid (Bo.Box ((w.alloc (.cells (rc (a0, a1, a2)) 44)).alloc (.cells (rc (b0, b1, b2)) 44)) (w.heap.size + 1) (rc (b0, b1, b2))) := hidIt (Bo.Box.newAt (by simp))
  have HB := hidIt (((Below.refl w.heap.size w).alloc (Nat.le_refl _) (.cells (rc (a0, a1, a2)) 44)).alloc (by simp) (.cells (rc (b0, b1, b2)) 44))
  simp only [rv, rc] at T0 CS CI BA BB HB
  go_enter Try.func6, Try.ntmps6
  go_wp2_with (fail)
  generalize (w.alloc (.cells #[.int .i64 a0, .int .i64 a1, .int .i64 a2] 44)).alloc (.cells #[.int .i64 b0, .int .i64 b1, .int .i64 b2] 44) = w2 at BA BB HB ⊢
  generalize w.heap.size + 1 = gb at *
  have p0 := BA.out.c 0 (v := .int .i64 a0) rfl
  have p1 := BA.out.c 1 (v := .int .i64 a1) rfl
  have p2 := BA.out.c 2 (v := .int .i64 a2) rfl
  have q0 := BB.out.c 0 (v := .int .i64 b0) rfl
  have q1 := BB.out.c 1 (v := .int .i64 b1) rfl
  have q2 := BB.out.c 2 (v := .int .i64 b2) rfl
  haveI := BelowBy.one w2
  have g0 := fun p : BelowBy w2 => p.cell p0
  have g1 := fun p : BelowBy w2 => p.cell p1
  have g2 := fun p : BelowBy w2 => p.cell p2
  have f0 := fun p : BelowBy w2 => p.cell q0
  have f1 := fun p : BelowBy w2 => p.cell q1
  have f2 := fun p : BelowBy w2 => p.cell q2
  refine wp_region_below (by kernel_rfl) (by kernel_rfl) ?_
  repeat (go_big_quiet_step (first | (go_at_call 30; refine calls_below (T0.out _ _ _ _)) | (go_at_call 16; refine calls_below (CS.out _))))
  refine wpQuiet_nil ?_
  intro _ hw'
  obtain ⟨pq, rfl⟩ := hw'
  have kX := pq.h
  generalize pq.world = w3 at kX ⊢
  replace HB := hidIt (on HB.out kX)
  replace BA := hidIt (BA.out.kept kX)
  replace BB := hidIt (BB.out.kept kX)
  clear kX p0 p1 p2 q0 q1 q2 g0 g1 g2 f0 f1 f2
  have p0 := BA.out.c 0 (v := .int .i64 a0) rfl
  have p1 := BA.out.c 1 (v := .int .i64 a1) rfl
  have p2 := BA.out.c 2 (v := .int .i64 a2) rfl
  have q0 := BB.out.c 0 (v := .int .i64 b0) rfl
  have q1 := BB.out.c 1 (v := .int .i64 b1) rfl
  have q2 := BB.out.c 2 (v := .int .i64 b2) rfl
  haveI := BelowBy.one w3
  have g0 := fun p : BelowBy w3 => p.cell p0
  have g1 := fun p : BelowBy w3 => p.cell p1
  have g2 := fun p : BelowBy w3 => p.cell p2
  have f0 := fun p : BelowBy w3 => p.cell q0
  have f1 := fun p : BelowBy w3 => p.cell q1
  have f2 := fun p : BelowBy w3 => p.cell q2
  go_wp2_with (fail)
  refine wp_region_below (by kernel_rfl) (by kernel_rfl) ?_
  repeat (go_big_quiet_step (first | (go_at_call 30; refine calls_below (T0.out _ _ _ _)) | (go_at_call 15; refine calls_below (CI.out _))))
  refine wpQuiet_nil ?_
  intro _ hw'
  obtain ⟨pq, rfl⟩ := hw'
  have kX := pq.h
  generalize pq.world = w4 at kX ⊢
  replace HB := hidIt (on HB.out kX)
  replace BA := hidIt (BA.out.kept kX)
  replace BB := hidIt (BB.out.kept kX)
  clear kX p0 p1 p2 q0 q1 q2 g0 g1 g2 f0 f1 f2
  go_wp2_with (fail)
  go_ret
  exact ⟨rfl, HB.out⟩

set_option maxRecDepth 100000 in
theorem lifted (os : Os) (started : os.Started) (H : Type) (enc : TypeId × Value → H) :
    ReturnsInHanded {} Try.checked os 6 .any (Rows.fnExactStrongerSpec.pre6 enc Try.prog Try.f6 Rows.fnExactStrongerRow.domain false) (Rows.fnExactStrongerSpec.post enc Try.prog Try.f6 false true false false) := by
  refine returnsInHanded_of_change (C := Try.checked) own started (by kernel_rfl) Try.func6
    (ChangeSpec.witness6 (enc := enc) (C := Try.checked) false ⟨#[], #[.agg #[.int .i64 0, .int .i64 0, .int .i64 0], .agg #[.int .i64 0, .int .i64 0, .int .i64 0]], []⟩ 8 (by kernel_rfl) (by kernel_rfl) (by kernel_rfl) (by kernel_rfl)) ?_
  intro W base args ds gs before hval0 hW hcnd _
  have hval : ∀ (j : Nat) t v, Try.f6.params[j]? = some t → args[j]? = some v → Value.okWide Try.prog W .any base t v := hval0
  have hW' := hW
  obtain ⟨p, q, hA0, hV, rfl, hfz, hnd⟩ := hW
  have hA : DataW.TrodAll enc Try.prog W 0 (fun _ => true) true Try.f6.params.toList args.toList ds p := hA0
  rw [Try.params6] at hA hval
  obtain ⟨v0, vs0, d0, ds0, p0, q0, hargs, rfl, rfl, h0, r0⟩ := trodAll_cons hA
  obtain ⟨v1, vs1, d1, ds1, p1, q1, rfl, rfl, rfl, h1, r1⟩ := trodAll_cons r0
  obtain ⟨rfl, rfl, rfl⟩ := trodAll_nil r1
  obtain rfl : args = #[v0, v1] := by cases args; simp_all
  obtain ⟨rfl, rfl⟩ := trodVars_none hV
  have k0 := h0
  have lt0 : ∀ x ∈ p0, x.block < W.heap.size := by obtain ⟨m, hm⟩ := k0; exact DataW.trod_lt m _ _ _ hm
  have k1 := h1
  have lt1 : ∀ x ∈ p1, x.block < W.heap.size := by obtain ⟨m, hm⟩ := k1; exact DataW.trod_lt m _ _ _ hm
  obtain ⟨x0, rfl, hx0⟩ := Mm.open_one Try.underlying44 (by kernel_rfl) rfl rfl rfl (by kernel_rfl) (by kernel_rfl) (by kernel_rfl) Try.underlying2 Try.underlying2 Try.underlying2 (hval 0 44 v0 rfl rfl) h0
  obtain ⟨x1, rfl, hx1⟩ := Mm.open_one Try.underlying44 (by kernel_rfl) rfl rfl rfl (by kernel_rfl) (by kernel_rfl) (by kernel_rfl) Try.underlying2 Try.underlying2 Try.underlying2 (hval 1 44 v1 rfl rfl) h1
  clear hA0 hval0
  refine (walk x0 hx0 x1 hx1 W).mono fun e W' ⟨he, bel⟩ => ?_
  subst he
  exact ⟨_, rfl, _, _, _, [], _, [], hW', trodAll_mk1 (shut_bool Try.underlying4 _), (trodAll_cons_mk (Below.trod laidOut (by kernel_rfl) (of_decide_eq_true (by kernel_rfl)) k0 bel lt0) (trodAll_cons_mk (Below.trod laidOut (by kernel_rfl) (of_decide_eq_true (by kernel_rfl)) k1 bel lt1) trodAll_mk0)), rfl, bel.frame _, fun h => by cases h⟩

theorem over : Rows.fnExactStrongerRow.holds Try.pinned (OpenSpec.ofChange Rows.fnExactStrongerSpec) :=
  OpenClaim.holds_of_wide 6 Try.f6 rfl rfl rfl rfl rfl rfl rfl ⟨rfl, rfl, rfl, rfl, rfl⟩ rfl rfl rfl rfl rfl (by kernel_rfl) Try.func6 (by kernel_rfl)
    (of_decide_eq_true (by kernel_rfl)) (by unfold Func.isWrapper; first | (rw [if_pos (by decide +kernel)]; kernel_rfl) | (rw [if_neg (by decide +kernel)]; exact ⟨rfl, rfl⟩))
    (fun os started H enc _ => lifted os started H enc)
end Go.Proofs.Ytlcbapijpdlolaa.fnExactStronger
namespace Go.Proofs.Ytlcbapijpdlolaa
theorem fnExactStronger_holds : Rows.FnExactStrongerSaid := fnExactStronger.over
#print axioms fnExactStronger_holds
end Go.Proofs.Ytlcbapijpdlolaa
