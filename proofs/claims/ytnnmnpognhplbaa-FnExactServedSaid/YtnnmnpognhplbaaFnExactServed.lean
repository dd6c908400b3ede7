/-
  FnExactServed answers true at every Roll and leaves it as it was: Served of the program answers as the specification's, and its answer lies in memory of its own, behind another call too. No condition.
-/
import Derived.Test.YtnnmnpognhplbaaRows
import Derived.WalkKit
import Derived.ProofKit
import Derived.OpenShut
import Derived.ShutString
import Derived.ChangeOld
import Derived.Below
import Derived.Lib.SmallJoins
import Derived.Test.YtnnmnpognhplbaaSerS
import Derived.Test.YtnnmnpognhplbaaPtL
import Derived.Test.YtnnmnpognhplbaaPtN
namespace Go.Proofs.Ytnnmnpognhplbaa.fnExactServed
open Go.ChangeShapes Go.WideShapes Go.ChangeAt Go.RowKit Go.Joins
set_option linter.unusedVariables false

theorem own : ownKnob Try.prog.godebug = none := by kernel_rfl
theorem laidOut : laidOutB Try.prog = true := by kernel_rfl
open Ro
open Go.Proofs.Ytnnmnpognhplbaa.Pt (Ln)
set_option maxRecDepth 100000 in
set_option maxHeartbeats 8000000 in

theorem walk (p0 m0 o0 n0 a0 : Int) (w : World) :
    Calls Try.prog 3 #[.agg #[.int .i64 p0, .int .i64 m0, .int .i64 o0, .int .i64 n0, .int .i64 a0]] w fun e w' => e = .returned (.bool true) ∧ Below w.heap.size w w' := by
  have CT := hidIt (fun W => toRoll_any p0 m0 o0 n0 a0 W)
  have CS := hidIt (fun W => spec_Served p0 m0 o0 n0 a0 W)
  have CI := hidIt (fun W => impl_Served p0 m0 o0 n0 a0 W)
  have hlen : (serR p0 m0 o0 n0 a0).length ≤ 3 := by rw [ser_length]; exact sec_length _ _ _ _ _
  generalize serR p0 m0 o0 n0 a0 = R at CS CI hlen
  have HE := hidIt (fun W a a' c c' (r : Pt.Rd W a R) (r' : Pt.Rd W a' R) => Pt.eqPointS_any a a' c c' R W r r' (by omega))
  have cmg := fun b v W h => Pt.markPointS_any b v R 1 W h (by omega) (by omega)
  have chg := fun a c W h => Pt.heldPointS_any a c R.length 1 W h (by omega) (by omega)
  generalize hm : R.length = mm at *
  have HM := hidIt hm
  generalize 1 + 2 * mm = kg at cmg chg
  have CMG := hidIt cmg
  have CHG := hidIt chg
  have hkg : ¬ (kg : Int) < 0 := by omega
  have hkk : ((kg : Int) != (kg : Int)) = false := by simp
  clear hm cmg chg
  have B0 : Hid (Below w.heap.size w (w.alloc (rbox p0 m0 o0 n0 a0 23))) := hidIt ((Below.refl w.heap.size w).alloc (Nat.le_refl _) _)
  have BX : Hid (Bx (w.alloc (rbox p0 m0 o0 n0 a0 23)) w.heap.size p0 m0 o0 n0 a0) := hidIt ⟨by simp, by simp, by simp, by simp, by simp⟩
  have hg0 : Hid (w.heap.size < (w.alloc (rbox p0 m0 o0 n0 a0 23)).heap.size) := hidIt (by simp)
  go_enter Try.func3, Try.ntmps3
  go_wp2_with (fail)
  refine (CT.out _).mono ?_
  rintro e w1 ⟨rfl, k1⟩
  have B1 := hidIt (B0.out.trans (k1.mono B0.out.size))
  have Z1 := hidIt (Nat.lt_of_lt_of_le hg0.out k1.size)
  replace BX := hidIt (BX.out.kept k1)
  clear k1
  go_wp2_with (fail)
  refine (CS.out _).mono ?_
  rintro e w2 ⟨vw, rfl, o2, k2⟩
  have B2 := hidIt (B1.out.trans (k2.mono B1.out.size))
  replace BX := hidIt (BX.out.kept k2)
  have OW2 := hidIt o2
  have Z2 := hidIt (Nat.lt_of_lt_of_le Z1.out k2.size)
  have BW := hidIt (o2.blk (Nat.le_refl _))
  clear k2 o2
  have c0 := BX.out.c0
  have c1 := BX.out.c1
  have c2 := BX.out.c2
  have c3 := BX.out.c3
  have c4 := BX.out.c4
  go_wp2_with (fail)
  refine (CT.out _).mono ?_
  rintro e w3 ⟨rfl, k3⟩
  have B3 := hidIt (B2.out.trans (k3.mono B2.out.size))
  have OW3 := hidIt (OW2.out.kept k3)
  replace BW := hidIt (fun g hg => Nat.lt_of_lt_of_le (BW.out g hg) k3.size)
  replace BX := hidIt (BX.out.kept k3)
  have Z3 := hidIt (Nat.lt_of_lt_of_le Z2.out k3.size)
  clear k3 OW2 c0 c1 c2 c3 c4
  go_wp2_with (fail)
  refine (CI.out _).mono ?_
  rintro e w4 ⟨vg, rfl, o4, k4⟩
  have B4 := hidIt (B3.out.trans (k4.mono B3.out.size))
  have OW4 := hidIt (OW3.out.kept k4)
  have OG4 := hidIt o4
  have BG := hidIt (o4.blk (Nat.le_refl _))
  replace BX := hidIt (BX.out.kept k4)
  clear k4 o4 OW3
  obtain ⟨xw, cw, ew, _⟩ := OW4.out.form
  obtain ⟨xg, cg, eg, _⟩ := OG4.out.form
  rw [HM.out] at ew eg
  subst ew eg
  have RW := hidIt (fun w b (h : Pt.Own w b (.slice xw mm cw) R) => show Pt.Rd w xw R by obtain ⟨a, c, e, _, _, r, _⟩ := h.form; simp only [Value.slice.injEq] at e; rw [e.1]; exact r)
  have RG := hidIt (fun w b (N : List Ln) (h : Pt.Own w b (.slice xg mm cg) N) => show Pt.Rd w xg N by obtain ⟨a, c, e, _, _, r, _⟩ := h.form; simp only [Value.slice.injEq] at e; rw [e.1]; exact r)
  go_wp2_with (fail)
  refine (HE.out _ xg xw cg cw (RG.out _ _ _ OG4.out) (RW.out _ _ OW4.out)).mono ?_
  rintro e w5 ⟨rfl, k5⟩
  have B5 := hidIt (B4.out.trans (k5.mono B4.out.size))
  have OW5 := hidIt (OW4.out.kept k5)
  have OG5 := hidIt (OG4.out.kept k5)
  replace BX := hidIt (BX.out.kept k5)
  clear k5 OW4 OG4
  go_wp2_with (fail)
  refine (CMG.out _ _ _ OG5.out).mono ?_
  rintro e w6 ⟨rfl, o6, y6⟩
  have B6 := hidIt (Pt.ob_below B5.out OG5.out y6 B3.out.size B5.out.size)
  have OW6 := hidIt (OW5.out.lo OG5.out y6 BW.out)
  have OG6 := hidIt o6
  have BX6 : Hid (Bx w6 w.heap.size p0 m0 o0 n0 a0) := hidIt (BX.out.only y6 (by
    have h3 := B3.out.size
    have hz := Z3.out
    have hl := World.block_lt_of_cell? w5 _ BX.out.c0
    unfold Pt.ob
    cases hvb : (Value.slice xg mm cg).ownBlock with
    | none => simp at hl ⊢; omega
    | some x => have := (World.ownsRow.lt OG5.out x hvb).1; simp; omega))
  clear o6 y6 OW5 OG5 BX
  go_wp2_with (fail)
  refine (CHG.out _ _ _ (RG.out _ _ _ OG6.out)).mono ?_
  rintro e w7 ⟨rfl, k7⟩
  have B7 := hidIt (B6.out.trans (k7.mono B6.out.size))
  have OW7 := hidIt (OW6.out.kept k7)
  have OG7 := hidIt (OG6.out.kept k7)
  have BX7 := hidIt (BX6.out.kept k7)
  clear k7 OW6 OG6 BX6
  have c0 := BX7.out.c0
  have c1 := BX7.out.c1
  have c2 := BX7.out.c2
  have c3 := BX7.out.c3
  have c4 := BX7.out.c4
  go_wp2_with (fail)
  refine (CT.out _).mono ?_
  rintro e w8 ⟨rfl, k8⟩
  have B8 := hidIt (B7.out.trans (k8.mono B7.out.size))
  have OW8 := hidIt (OW7.out.kept k8)
  have OG8 := hidIt (OG7.out.kept k8)
  clear k8 OW7 OG7 BX7 c0 c1 c2 c3 c4
  go_wp2_with (fail)
  refine (CI.out _).mono ?_
  rintro e w9 ⟨vh, rfl, o9, k9⟩
  have B9 := hidIt (B8.out.trans (k9.mono B8.out.size))
  have OW9 := hidIt (OW8.out.kept k9)
  have OG9 := hidIt (OG8.out.kept k9)
  obtain ⟨xh, ch, eh, _, _, rh, _⟩ := o9.form
  rw [HM.out] at eh
  subst eh
  have RH := hidIt rh
  clear k9 o9 rh OW8 OG8
  go_wp2_with (fail)
  refine (HE.out _ xh xw ch cw RH.out (RW.out _ _ OW9.out)).mono ?_
  rintro e w10 ⟨rfl, k10⟩
  have B10 := hidIt (B9.out.trans (k10.mono B9.out.size))
  have OG10 := hidIt (OG9.out.kept k10)
  clear k10 OW9 OG9 RH
  go_wp2_with (fail)
  refine (CHG.out _ _ _ (RG.out _ _ _ OG10.out)).mono ?_
  rintro e w11 ⟨rfl, k11⟩
  have B11 := hidIt (B10.out.trans (k11.mono B10.out.size))
  clear k11 OG10
  go_wp2_with (fail)
  go_ret
  exact ⟨rfl, B11.out⟩

set_option maxRecDepth 100000 in
theorem lifted (os : Os) (started : os.Started) (H : Type) (enc : TypeId × Value → H) :
    ReturnsInHanded {} Try.checked os 3 .any (Rows.fnExactServedSpec.pre6 enc Try.prog Try.f3 Rows.fnExactServedRow.domain false) (Rows.fnExactServedSpec.post enc Try.prog Try.f3 false true false false) := by
  refine returnsInHanded_of_change (C := Try.checked) own started (by kernel_rfl) Try.func3
    (ChangeSpec.witness6 (enc := enc) (C := Try.checked) false ⟨#[], #[.agg #[.int .i64 0, .int .i64 0, .int .i64 0, .int .i64 0, .int .i64 0]], []⟩ 8 (by kernel_rfl) (by kernel_rfl) (by kernel_rfl) (by kernel_rfl)) ?_
  intro W base args ds gs before hval0 hW hcnd _
  have hval : ∀ (j : Nat) t v, Try.f3.params[j]? = some t → args[j]? = some v → Value.okWide Try.prog W .any base t v := hval0
  have hW' := hW
  obtain ⟨p, q, hA0, hV, rfl, hfz, hnd⟩ := hW
  have hA : DataW.TrodAll enc Try.prog W 0 (fun _ => true) true Try.f3.params.toList args.toList ds p := hA0
  rw [Try.params3] at hA hval
  obtain ⟨v0, vs0, d0, ds0, p0, q0, hargs, rfl, rfl, h0, r0⟩ := trodAll_cons hA
  obtain ⟨rfl, rfl, rfl⟩ := trodAll_nil r0
  obtain rfl : args = #[v0] := by cases args; simp_all
  obtain ⟨rfl, rfl⟩ := trodVars_none hV
  have k0 := h0
  have lt0 : ∀ x ∈ p0, x.block < W.heap.size := by obtain ⟨m, hm⟩ := k0; exact DataW.trod_lt m _ _ _ hm
  obtain ⟨p0, m0, o0, n0, a0, rfl⟩ := Ro.open_roll Try.underlying23 (by kernel_rfl) rfl rfl rfl rfl rfl (by kernel_rfl) (by kernel_rfl) (by kernel_rfl) (by kernel_rfl) (by kernel_rfl) Try.underlying2 Try.underlying2 Try.underlying2 Try.underlying2 Try.underlying2 (hval 0 23 v0 rfl rfl) h0
  clear hA0 hval0
  refine (walk p0 m0 o0 n0 a0 W).mono fun e W' ⟨he, bel⟩ => ?_
  subst he
  exact ⟨_, rfl, _, _, _, [], _, [], hW', trodAll_mk1 (shut_bool Try.underlying4 _), (trodAll_cons_mk (Below.trod laidOut (by kernel_rfl) (of_decide_eq_true (by kernel_rfl)) k0 bel lt0) trodAll_mk0), rfl, bel.frame _, fun h => by cases h⟩

theorem over : Rows.fnExactServedRow.holds Try.pinned (OpenSpec.ofChange Rows.fnExactServedSpec) :=
  OpenClaim.holds_of_wide 3 Try.f3 rfl rfl rfl rfl rfl rfl rfl ⟨rfl, rfl, rfl, rfl, rfl⟩ rfl rfl rfl rfl rfl (by kernel_rfl) Try.func3 (by kernel_rfl)
    (of_decide_eq_true (by kernel_rfl)) (by unfold Func.isWrapper; first | (rw [if_pos (by decide +kernel)]; kernel_rfl) | (rw [if_neg (by decide +kernel)]; exact ⟨rfl, rfl⟩))
    (fun os started H enc _ => lifted os started H enc)
end Go.Proofs.Ytnnmnpognhplbaa.fnExactServed
namespace Go.Proofs.Ytnnmnpognhplbaa
theorem fnExactServed_holds : Rows.FnExactServedSaid := fnExactServed.over
#print axioms fnExactServed_holds
end Go.Proofs.Ytnnmnpognhplbaa
