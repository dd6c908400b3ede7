/-
  FnExactAgreed answers true at every list of Replicas and leaves it as it was: Agreed of the program answers as the specification's, and writes into no argument. No condition.
-/
import Derived.Test.YtkkbccppfppalaaRows
import Derived.WalkKit
import Derived.ProofKit
import Derived.OpenShut
import Derived.ShutString
import Derived.ChangeOld
import Derived.Below
import Derived.Lib.SmallJoins
import Derived.Test.YtkkbccppfppalaaBun6
import Derived.Test.YtkkbccppfppalaaBun5
import Derived.Test.YtkkbccppfppalaaBun2
namespace Go.Proofs.Ytkkbccppfppalaa.fnExactAgreed
open Go.ChangeShapes Go.WideShapes Go.ChangeAt Go.RowKit Go.Joins
set_option linter.unusedVariables false

theorem own : ownKnob Try.prog.godebug = none := by kernel_rfl
theorem laidOut : laidOutB Try.prog = true := by kernel_rfl
open Go.ChangeShapes Go.WideShapes Go.ChangeAt Go.RowKit
open Go.Proofs.Ytkkbccppfppalaa.Vv (hidIt)
set_option maxRecDepth 100000 in
set_option maxHeartbeats 32000000 in

theorem walk (a0 : Option Addr) (cap0 : Nat) (L0 : List Rp.Rep) (w : World) (w0 : Rp.In w a0 cap0 L0) :
    Calls Try.prog 6 #[.slice a0 L0.length cap0] w fun e w' => e = .returned (.bool true) ∧ Below w.heap.size w w' := by
  have HB := hidIt (Below.refl w.heap.size w)
  have HR0 := hidIt w0.rd
  have hlen0 : L0.length ≤ 9223372036854775807 := Nat.le_trans w0.le w0.cap
  have HSH := hidIt w0.short
  have Z0 := hidIt (fun W l (r : Rp.Rd W a0 L0) h0 h1 => Rp.szS_any a0 cap0 L0 l W r hlen0 HSH.out h0 h1)
  have T0 := hidIt (fun W (r : Rp.Rd W a0 L0) hl hb => Rp.toS_any a0 cap0 L0 W r hl hb)
  have E0 := hidIt (fun W a a' c c' (r : Rp.Rd W a L0) (r' : Rp.Rd W a' L0) => Rp.eqS_same a a' c c' L0 W r r' hlen0)
  have CS : Hid (∀ W, ∀ a ca, Rp.Rd W a L0 → (a = none → ca = 0) → L0.length ≤ ca → ca ≤ 9223372036854775807 → Rp.bulk L0 ≤ 1048576 → Calls Try.prog 18 #[.slice a L0.length ca] W fun e w' => e = .returned (.bool (Rp.agR L0)) ∧ Below W.heap.size W w') := hidIt (fun W a ca ra na _ _ hb => Rp.spec_Agreed a ca L0 W ra HSH.out hlen0 (fun i hi => by have := Rp.bulk_one hi; unfold Rp.bulk1 at this; omega))
  have CI : Hid (∀ W, ∀ a ca, Rp.Rd W a L0 → (a = none → ca = 0) → L0.length ≤ ca → ca ≤ 9223372036854775807 → Rp.bulk L0 ≤ 1048576 → Calls Try.prog 19 #[.slice a L0.length ca] W fun e w' => e = .returned (.bool (Rp.agR L0)) ∧ Below W.heap.size W w') := hidIt (fun W a ca ra na hle _ hb => Rp.impl_Agreed a ca L0 W ra HSH.out hlen0 (fun i hi => by have := Rp.bulk_one hi; unfold Rp.bulk1 at this; omega) hle)
  generalize Rp.agR L0 = R0 at CS CI
  have hR0 : (R0 != R0) = false := by cases R0 <;> rfl
  have hR0' : (R0 == R0) = true := by cases R0 <;> rfl
  generalize hn0 : L0.length = m0 at *
  have HN0 := hidIt hn0
  clear hn0 w0
  go_enter Try.func6, Try.ntmps6
  go_wp2_with (fail)
  refine (Z0.out _ _ HR0.out (by decide) (by decide)).mono ?_
  rintro e w1 ⟨l, rfl, hl, kk⟩
  replace HB := hidIt (HB.out.trans (kk.mono HB.out.size))
  clear kk
  have hl1 := hl.le
  have HLS := hidIt hl.sum
  clear hl
  by_cases hneg : l < 0
  · go_wp2_with (fail)
    go_ret
    exact ⟨rfl, HB.out⟩
  have hsum := HLS.out (by omega)
  have hm0 : m0 ≤ 1048576 := by omega
  have hbk : Rp.bulk L0 ≤ 1048576 := by omega
  clear hsum HLS
  have sz_s0 := HB.out.size
  go_wp2_with (fail)
  refine (T0.out _ (HR0.out.kept HB.out) hm0 hbk).mono ?_
  intro e w2 hz
  obtain ⟨v, rfl, oo, kk⟩ := hz.out
  clear hz
  have s0 := hidIt oo
  obtain ⟨p_s0, q_s0, ev, hc_s0, hd_s0, hn_s0⟩ := oo.formN HN0.out
  subst ev
  have G_s0 := hidIt (fun W lo hi M (o : Rp.Own W lo hi (.slice p_s0 m0 q_s0) M) => o.rd)
  have lh_s0 := oo.lo_le
  replace HB := hidIt (HB.out.trans (kk.mono HB.out.size))
  clear oo kk
  skip
  go_wp2_with (fail)
  refine (CS.out _ _ _ (G_s0.out _ _ _ _ s0.out) hn_s0 hc_s0 hd_s0 hbk).mono ?_
  rintro e w3 ⟨rfl, kk⟩
  replace HB := hidIt (HB.out.trans (kk.mono HB.out.size))
  replace s0 := hidIt (s0.out.kept kk)
  clear kk
  clear s0
  have sz_x0x := HB.out.size
  go_wp2_with (fail)
  refine (T0.out _ (HR0.out.kept HB.out) hm0 hbk).mono ?_
  intro e w4 hz
  obtain ⟨v, rfl, oo, kk⟩ := hz.out
  clear hz
  have x0x := hidIt oo
  obtain ⟨p_x0x, q_x0x, ev, hc_x0x, hd_x0x, hn_x0x⟩ := oo.formN HN0.out
  subst ev
  have G_x0x := hidIt (fun W lo hi M (o : Rp.Own W lo hi (.slice p_x0x m0 q_x0x) M) => o.rd)
  have lh_x0x := oo.lo_le
  replace HB := hidIt (HB.out.trans (kk.mono HB.out.size))
  clear oo kk
  skip
  go_wp2_with (fail)
  refine (CI.out _ _ _ (G_x0x.out _ _ _ _ x0x.out) hn_x0x hc_x0x hd_x0x hbk).mono ?_
  rintro e w5 ⟨rfl, kk⟩
  replace HB := hidIt (HB.out.trans (kk.mono HB.out.size))
  replace x0x := hidIt (x0x.out.kept kk)
  clear kk
  have sz_y0 := HB.out.size
  have od_x0x_y0 := x0x.out.lo_le.2
  go_wp2_with (fail)
  refine (T0.out _ (HR0.out.kept HB.out) hm0 hbk).mono ?_
  intro e w6 hz
  obtain ⟨v, rfl, oo, kk⟩ := hz.out
  clear hz
  have y0 := hidIt oo
  obtain ⟨p_y0, q_y0, ev, hc_y0, hd_y0, hn_y0⟩ := oo.formN HN0.out
  subst ev
  have G_y0 := hidIt (fun W lo hi M (o : Rp.Own W lo hi (.slice p_y0 m0 q_y0) M) => o.rd)
  have lh_y0 := oo.lo_le
  replace HB := hidIt (HB.out.trans (kk.mono HB.out.size))
  replace x0x := hidIt (x0x.out.kept kk)
  clear oo kk
  go_wp2_with (fail)
  refine (E0.out _ p_x0x p_y0 q_x0x q_y0 (G_x0x.out _ _ _ _ x0x.out) (G_y0.out _ _ _ _ y0.out)).mono ?_
  rintro e w7 ⟨rfl, kk⟩
  replace HB := hidIt (HB.out.trans (kk.mono HB.out.size))
  replace x0x := hidIt (x0x.out.kept kk)
  replace y0 := hidIt (y0.out.kept kk)
  clear kk
  clear y0
  go_wp2_with (fail)
  go_ret
  exact ⟨rfl, HB.out⟩

set_option maxRecDepth 100000 in
theorem lifted (os : Os) (started : os.Started) (H : Type) (enc : TypeId × Value → H) :
    ReturnsInHanded {} Try.checked os 6 .any (Rows.fnExactAgreedSpec.pre6 enc Try.prog Try.f6 Rows.fnExactAgreedRow.domain false) (Rows.fnExactAgreedSpec.post enc Try.prog Try.f6 false true false false) := by
  refine returnsInHanded_of_change (C := Try.checked) own started (by kernel_rfl) Try.func6
    (ChangeSpec.witness6 (enc := enc) (C := Try.checked) false ⟨#[], #[.slice none 0 0], []⟩ 8 (by kernel_rfl) (by kernel_rfl) (by kernel_rfl) (by kernel_rfl)) ?_
  intro W base args ds gs before hval0 hW hcnd _
  have hval : ∀ (j : Nat) t v, Try.f6.params[j]? = some t → args[j]? = some v → Value.okWide Try.prog W .any base t v := hval0
  have hW' := hW
  obtain ⟨p, q, hA0, hV, rfl, hfz, hnd⟩ := hW
  have hA : DataW.TrodAll enc Try.prog W 0 (fun _ => true) true Try.f6.params.toList args.toList ds p := hA0
  rw [Try.params6] at hA hval
  obtain ⟨v0, vs0, d0, ds0, p0, q0, hargs, rfl, rfl, h0, r0⟩ := trodAll_cons hA
  obtain ⟨rfl, rfl, rfl⟩ := trodAll_nil r0
  obtain rfl : args = #[v0] := by cases args; simp_all
  obtain ⟨rfl, rfl⟩ := trodVars_none hV
  have k0 := h0
  have lt0 : ∀ x ∈ p0, x.block < W.heap.size := by obtain ⟨m, hm⟩ := k0; exact DataW.trod_lt m _ _ _ hm
  obtain ⟨a0, cap0, L0, rfl, w0⟩ := Rp.open_reps (hval 0 22 v0 rfl rfl) h0
  clear hA0 hval0
  refine (walk a0 cap0 L0 W w0).mono fun e W' ⟨he, bel⟩ => ?_
  subst he
  exact ⟨_, rfl, _, _, _, [], _, [], hW', trodAll_mk1 (shut_bool Try.underlying4 _), (trodAll_cons_mk (Below.trod laidOut (by kernel_rfl) (of_decide_eq_true (by kernel_rfl)) k0 bel lt0) trodAll_mk0), rfl, bel.frame _, fun h => by cases h⟩

theorem over : Rows.fnExactAgreedRow.holds Try.pinned (OpenSpec.ofChange Rows.fnExactAgreedSpec) :=
  OpenClaim.holds_of_wide 6 Try.f6 rfl rfl rfl rfl rfl rfl rfl ⟨rfl, rfl, rfl, rfl, rfl⟩ rfl rfl rfl rfl rfl (by kernel_rfl) Try.func6 (by kernel_rfl)
    (of_decide_eq_true (by kernel_rfl)) (by unfold Func.isWrapper; first | (rw [if_pos (by decide +kernel)]; kernel_rfl) | (rw [if_neg (by decide +kernel)]; exact ⟨rfl, rfl⟩))
    (fun os started H enc _ => lifted os started H enc)
end Go.Proofs.Ytkkbccppfppalaa.fnExactAgreed
namespace Go.Proofs.Ytkkbccppfppalaa
theorem fnExactAgreed_holds : Rows.FnExactAgreedSaid := fnExactAgreed.over
#print axioms fnExactAgreed_holds
end Go.Proofs.Ytkkbccppfppalaa
