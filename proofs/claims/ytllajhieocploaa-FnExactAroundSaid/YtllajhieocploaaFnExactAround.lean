/-
  FnExactAround answers true at every list of Replicas and leaves it as it was: Around of the program answers as the specification's, in memory of its own, behind another call too, and writes into no argument. No condition.
-/
import Derived.Test.YtllajhieocploaaRows
import Derived.WalkKit
import Derived.ProofKit
import Derived.OpenShut
import Derived.ShutString
import Derived.ChangeOld
import Derived.Below
import Derived.Lib.SmallJoins
import Derived.Test.YtllajhieocploaaBun7
import Derived.Test.YtllajhieocploaaBun3
namespace Go.Proofs.Ytllajhieocploaa.fnExactAround
open Go.ChangeShapes Go.WideShapes Go.ChangeAt Go.RowKit Go.Joins
set_option linter.unusedVariables false

theorem own : ownKnob Try.prog.godebug = none := by kernel_rfl
theorem laidOut : laidOutB Try.prog = true := by kernel_rfl
open Go.ChangeShapes Go.WideShapes Go.ChangeAt Go.RowKit
open Go.Proofs.Ytllajhieocploaa.Vv (hidIt)
set_option maxRecDepth 100000 in
set_option maxHeartbeats 32000000 in

theorem walk (a0 : Option Addr) (cap0 : Nat) (L0 : List Rp.Rep) (w : World) (w0 : Rp.In w a0 cap0 L0) :
    Calls Try.prog 4 #[.slice a0 L0.length cap0] w fun e w' => e = .returned (.bool true) ∧ Below w.heap.size w w' := by
  have HB := hidIt (Below.refl w.heap.size w)
  have HR0 := hidIt w0.rd
  have hlen0 : L0.length ≤ 9223372036854775807 := Nat.le_trans w0.le w0.cap
  have HSH := hidIt w0.short
  have Z0 := hidIt (fun W l (r : Rp.Rd W a0 L0) h0 h1 => Rp.szS_any a0 cap0 L0 l W r hlen0 HSH.out h0 h1)
  have T0 := hidIt (fun W (r : Rp.Rd W a0 L0) hl hb => Rp.toS_any a0 cap0 L0 W r hl hb)
  have E0 := hidIt (fun W a a' c c' (r : Rp.Rd W a L0) (r' : Rp.Rd W a' L0) => Rp.eqS_same a a' c c' L0 W r r' hlen0)
  obtain ⟨A0, hA0⟩ := Rp.arnd_is L0
  have hA0s := Rp.arnd_small hA0
  have hA0l : A0.length ≤ 6 := hA0s.1
  have hA0b : Rp.bulk A0 ≤ 528 := hA0s.2
  have CS : Hid (∀ W, ∀ a ca, Rp.Rd W a L0 → (a = none → ca = 0) → L0.length ≤ ca → ca ≤ 9223372036854775807 → Rp.bulk L0 ≤ 1048576 → Calls Try.prog 13 #[.slice a L0.length ca] W fun e w' => ∃ v, e = .returned v ∧ Rp.Own w' W.heap.size w'.heap.size v A0 ∧ Below W.heap.size W w') := hidIt (fun W a ca ra na _ _ hb => (Rp.spec_Around a ca L0 W ra HSH.out hlen0 (fun i hi => by have := Rp.bulk_one hi; unfold Rp.bulk1 at this; omega)).mono (fun e w' hz => by obtain ⟨M, hr, hz2⟩ := hz.out; obtain rfl := hr.unique hA0; exact hz2.out))
  have CI : Hid (∀ W, ∀ a ca, Rp.Rd W a L0 → (a = none → ca = 0) → L0.length ≤ ca → ca ≤ 9223372036854775807 → Rp.bulk L0 ≤ 1048576 → Calls Try.prog 14 #[.slice a L0.length ca] W fun e w' => ∃ v, e = .returned v ∧ Rp.Own w' W.heap.size w'.heap.size v A0 ∧ Below W.heap.size W w') := hidIt (fun W a ca ra na _ _ hb => (Rp.impl_Around a ca L0 W ra HSH.out hlen0 (fun i hi => by have := Rp.bulk_one hi; unfold Rp.bulk1 at this; omega)).mono (fun e w' hz => by obtain ⟨M, hr, hz2⟩ := hz.out; obtain rfl := hr.unique hA0; exact hz2.out))
  clear hA0 hA0s
  have EA := hidIt (fun W a a' c c' (r : Rp.Rd W a A0) (r' : Rp.Rd W a' A0) => Rp.eqS_same a a' c c' A0 W r r' (by omega))
  have MX := hidIt (fun lo hi v W (o : Rp.Own W lo hi v L0) (hl : L0.length ≤ 1048576) (hb : Rp.bulk L0 ≤ 1048576) => Rp.markS_any lo hi v L0 1 W o (by decide) (by omega) hl)
  have MA := hidIt (fun lo hi v W (o : Rp.Own W lo hi v A0) => Rp.markS_any lo hi v A0 1 W o (by decide) (by omega) (by omega))
  have HH := hidIt (fun a c W (r : Rp.Rd W a (Rp.markR 1 A0)) => Rp.heldS_any a c A0 1 W r (by decide) (by omega) (by omega))
  have hcs := Rp.cost_le L0
  have hca := Rp.cost_le A0
  have HML := hidIt (Rp.markR_length A0 1)
  generalize hna : A0.length = na at *
  have HNA := hidIt hna
  clear hna
  generalize hka : 1 + Rp.cost A0 = ka at *
  have hka1 : 1 ≤ ka := by omega
  have hkn : ¬ (ka : Int) < 0 := by omega
  have hkk : ((ka : Int) != (ka : Int)) = false := by simp
  have HKA := hidIt hka
  clear hka
  generalize hn0 : L0.length = m0 at *
  have HN0 := hidIt hn0
  clear hn0 w0
  go_enter Try.func4, Try.ntmps4
  go_wp2_with (fail)
  refine (Z0.out _ _ HR0.out (by decide) (by decide)).mono ?_
  rintro e w1 ⟨l, rfl, hl, kk⟩
  replace HB := hidIt (HB.out.trans (kk.mono HB.out.size))
  clear kk
  have hl1 := hl.le
  have HLS := hidIt hl.sum
  clear hl
  by_cases hneg : l < 0
  · go_wp2_with (fail)
    go_ret
    exact ⟨rfl, HB.out⟩
  have hsum := HLS.out (by omega)
  have hm0 : m0 ≤ 1048576 := by omega
  have hbk : Rp.bulk L0 ≤ 1048576 := by omega
  clear hsum HLS
  have hcs2 : ¬ ((1 + Rp.cost L0 : Nat) : Int) < 0 := by omega
  have sz_s0 := HB.out.size
  go_wp2_with (fail)
  refine (T0.out _ (HR0.out.kept HB.out) hm0 hbk).mono ?_
  intro e w2 hz
  obtain ⟨v, rfl, oo, kk⟩ := hz.out
  clear hz
  have s0 := hidIt oo
  obtain ⟨p_s0, q_s0, ev, hc_s0, hd_s0, hn_s0⟩ := oo.formN HN0.out
  subst ev
  have G_s0 := hidIt (fun W lo hi M (o : Rp.Own W lo hi (.slice p_s0 m0 q_s0) M) => o.rd)
  have lh_s0 := oo.lo_le
  replace HB := hidIt (HB.out.trans (kk.mono HB.out.size))
  clear oo kk
  have sz_aw := HB.out.size
  have od_s0_aw := s0.out.lo_le.2
  go_wp2_with (fail)
  refine (CS.out _ _ _ (G_s0.out _ _ _ _ s0.out) hn_s0 hc_s0 hd_s0 hbk).mono ?_
  rintro e w3 ⟨v, rfl, oo, kk⟩
  have aw := hidIt oo
  obtain ⟨p_aw, q_aw, ev, hc_aw, hd_aw, hn_aw⟩ := oo.formN HNA.out
  subst ev
  have G_aw := hidIt (fun W lo hi M (o : Rp.Own W lo hi (.slice p_aw na q_aw) M) => o.rd)
  have lh_aw := oo.lo_le
  replace HB := hidIt (HB.out.trans (kk.mono HB.out.size))
  replace s0 := hidIt (s0.out.kept kk)
  clear oo kk
  clear s0
  have sz_x0x := HB.out.size
  have od_aw_x0x := aw.out.lo_le.2
  go_wp2_with (fail)
  refine (T0.out _ (HR0.out.kept HB.out) hm0 hbk).mono ?_
  intro e w4 hz
  obtain ⟨v, rfl, oo, kk⟩ := hz.out
  clear hz
  have x0x := hidIt oo
  obtain ⟨p_x0x, q_x0x, ev, hc_x0x, hd_x0x, hn_x0x⟩ := oo.formN HN0.out
  subst ev
  have G_x0x := hidIt (fun W lo hi M (o : Rp.Own W lo hi (.slice p_x0x m0 q_x0x) M) => o.rd)
  have lh_x0x := oo.lo_le
  replace HB := hidIt (HB.out.trans (kk.mono HB.out.size))
  replace aw := hidIt (aw.out.kept kk)
  clear oo kk
  have sz_ag := HB.out.size
  have od_aw_ag := aw.out.lo_le.2
  have od_x0x_ag := x0x.out.lo_le.2
  go_wp2_with (fail)
  refine (CI.out _ _ _ (G_x0x.out _ _ _ _ x0x.out) hn_x0x hc_x0x hd_x0x hbk).mono ?_
  rintro e w5 ⟨v, rfl, oo, kk⟩
  have ag := hidIt oo
  obtain ⟨p_ag, q_ag, ev, hc_ag, hd_ag, hn_ag⟩ := oo.formN HNA.out
  subst ev
  have G_ag := hidIt (fun W lo hi M (o : Rp.Own W lo hi (.slice p_ag na q_ag) M) => o.rd)
  have lh_ag := oo.lo_le
  replace HB := hidIt (HB.out.trans (kk.mono HB.out.size))
  replace aw := hidIt (aw.out.kept kk)
  replace x0x := hidIt (x0x.out.kept kk)
  clear oo kk
  go_wp2_with (fail)
  refine (EA.out _ p_ag p_aw q_ag q_aw (G_ag.out _ _ _ _ ag.out) (G_aw.out _ _ _ _ aw.out)).mono ?_
  rintro e w6 ⟨rfl, kk⟩
  replace HB := hidIt (HB.out.trans (kk.mono HB.out.size))
  replace aw := hidIt (aw.out.kept kk)
  replace x0x := hidIt (x0x.out.kept kk)
  replace ag := hidIt (ag.out.kept kk)
  clear kk
  have sz_y0 := HB.out.size
  have od_aw_y0 := aw.out.lo_le.2
  have od_x0x_y0 := x0x.out.lo_le.2
  have od_ag_y0 := ag.out.lo_le.2
  go_wp2_with (fail)
  refine (T0.out _ (HR0.out.kept HB.out) hm0 hbk).mono ?_
  intro e w7 hz
  obtain ⟨v, rfl, oo, kk⟩ := hz.out
  clear hz
  have y0 := hidIt oo
  obtain ⟨p_y0, q_y0, ev, hc_y0, hd_y0, hn_y0⟩ := oo.formN HN0.out
  subst ev
  have G_y0 := hidIt (fun W lo hi M (o : Rp.Own W lo hi (.slice p_y0 m0 q_y0) M) => o.rd)
  have lh_y0 := oo.lo_le
  replace HB := hidIt (HB.out.trans (kk.mono HB.out.size))
  replace aw := hidIt (aw.out.kept kk)
  replace x0x := hidIt (x0x.out.kept kk)
  replace ag := hidIt (ag.out.kept kk)
  clear oo kk
  go_wp2_with (fail)
  refine (E0.out _ p_x0x p_y0 q_x0x q_y0 (G_x0x.out _ _ _ _ x0x.out) (G_y0.out _ _ _ _ y0.out)).mono ?_
  rintro e w8 ⟨rfl, kk⟩
  replace HB := hidIt (HB.out.trans (kk.mono HB.out.size))
  replace aw := hidIt (aw.out.kept kk)
  replace x0x := hidIt (x0x.out.kept kk)
  replace ag := hidIt (ag.out.kept kk)
  replace y0 := hidIt (y0.out.kept kk)
  clear kk
  clear y0
  go_wp2_with (fail)
  refine (MX.out _ _ _ _ x0x.out hm0 hbk).mono ?_
  intro e w9 hz
  obtain ⟨rfl, _, yy⟩ := hz.out
  clear hz
  replace HB := hidIt (HB.out.trans (yy.below (by omega) HB.out.size))
  replace aw := hidIt (aw.out.apart yy (.inl (by omega)))
  replace ag := hidIt (ag.out.apart yy (.inr (by omega)))
  clear yy
  clear x0x
  go_wp2_with (fail)
  refine (EA.out _ p_ag p_aw q_ag q_aw (G_ag.out _ _ _ _ ag.out) (G_aw.out _ _ _ _ aw.out)).mono ?_
  rintro e w10 ⟨rfl, kk⟩
  replace HB := hidIt (HB.out.trans (kk.mono HB.out.size))
  replace aw := hidIt (aw.out.kept kk)
  replace ag := hidIt (ag.out.kept kk)
  clear kk
  go_wp2_with (fail)
  refine (MA.out _ _ _ _ ag.out).mono ?_
  intro e w11 hz
  obtain ⟨rfl, ag2, yy⟩ := hz.out
  clear hz
  replace HB := hidIt (HB.out.trans (yy.below (by omega) HB.out.size))
  replace aw := hidIt (aw.out.apart yy (.inl (by omega)))
  clear yy ag
  have ag := hidIt ag2
  clear ag2
  rw [HKA.out]
  go_wp2_with (fail)
  refine (HH.out p_ag q_ag _ (G_ag.out _ _ _ _ ag.out)).mono ?_
  rintro e w12 ⟨rfl, kk⟩
  replace HB := hidIt (HB.out.trans (kk.mono HB.out.size))
  replace aw := hidIt (aw.out.kept kk)
  replace ag := hidIt (ag.out.kept kk)
  clear kk
  have sz_z0 := HB.out.size
  have od_aw_z0 := aw.out.lo_le.2
  have od_ag_z0 := ag.out.lo_le.2
  go_wp2_with (fail)
  refine (T0.out _ (HR0.out.kept HB.out) hm0 hbk).mono ?_
  intro e w13 hz
  obtain ⟨v, rfl, oo, kk⟩ := hz.out
  clear hz
  have z0 := hidIt oo
  obtain ⟨p_z0, q_z0, ev, hc_z0, hd_z0, hn_z0⟩ := oo.formN HN0.out
  subst ev
  have G_z0 := hidIt (fun W lo hi M (o : Rp.Own W lo hi (.slice p_z0 m0 q_z0) M) => o.rd)
  have lh_z0 := oo.lo_le
  replace HB := hidIt (HB.out.trans (kk.mono HB.out.size))
  replace aw := hidIt (aw.out.kept kk)
  replace ag := hidIt (ag.out.kept kk)
  clear oo kk
  have sz_ah := HB.out.size
  have od_aw_ah := aw.out.lo_le.2
  have od_ag_ah := ag.out.lo_le.2
  have od_z0_ah := z0.out.lo_le.2
  go_wp2_with (fail)
  refine (CI.out _ _ _ (G_z0.out _ _ _ _ z0.out) hn_z0 hc_z0 hd_z0 hbk).mono ?_
  rintro e w14 ⟨v, rfl, oo, kk⟩
  have ah := hidIt oo
  obtain ⟨p_ah, q_ah, ev, hc_ah, hd_ah, hn_ah⟩ := oo.formN HNA.out
  subst ev
  have G_ah := hidIt (fun W lo hi M (o : Rp.Own W lo hi (.slice p_ah na q_ah) M) => o.rd)
  have lh_ah := oo.lo_le
  replace HB := hidIt (HB.out.trans (kk.mono HB.out.size))
  replace aw := hidIt (aw.out.kept kk)
  replace ag := hidIt (ag.out.kept kk)
  replace z0 := hidIt (z0.out.kept kk)
  clear oo kk
  clear z0
  go_wp2_with (fail)
  refine (EA.out _ p_ah p_aw q_ah q_aw (G_ah.out _ _ _ _ ah.out) (G_aw.out _ _ _ _ aw.out)).mono ?_
  rintro e w15 ⟨rfl, kk⟩
  replace HB := hidIt (HB.out.trans (kk.mono HB.out.size))
  replace aw := hidIt (aw.out.kept kk)
  replace ag := hidIt (ag.out.kept kk)
  replace ah := hidIt (ah.out.kept kk)
  clear kk
  go_wp2_with (fail)
  refine (HH.out p_ag q_ag _ (G_ag.out _ _ _ _ ag.out)).mono ?_
  rintro e w16 ⟨rfl, kk⟩
  replace HB := hidIt (HB.out.trans (kk.mono HB.out.size))
  replace aw := hidIt (aw.out.kept kk)
  replace ag := hidIt (ag.out.kept kk)
  replace ah := hidIt (ah.out.kept kk)
  clear kk
  go_wp2_with (fail)
  go_ret
  exact ⟨rfl, HB.out⟩

set_option maxRecDepth 100000 in
theorem lifted (os : Os) (started : os.Started) (H : Type) (enc : TypeId × Value → H) :
    ReturnsInHanded {} Try.checked os 4 .any (Rows.fnExactAroundSpec.pre6 enc Try.prog Try.f4 Rows.fnExactAroundRow.domain false) (Rows.fnExactAroundSpec.post enc Try.prog Try.f4 false true false false) := by
  refine returnsInHanded_of_change (C := Try.checked) own started (by kernel_rfl) Try.func4
    (ChangeSpec.witness6 (enc := enc) (C := Try.checked) false ⟨#[], #[.slice none 0 0], []⟩ 8 (by kernel_rfl) (by kernel_rfl) (by kernel_rfl) (by kernel_rfl)) ?_
  intro W base args ds gs before hval0 hW hcnd _
  have hval : ∀ (j : Nat) t v, Try.f4.params[j]? = some t → args[j]? = some v → Value.okWide Try.prog W .any base t v := hval0
  have hW' := hW
  obtain ⟨p, q, hA0, hV, rfl, hfz, hnd⟩ := hW
  have hA : DataW.TrodAll enc Try.prog W 0 (fun _ => true) true Try.f4.params.toList args.toList ds p := hA0
  rw [Try.params4] at hA hval
  obtain ⟨v0, vs0, d0, ds0, p0, q0, hargs, rfl, rfl, h0, r0⟩ := trodAll_cons hA
  obtain ⟨rfl, rfl, rfl⟩ := trodAll_nil r0
  obtain rfl : args = #[v0] := by cases args; simp_all
  obtain ⟨rfl, rfl⟩ := trodVars_none hV
  have k0 := h0
  have lt0 : ∀ x ∈ p0, x.block < W.heap.size := by obtain ⟨m, hm⟩ := k0; exact DataW.trod_lt m _ _ _ hm
  obtain ⟨a0, cap0, L0, rfl, w0⟩ := Rp.open_reps (hval 0 22 v0 rfl rfl) h0
  clear hA0 hval0
  refine (walk a0 cap0 L0 W w0).mono fun e W' ⟨he, bel⟩ => ?_
  subst he
  exact ⟨_, rfl, _, _, _, [], _, [], hW', trodAll_mk1 (shut_bool Try.underlying4 _), (trodAll_cons_mk (Below.trod laidOut (by kernel_rfl) (of_decide_eq_true (by kernel_rfl)) k0 bel lt0) trodAll_mk0), rfl, bel.frame _, fun h => by cases h⟩

theorem over : Rows.fnExactAroundRow.holds Try.pinned (OpenSpec.ofChange Rows.fnExactAroundSpec) :=
  OpenClaim.holds_of_wide 4 Try.f4 rfl rfl rfl rfl rfl rfl rfl ⟨rfl, rfl, rfl, rfl, rfl⟩ rfl rfl rfl rfl rfl (by kernel_rfl) Try.func4 (by kernel_rfl)
    (of_decide_eq_true (by kernel_rfl)) (by unfold Func.isWrapper; first | (rw [if_pos (by decide +kernel)]; kernel_rfl) | (rw [if_neg (by decide +kernel)]; exact ⟨rfl, rfl⟩))
    (fun os started H enc _ => lifted os started H enc)
end Go.Proofs.Ytllajhieocploaa.fnExactAround
namespace Go.Proofs.Ytllajhieocploaa
theorem fnExactAround_holds : Rows.FnExactAroundSaid := fnExactAround.over
#print axioms fnExactAround_holds
end Go.Proofs.Ytllajhieocploaa
