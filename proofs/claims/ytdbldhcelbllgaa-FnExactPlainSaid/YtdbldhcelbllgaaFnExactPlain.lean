/-
  FnExactPlain answers true at every list of texts and leaves it as it was: Plain of the program answers as the specification's. No condition.
-/
import Derived.Test.YtdbldhcelbllgaaRows
import Derived.WalkKit
import Derived.ProofKit
import Derived.OpenShut
import Derived.ShutString
import Derived.ChangeOld
import Derived.Below
import Derived.Lib.SmallJoins
import Derived.Test.YtdbldhcelbllgaaPackO
namespace Go.Proofs.Ytdbldhcelbllgaa.fnExactPlain
open Go.ChangeShapes Go.WideShapes Go.ChangeAt Go.RowKit Go.Joins
set_option linter.unusedVariables false

theorem own : ownKnob Try.prog.godebug = none := by kernel_rfl
theorem laidOut : laidOutB Try.prog = true := by kernel_rfl
open Nm
set_option maxRecDepth 100000 in
set_option maxHeartbeats 4000000 in

theorem walk (a0 : Option Addr) (cap0 : Nat) (L0 : List ByteArray) (w : World) (w0 : Nm.In w a0 cap0 L0) :
    Calls Try.prog 6 #[.slice a0 L0.length cap0] w fun e w' => e = .returned (.bool true) ∧ Below w.heap.size w w' := by
  have HR := hidIt w0.rd
  have hl := w0.le
  have hc := w0.cap
  have CZ := hidIt (fun w h => szStringS_any a0 cap0 L0 1048576 w h (by omega) w0.short (by omega) (by omega))
  clear w0
  go_enter Try.func6, Try.ntmps6
  go_wp2_with (fail)
  refine (CZ.out _ HR.out).mono ?_
  rintro e w1 ⟨r, rfl, hr1, hr2, rfl⟩
  have HB1 := hidIt (Below.refl w1.heap.size w1)
  by_cases hneg : r < 0
  · go_wp2_with (fail)
    go_ret
    exact ⟨rfl, HB1.out⟩
  · have hlen : L0.length ≤ 1048576 := hr2 (by omega)
    have hr3 : 0 ≤ r := by omega
    clear hr2 CZ
    have CT := hidIt (fun w h => toStringS_any a0 cap0 L0 w h hlen)
    have CE := hidIt (fun a ca b cb w ha hb => eqStringS_any a b ca cb L0 w ha hb (by omega))
    have CS := hidIt (fun a c w h => spec_Plain a c L0 w h (by omega))
    have CI := hidIt (fun a c w h => impl_Plain a c L0 w h (by omega))
    generalize plainB (bL L0) = ok at CS CI
    go_wp2_with (fail)
    refine (CT.out _ (HR.out.kept HB1.out)).mono ?_
    rintro e w2 ⟨v2, rfl, hO2, hb2⟩
    have HB2 := hidIt (HB1.out.trans (hb2.mono HB1.out.size))
    obtain ⟨x2, c2, rfl, f2, m2, R2, _⟩ := hO2.form
    clear hb2 hO2 HB1
    have HR2 := hidIt R2
    clear R2
    go_wp2_with (fail)
    refine (CS.out x2 c2 _ HR2.out).mono ?_
    rintro e w3 ⟨rfl, hb3⟩
    have HB3 := hidIt (HB2.out.trans (hb3.mono HB2.out.size))
    clear hb3 HB2 HR2
    go_wp2_with (fail)
    refine (CT.out _ (HR.out.kept HB3.out)).mono ?_
    rintro e w4 ⟨v4, rfl, hO4, hb4⟩
    have HB4 := hidIt (HB3.out.trans (hb4.mono HB3.out.size))
    obtain ⟨x4, c4, rfl, f4, m4, R4, _⟩ := hO4.form
    have HR4 := hidIt R4
    clear hb4 hO4 HB3 R4
    go_wp2_with (fail)
    refine (CI.out x4 c4 _ HR4.out).mono ?_
    rintro e w5 ⟨rfl, hb5⟩
    have HB5 := hidIt (HB4.out.trans (hb5.mono HB4.out.size))
    have HR5 := hidIt (HR4.out.kept hb5)
    clear hb5 HB4 HR4
    go_wp2_with (fail)
    refine (CT.out _ (HR.out.kept HB5.out)).mono ?_
    rintro e w6 ⟨v6, rfl, hO6, hb6⟩
    have HB6 := hidIt (HB5.out.trans (hb6.mono HB5.out.size))
    have HR6 := hidIt (HR5.out.kept hb6)
    obtain ⟨x6, c6, rfl, f6, m6, R6, _⟩ := hO6.form
    have HQ6 := hidIt R6
    clear hb6 hO6 HB5 R6
    go_wp2_with (fail)
    refine (CE.out x4 c4 x6 c6 _ HR6.out HQ6.out).mono ?_
    rintro e w7 ⟨rfl, hb7⟩
    have HB7 := hidIt (HB6.out.trans (hb7.mono HB6.out.size))
    clear hb7 HB6
    go_wp2_with (fail)
    go_ret
    exact ⟨rfl, HB7.out⟩

set_option maxRecDepth 100000 in
theorem lifted (os : Os) (started : os.Started) (H : Type) (enc : TypeId × Value → H) :
    ReturnsInHanded {} Try.checked os 6 .any (Rows.fnExactPlainSpec.pre6 enc Try.prog Try.f6 Rows.fnExactPlainRow.domain false) (Rows.fnExactPlainSpec.post enc Try.prog Try.f6 false true false false) := by
  refine returnsInHanded_of_change (C := Try.checked) own started (by kernel_rfl) Try.func6
    (ChangeSpec.witness6 (enc := enc) (C := Try.checked) false ⟨#[], #[.slice none 0 0], []⟩ 8 (by kernel_rfl) (by kernel_rfl) (by kernel_rfl) (by kernel_rfl)) ?_
  intro W base args ds gs before hval0 hW hcnd _
  have hval : ∀ (j : Nat) t v, Try.f6.params[j]? = some t → args[j]? = some v → Value.okWide Try.prog W .any base t v := hval0
  have hW' := hW
  obtain ⟨p, q, hA0, hV, rfl, hfz, hnd⟩ := hW
  have hA : DataW.TrodAll enc Try.prog W 0 (fun _ => true) true Try.f6.params.toList args.toList ds p := hA0
  rw [Try.params6] at hA hval
  obtain ⟨v0, vs0, d0, ds0, p0, q0, hargs, rfl, rfl, h0, r0⟩ := trodAll_cons hA
  obtain ⟨rfl, rfl, rfl⟩ := trodAll_nil r0
  obtain rfl : args = #[v0] := by cases args; simp_all
  obtain ⟨rfl, rfl⟩ := trodVars_none hV
  have k0 := h0
  have lt0 : ∀ x ∈ p0, x.block < W.heap.size := by obtain ⟨m, hm⟩ := k0; exact DataW.trod_lt m _ _ _ hm
  obtain ⟨a0, cap0, L0, rfl, w0⟩ := Nm.open_texts (hval 0 24 v0 rfl rfl) h0
  clear hA0 hval0
  refine (walk a0 cap0 L0 W w0).mono fun e W' ⟨he, bel⟩ => ?_
  subst he
  exact ⟨_, rfl, _, _, _, [], _, [], hW', trodAll_mk1 (shut_bool Try.underlying4 _), (trodAll_cons_mk (Below.trod laidOut (by kernel_rfl) (of_decide_eq_true (by kernel_rfl)) k0 bel lt0) trodAll_mk0), rfl, bel.frame _, fun h => by cases h⟩

theorem over : Rows.fnExactPlainRow.holds Try.pinned (OpenSpec.ofChange Rows.fnExactPlainSpec) :=
  OpenClaim.holds_of_wide 6 Try.f6 rfl rfl rfl rfl rfl rfl rfl ⟨rfl, rfl, rfl, rfl, rfl⟩ rfl rfl rfl rfl rfl (by kernel_rfl) Try.func6 (by kernel_rfl)
    (of_decide_eq_true (by kernel_rfl)) (by unfold Func.isWrapper; first | (rw [if_pos (by decide +kernel)]; kernel_rfl) | (rw [if_neg (by decide +kernel)]; exact ⟨rfl, rfl⟩))
    (fun os started H enc _ => lifted os started H enc)
end Go.Proofs.Ytdbldhcelbllgaa.fnExactPlain
namespace Go.Proofs.Ytdbldhcelbllgaa
theorem fnExactPlain_holds : Rows.FnExactPlainSaid := fnExactPlain.over
#print axioms fnExactPlain_holds
end Go.Proofs.Ytdbldhcelbllgaa
