/-
  FnExactUnpacked answers true at every text and leaves it as it was: Unpacked of the program answers as the specification's, and its answer lies in memory of its own, behind another call too. No condition.
-/
import Derived.Test.YtdbldhcelbllgaaRows
import Derived.WalkKit
import Derived.ProofKit
import Derived.OpenShut
import Derived.ShutString
import Derived.ChangeOld
import Derived.Below
import Derived.Lib.SmallJoins
import Derived.Test.YtdbldhcelbllgaaPackW
import Derived.Test.YtdbldhcelbllgaaNameQ
namespace Go.Proofs.Ytdbldhcelbllgaa.fnExactUnpacked
open Go.ChangeShapes Go.WideShapes Go.ChangeAt Go.RowKit Go.Joins
set_option linter.unusedVariables false

theorem own : ownKnob Try.prog.godebug = none := by kernel_rfl
theorem laidOut : laidOutB Try.prog = true := by kernel_rfl
open Go.Proofs.Ytdbldhcelbllgaa.Nm
theorem un_len (l : Bytes) : (((unpack l).getD []).map B).length ≤ 20 := by
  cases h : unpack l with
  | none => simp
  | some L =>
    have := (okN_facts (unpack_some h).1).2
    simpa using this
set_option maxRecDepth 100000 in
set_option maxHeartbeats 8000000 in

theorem walk (s0 : ByteArray) (ws0 : s0.size ≤ maxLen) (w : World) :
    Calls Try.prog 5 #[.string s0] w fun e w' => e = .returned (.bool true) ∧ Below w.heap.size w w' := by
  by_cases hb0 : 1048576 < s0.size
  · have hb0' : (1048576 : Int) < (s0.size : Int) := by omega
    go_enter Try.func5, Try.ntmps5
    go_wp2
    go_ret
    exact ⟨rfl, Below.refl _ _⟩
  have hb0' : ¬ (1048576 : Int) < (s0.size : Int) := by omega
  have cs := fun w => spec_Unpacked s0 w (by omega)
  have ci := fun w => impl_Unpacked s0 w (by omega)
  have hM := un_len (bs s0)
  generalize ((unpack (bs s0)).getD []).map B = M at cs ci hM
  generalize (unpack (bs s0)).isSome = ok at cs ci
  have hok : (ok != ok) = false := by simp
  have CS := hidIt cs
  have CI := hidIt ci
  have CE := hidIt (fun a ca b cb w ha hb => eqStringS_any a b ca cb M w ha hb (by omega))
  have cmg := fun b v w h => markStringS_any b v M 1 w h (by omega) (by omega)
  have chg := fun a c w h => heldStringS_any a c M.length 1 w h (by omega) (by omega)
  generalize 1 + M.length = kg at cmg chg
  have CMG := hidIt cmg
  have CHG := hidIt chg
  clear cs ci cmg chg hM
  have hkg : ¬ (kg : Int) < 0 := by omega
  have hkk : ((kg : Int) != (kg : Int)) = false := by simp
  go_enter Try.func5, Try.ntmps5
  go_wp2_with (fail)
  refine (CS.out _).mono ?_
  rintro e k1 ⟨vw, rfl, hO1, hb1⟩
  have HB1 := hidIt hb1
  have OW1 := hidIt hO1
  have BW := hidIt (hO1.blk (Nat.le_refl _))
  clear hO1 hb1
  go_wp2_with (fail)
  refine (CI.out _).mono ?_
  rintro e k2 ⟨vg, rfl, hO2, hb2⟩
  have HB2 := hidIt (HB1.out.trans (hb2.mono HB1.out.size))
  have OW2 := hidIt (OW1.out.kept hb2)
  have OG2 := hidIt hO2
  clear hb2 hO2 OW1
  obtain ⟨xw, cw, rfl, _⟩ := OW2.out.form
  obtain ⟨xg, cg, rfl, _⟩ := OG2.out.form
  have RW := hidIt (fun w b (h : Nm.Own w b (.slice xw M.length cw) M) => show Rd w xw M by obtain ⟨a, c, e, _, _, r, _⟩ := h.form; cases e; exact r)
  have RG := hidIt (fun w b (N : List ByteArray) (hN : N.length = M.length) (h : Nm.Own w b (.slice xg M.length cg) N) => show Rd w xg N by obtain ⟨a, c, e, _, _, r, _⟩ := h.form; simp only [Value.slice.injEq] at e; rw [e.1]; exact r)
  go_wp2_with (fail)
  refine (CE.out xg cg xw cw _ (RG.out _ _ M rfl OG2.out) (RW.out _ _ OW2.out)).mono ?_
  rintro e k3 ⟨rfl, hb3⟩
  have HB3 := hidIt (HB2.out.trans (hb3.mono HB2.out.size))
  have OG3 := hidIt (OG2.out.kept hb3)
  have OW3 := hidIt (OW2.out.kept hb3)
  clear hb3 OG2 OW2 HB2
  go_wp2_with (fail)
  refine (CMG.out _ _ _ OG3.out).mono ?_
  rintro e k4 ⟨rfl, hO4, hY4⟩
  have HB4 := hidIt (ob_below HB3.out OG3.out hY4 HB1.out.size HB3.out.size)
  have OG4 := hidIt hO4
  have OW4 := hidIt (OW3.out.lo OG3.out hY4 BW.out)
  clear hO4 hY4 OG3 OW3 HB3
  go_wp2_with (fail)
  refine (CHG.out xg cg _ (RG.out _ _ _ (markL_length _ _) OG4.out)).mono ?_
  rintro e k5 ⟨rfl, hb5⟩
  have HB5 := hidIt (HB4.out.trans (hb5.mono HB4.out.size))
  have OG5 := hidIt (OG4.out.kept hb5)
  have OW5 := hidIt (OW4.out.kept hb5)
  clear hb5 OG4 OW4 HB4
  go_wp2_with (fail)
  refine (CI.out _).mono ?_
  rintro e k6 ⟨vh, rfl, hO6, hb6⟩
  have HB6 := hidIt (HB5.out.trans (hb6.mono HB5.out.size))
  have OG6 := hidIt (OG5.out.kept hb6)
  have OW6 := hidIt (OW5.out.kept hb6)
  obtain ⟨xh, ch, rfl, _, _, R6, _⟩ := hO6.form
  have HR6 := hidIt R6
  clear hb6 hO6 OG5 OW5 HB5 R6
  go_wp2_with (fail)
  refine (CE.out xh ch xw cw _ HR6.out (RW.out _ _ OW6.out)).mono ?_
  rintro e k7 ⟨rfl, hb7⟩
  have HB7 := hidIt (HB6.out.trans (hb7.mono HB6.out.size))
  have OG7 := hidIt (OG6.out.kept hb7)
  clear hb7 OG6 OW6 HB6 HR6
  go_wp2_with (fail)
  refine (CHG.out xg cg _ (RG.out _ _ _ (markL_length _ _) OG7.out)).mono ?_
  rintro e k8 ⟨rfl, hb8⟩
  have HB8 := hidIt (HB7.out.trans (hb8.mono HB7.out.size))
  clear hb8 OG7 HB7
  go_wp2_with (fail)
  go_ret
  exact ⟨rfl, HB8.out⟩

set_option maxRecDepth 100000 in
theorem lifted (os : Os) (started : os.Started) (H : Type) (enc : TypeId × Value → H) :
    ReturnsInHanded {} Try.checked os 5 .any (Rows.fnExactUnpackedSpec.pre6 enc Try.prog Try.f5 Rows.fnExactUnpackedRow.domain false) (Rows.fnExactUnpackedSpec.post enc Try.prog Try.f5 false true false false) := by
  refine returnsInHanded_of_change (C := Try.checked) own started (by kernel_rfl) Try.func5
    (ChangeSpec.witness6 (enc := enc) (C := Try.checked) false ⟨#[], #[.string ByteArray.empty], []⟩ 8 (by kernel_rfl) (by kernel_rfl) (by kernel_rfl) (by kernel_rfl)) ?_
  intro W base args ds gs before hval0 hW hcnd _
  have hval : ∀ (j : Nat) t v, Try.f5.params[j]? = some t → args[j]? = some v → Value.okWide Try.prog W .any base t v := hval0
  have hW' := hW
  obtain ⟨p, q, hA0, hV, rfl, hfz, hnd⟩ := hW
  have hA : DataW.TrodAll enc Try.prog W 0 (fun _ => true) true Try.f5.params.toList args.toList ds p := hA0
  rw [Try.params5] at hA hval
  obtain ⟨v0, vs0, d0, ds0, p0, q0, hargs, rfl, rfl, h0, r0⟩ := trodAll_cons hA
  obtain ⟨rfl, rfl, rfl⟩ := trodAll_nil r0
  obtain rfl : args = #[v0] := by cases args; simp_all
  obtain ⟨rfl, rfl⟩ := trodVars_none hV
  have k0 := h0
  have lt0 : ∀ x ∈ p0, x.block < W.heap.size := by obtain ⟨m, hm⟩ := k0; exact DataW.trod_lt m _ _ _ hm
  obtain ⟨s0, rfl, rfl, rfl, ws0⟩ := Go.ChangeMaps.open_string Try.underlying9 (hval 0 9 v0 rfl rfl) h0
  clear hA0 hval0
  refine (walk s0 ws0 W).mono fun e W' ⟨he, bel⟩ => ?_
  subst he
  exact ⟨_, rfl, _, _, _, [], _, [], hW', trodAll_mk1 (shut_bool Try.underlying4 _), (trodAll_cons_mk (Below.trod laidOut (by kernel_rfl) (of_decide_eq_true (by kernel_rfl)) k0 bel lt0) trodAll_mk0), rfl, bel.frame _, fun h => by cases h⟩

theorem over : Rows.fnExactUnpackedRow.holds Try.pinned (OpenSpec.ofChange Rows.fnExactUnpackedSpec) :=
  OpenClaim.holds_of_wide 5 Try.f5 rfl rfl rfl rfl rfl rfl rfl ⟨rfl, rfl, rfl, rfl, rfl⟩ rfl rfl rfl rfl rfl (by kernel_rfl) Try.func5 (by kernel_rfl)
    (of_decide_eq_true (by kernel_rfl)) (by unfold Func.isWrapper; first | (rw [if_pos (by decide +kernel)]; kernel_rfl) | (rw [if_neg (by decide +kernel)]; exact ⟨rfl, rfl⟩))
    (fun os started H enc _ => lifted os started H enc)
end Go.Proofs.Ytdbldhcelbllgaa.fnExactUnpacked
namespace Go.Proofs.Ytdbldhcelbllgaa
theorem fnExactUnpacked_holds : Rows.FnExactUnpackedSaid := fnExactUnpacked.over
#print axioms fnExactUnpacked_holds
end Go.Proofs.Ytdbldhcelbllgaa
