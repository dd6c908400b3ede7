/-
  FnExactSame answers true at every two lists of Lines and leaves them as they were: Same of the program answers as the specification's. No condition but that the library's table of powers of ten lies as its text lays it.
-/
import Derived.Test.YtoijollhmchalaaDoorRows
import Derived.WalkKit
import Derived.ProofKit
import Derived.OpenShut
import Derived.ShutString
import Derived.ChangeOld
import Derived.Below
import Derived.Lib.SmallJoins
import Derived.Test.YtoijollhmchalaaDoorDoorMet
import Derived.Test.YtoijollhmchalaaDoorTie
import Derived.Test.YtoijollhmchalaaDoorCards
import Derived.LaidMore
import Derived.Stop.Joined
import Derived.SevenTiedAt
import Derived.Test.YtoijollhmchalaaDoorLogT
namespace Go.Proofs.YtoijollhmchalaaDoor.fnExactSame
open Go.ChangeShapes Go.WideShapes Go.ChangeAt Go.RowKit Go.Joins
set_option linter.unusedVariables false

theorem own : ownKnob Tryd.prog.godebug = none := by kernel_rfl
theorem laidOut : laidOutB Tryd.prog = true := by kernel_rfl
open Lg Sg
set_option maxRecDepth 100000 in
set_option maxHeartbeats 8000000 in

theorem walk (a0 : Option Addr) (cap0 : Nat) (L0 : List Lg.Ln) (a1 : Option Addr) (cap1 : Nat) (L1 : List Lg.Ln) (w : World) (w0 : Lg.In w a0 cap0 L0) (w1 : Lg.In w a1 cap1 L1) (htab : Sg.Tab w) :
    Calls Tryd.prog 7 #[.slice a0 L0.length cap0, .slice a1 L1.length cap1] w fun e w' => e = .returned (.bool true) ∧ Below w.heap.size w w' := by
  have HRa := hidIt w0.rd
  have HRb := hidIt w1.rd
  have hl := w0.le
  have hc := w0.cap
  have hl' := w1.le
  have hc' := w1.cap
  have HT := hidIt htab
  have CZ := hidIt (fun w h => szLineS_any a0 cap0 L0 1048576 w h (by omega) w0.short (by omega) (by omega))
  have CZ2 := hidIt (fun r w h h0 h1 => szLineS_any a1 cap1 L1 r w h (by omega) w1.short h0 h1)
  clear w0 w1 htab
  go_enter Tryd.func7, Tryd.ntmps7
  go_wp2_with (fail)
  refine (CZ.out _ HRa.out).mono ?_
  rintro e k1 ⟨r, rfl, hr1, hr2, hb1⟩
  have HB1 := hidIt hb1
  clear hb1
  by_cases hneg : r < 0
  · go_wp2_with (fail)
    go_ret
    exact ⟨rfl, HB1.out⟩
  · have hlen : L0.length ≤ 1048576 := hr2 (by omega)
    have hr3 : 0 ≤ r := by omega
    clear hr2 CZ
    go_wp2_with (fail)
    refine (CZ2.out r _ (HRb.out.kept HB1.out) hr3 hr1).mono ?_
    rintro e k2 ⟨r', rfl, hr1', hr2', hb2⟩
    have HB2 := hidIt (HB1.out.trans (hb2.mono HB1.out.size))
    clear hb2 HB1
    by_cases hneg' : r' < 0
    · go_wp2_with (fail)
      go_ret
      exact ⟨rfl, HB2.out⟩
    · have hlen' : L1.length ≤ 1048576 := hr2' (by omega)
      have hr3' : 0 ≤ r' := by omega
      clear hr2' CZ2
      have CTa := hidIt (fun w h => toLineS_any a0 cap0 L0 w h hlen)
      have CTb := hidIt (fun w h => toLineS_any a1 cap1 L1 w h hlen')
      have CEa := hidIt (fun a ca b cb w ha hb => eqLineS_any a b ca cb L0 w ha hb (by omega))
      have CEb := hidIt (fun a ca b cb w ha hb => eqLineS_any a b ca cb L1 w ha hb (by omega))
      obtain ⟨n, cs, ci⟩ := same_both L0 L1
      have CS := hidIt cs
      have CI := hidIt ci
      clear cs ci
      have hok : (n != n) = false := by simp
      go_wp2_with (fail)
      refine (CTa.out _ (HRa.out.kept HB2.out)).mono ?_
      rintro e k3 ⟨v3, rfl, hO3, hb3⟩
      have HB3 := hidIt (HB2.out.trans (hb3.mono HB2.out.size))
      obtain ⟨x3, c3, rfl, f3, m3, R3, _⟩ := hO3.form
      have HR3 := hidIt R3
      clear hb3 hO3 HB2 R3
      go_wp2_with (fail)
      refine (CTb.out _ (HRb.out.kept HB3.out)).mono ?_
      rintro e k4 ⟨v4, rfl, hO4, hb4⟩
      have HB4 := hidIt (HB3.out.trans (hb4.mono HB3.out.size))
      have HR3' := hidIt (HR3.out.kept hb4)
      obtain ⟨x4, c4, rfl, f4, m4, R4, _⟩ := hO4.form
      have HR4 := hidIt R4
      clear hb4 hO4 HB3 R4 HR3
      go_wp2_with (fail)
      refine (CS.out x3 x4 c3 c4 _ HR3'.out HR4.out).mono ?_
      rintro e k5 ⟨rfl, hb5⟩
      have HB5 := hidIt (HB4.out.trans (hb5.mono HB4.out.size))
      clear hb5 HB4 HR4 HR3'
      go_wp2_with (fail)
      refine (CTa.out _ (HRa.out.kept HB5.out)).mono ?_
      rintro e k6 ⟨v6, rfl, hO6, hb6⟩
      have HB6 := hidIt (HB5.out.trans (hb6.mono HB5.out.size))
      obtain ⟨x6, c6, rfl, f6, m6, R6, _⟩ := hO6.form
      have HR6 := hidIt R6
      clear hb6 hO6 HB5 R6
      go_wp2_with (fail)
      refine (CTb.out _ (HRb.out.kept HB6.out)).mono ?_
      rintro e k7 ⟨v7, rfl, hO7, hb7⟩
      have HB7 := hidIt (HB6.out.trans (hb7.mono HB6.out.size))
      have HR6' := hidIt (HR6.out.kept hb7)
      obtain ⟨x7, c7, rfl, f7, m7, R7, _⟩ := hO7.form
      have HR7 := hidIt R7
      clear hb7 hO7 HB6 R7 HR6
      go_wp2_with (fail)
      refine (CI.out x6 x7 c6 c7 _ HR6'.out HR7.out f6 f7 (HT.out.kept HB7.out)).mono ?_
      rintro e k8 ⟨rfl, hb8⟩
      have HB8 := hidIt (HB7.out.trans (hb8.mono HB7.out.size))
      have HR8 := hidIt (HR6'.out.kept hb8)
      have HQ8 := hidIt (HR7.out.kept hb8)
      clear hb8 HB7 HR6' HR7
      go_wp2_with (fail)
      refine (CTa.out _ (HRa.out.kept HB8.out)).mono ?_
      rintro e k9 ⟨v9, rfl, hO9, hb9⟩
      have HB9 := hidIt (HB8.out.trans (hb9.mono HB8.out.size))
      have HR9 := hidIt (HR8.out.kept hb9)
      have HQ9 := hidIt (HQ8.out.kept hb9)
      obtain ⟨x9, c9, rfl, f9, m9, R9, _⟩ := hO9.form
      have HX9 := hidIt R9
      clear hb9 hO9 HB8 R9 HR8 HQ8
      go_wp2_with (fail)
      refine (CEa.out x6 c6 x9 c9 _ HR9.out HX9.out).mono ?_
      rintro e k10 ⟨rfl, hb10⟩
      have HB10 := hidIt (HB9.out.trans (hb10.mono HB9.out.size))
      have HQ10 := hidIt (HQ9.out.kept hb10)
      clear hb10 HB9 HQ9 HX9 HR9
      go_wp2_with (fail)
      refine (CTb.out _ (HRb.out.kept HB10.out)).mono ?_
      rintro e k11 ⟨v11, rfl, hO11, hb11⟩
      have HB11 := hidIt (HB10.out.trans (hb11.mono HB10.out.size))
      have HQ11 := hidIt (HQ10.out.kept hb11)
      obtain ⟨x11, c11, rfl, f11, m11, R11, _⟩ := hO11.form
      have HX11 := hidIt R11
      clear hb11 hO11 HB10 R11 HQ10
      go_wp2_with (fail)
      refine (CEb.out x7 c7 x11 c11 _ HQ11.out HX11.out).mono ?_
      rintro e k12 ⟨rfl, hb12⟩
      have HB12 := hidIt (HB11.out.trans (hb12.mono HB11.out.size))
      clear hb12 HB11
      go_wp2_with (fail)
      go_ret
      exact ⟨rfl, HB12.out⟩

theorem door_met (os : Os) (args : Array Value) : laidMetH Tryd.prog Rows.fnExactSameRow.laid ((World.doorLaid Tryd.prog 24 os).forCall (fun _ _ => 0) ⟨#[], args, []⟩).memory :=
  laidMetH_of_parts3 (fuel := 8) (laidMet_of_run' 8 (by kernel_rfl) (by kernel_rfl)) (by kernel_rfl) (by kernel_rfl)
set_option maxRecDepth 100000 in
theorem lifted (os : Os) (started : os.Started) (H : Type) (enc : TypeId × Value → H) :
    ReturnsInHanded {} Tryd.checked os 7 .any (fun w args => (Rows.fnExactSameSpec.pre enc Tryd.prog Tryd.f7 [] false w args ∧ laidMetH Tryd.prog Rows.fnExactSameRow.laid w) ∧ sizedMet enc Tryd.prog Tryd.f7 (OpenSpec.ofChange Rows.fnExactSameSpec) false w args) (Rows.fnExactSameSpec.post enc Tryd.prog Tryd.f7 false true false false) := by
  refine returnsInHanded_of_change_and (C := Tryd.checked) (X := fun w _ => laidMetH Tryd.prog Rows.fnExactSameRow.laid w) (fun _ _ _ hh h => h.of_heap hh) own started (by kernel_rfl) Tryd.func7
    (ChangeSpec.witness_shaped (enc := enc) (C := Tryd.checked) (os := os) (X := fun w _ => laidMetH Tryd.prog Rows.fnExactSameRow.laid w) false (World.doorLaid Tryd.prog 24 os) #[.slice none 0 0, .slice none 0 0] 8 rfl (World.shaped_of_RefB (by kernel_rfl) (by kernel_rfl)) (by kernel_rfl) (by kernel_rfl) (by kernel_rfl) (door_met os _)) ?_
  intro W base args ds gs before hval0 hW _ _ hL _
  have hval : ∀ (j : Nat) t v, Tryd.f7.params[j]? = some t → args[j]? = some v → Value.okWide Tryd.prog W .any base t v := hval0
  have hW' := hW
  obtain ⟨p, q, hA0, hV, rfl, hfz, hnd⟩ := hW
  have hA : DataW.TrodAll enc Tryd.prog W 0 (fun _ => true) true Tryd.f7.params.toList args.toList ds p := hA0
  rw [Tryd.params7] at hA hval
  obtain ⟨v0, vs0, d0, ds0, p0, q0, hargs, rfl, rfl, h0, r0⟩ := trodAll_cons hA
  obtain ⟨v1, vs1, d1, ds1, p1, q1, rfl, rfl, rfl, h1, r1⟩ := trodAll_cons r0
  obtain ⟨rfl, rfl, rfl⟩ := trodAll_nil r1
  obtain rfl : args = #[v0, v1] := by cases args; simp_all
  obtain ⟨rfl, rfl⟩ := trodVars_none hV
  have k0 := h0
  have lt0 : ∀ x ∈ p0, x.block < W.heap.size := by obtain ⟨m, hm⟩ := k0; exact DataW.trod_lt m _ _ _ hm
  have k1 := h1
  have lt1 : ∀ x ∈ p1, x.block < W.heap.size := by obtain ⟨m, hm⟩ := k1; exact DataW.trod_lt m _ _ _ hm
  obtain ⟨a0, cap0, L0, rfl, w0⟩ := Lg.open_lines (hval 0 38 v0 rfl rfl) h0
  obtain ⟨a1, cap1, L1, rfl, w1⟩ := Lg.open_lines (hval 1 38 v1 rfl rfl) h1
  clear hA0 hval0
  refine (walk a0 cap0 L0 a1 cap1 L1 W w0 w1 (Sg.tab_of_laid hL)).mono fun e W' ⟨he, bel⟩ => ?_
  subst he
  exact ⟨_, rfl, _, _, _, [], _, [], hW', trodAll_mk1 (shut_bool Tryd.underlying4 _), (trodAll_cons_mk (Below.trod laidOut (by kernel_rfl) (of_decide_eq_true (by kernel_rfl)) k0 bel lt0) (trodAll_cons_mk (Below.trod laidOut (by kernel_rfl) (of_decide_eq_true (by kernel_rfl)) k1 bel lt1) trodAll_mk0)), rfl, bel.frame _, fun h => by cases h⟩

theorem over : Rows.fnExactSameRow.holds Tryd.pinned (OpenSpec.ofChange Rows.fnExactSameSpec) :=
  OpenClaim.holds_of_wide 7 Tryd.f7 rfl rfl rfl rfl rfl rfl rfl ⟨rfl, rfl, rfl, rfl, rfl⟩ rfl rfl rfl rfl rfl (by kernel_rfl) Tryd.func7 (by kernel_rfl)
    (of_decide_eq_true (by kernel_rfl)) (by unfold Func.isWrapper; first | (rw [if_pos (by decide +kernel)]; kernel_rfl) | (rw [if_neg (by decide +kernel)]; exact ⟨rfl, rfl⟩))
    (fun os started H enc _ => lifted os started H enc)
theorem card : Rows.FnExactSameCardSaid :=
  Claim7.holds_tied_plain_at .later [] [.data, .data, .data] true (true, "9ab4f1656db544c4279b8fa1b3539260fc5ef5f25e5b87d59d0970534a0d8030") false
    over (fun _ h => by cases h) (by kernel_rfl) (fun _ h => by cases h) fnExactSame_row_tie rfl ⟨rfl, rfl⟩ (by kernel_rfl) rfl
    (fun f fn hf hfn => by
      obtain rfl : f = 7 := Option.some.inj ((show Tryd.prog.funcNamed "loop.example/g00307/laws.FnExactSame" = some 7 by kernel_rfl).symm.trans hf) |>.symm
      obtain rfl : fn = Tryd.f7 := (Option.some.inj (Tryd.func7.symm.trans hfn)).symm
      exact ⟨by kernel_rfl, fun j t ht => by
        rw [Tryd.params7] at ht
        have hm : t ∈ [38] := by simpa using Array.mem_of_getElem? ht
        have hall : ([38].all fun u => !Tryd.prog.wantsStandIn u) = true := by kernel_rfl
        exact (show Tryd.prog.wantsStandIn t = false by simpa using List.all_eq_true.1 hall t hm)⟩)
    (by kernel_rfl)
end Go.Proofs.YtoijollhmchalaaDoor.fnExactSame
namespace Go.Proofs.YtoijollhmchalaaDoor
theorem fnExactSame_holds : Rows.FnExactSameCardSaid := fnExactSame.card
#print axioms fnExactSame_holds
end Go.Proofs.YtoijollhmchalaaDoor
