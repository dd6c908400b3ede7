/-
  FnExactNoted answers true at every list of Lines and every text and leaves them as they were: Noted of the program answers as the specification's, writes into no argument, and its answer lies in memory of its own, behind another call too. No condition but that the library's table of powers of ten lies as its text lays it.
-/
import Derived.Test.YtoijollhmchalaaDoorRows
import Derived.WalkKit
import Derived.ProofKit
import Derived.OpenShut
import Derived.ShutString
import Derived.ChangeOld
import Derived.Below
import Derived.Lib.SmallJoins
import Derived.Test.YtoijollhmchalaaDoorDoorMet
import Derived.Test.YtoijollhmchalaaDoorTie
import Derived.Test.YtoijollhmchalaaDoorCards
import Derived.LaidMore
import Derived.Stop.Joined
import Derived.SevenTiedAt
import Derived.Test.YtoijollhmchalaaDoorLogQ
namespace Go.Proofs.YtoijollhmchalaaDoor.fnExactNoted
open Go.ChangeShapes Go.WideShapes Go.ChangeAt Go.RowKit Go.Joins
set_option linter.unusedVariables false

theorem own : ownKnob Tryd.prog.godebug = none := by kernel_rfl
theorem laidOut : laidOutB Tryd.prog = true := by kernel_rfl
open Lg Sg
set_option maxRecDepth 100000 in
set_option maxHeartbeats 8000000 in

theorem walk (a0 : Option Addr) (cap0 : Nat) (L0 : List Lg.Ln) (s1 : ByteArray) (ws1 : s1.size ≤ maxLen) (w : World) (w0 : Lg.In w a0 cap0 L0) (htab : Sg.Tab w) :
    Calls Tryd.prog 5 #[.slice a0 L0.length cap0, .string s1] w fun e w' => e = .returned (.bool true) ∧ Below w.heap.size w w' := by
  have HR := hidIt w0.rd
  have hl := w0.le
  have hc := w0.cap
  have HT := hidIt htab
  have CZ := hidIt (fun w h => szLineS_any a0 cap0 L0 1048576 w h (by omega) w0.short (by omega) (by omega))
  clear w0 htab
  by_cases hb : 1048576 < s1.size
  · have hb' : (1048576 : Int) < (s1.size : Int) := by omega
    go_enter Tryd.func5, Tryd.ntmps5
    go_wp2_with (fail)
    go_ret
    exact ⟨rfl, Below.refl _ _⟩
  have hb' : ¬ (1048576 : Int) < (s1.size : Int) := by omega
  go_enter Tryd.func5, Tryd.ntmps5
  go_wp2_with (fail)
  refine (CZ.out _ HR.out).mono ?_
  rintro e k1 ⟨r, rfl, hr1, hr2, hb1⟩
  have HB1 := hidIt hb1
  clear hb1
  by_cases hneg : r < 0
  · go_wp2_with (fail)
    go_ret
    exact ⟨rfl, HB1.out⟩
  have hlen : L0.length ≤ 1048576 := hr2 (by omega)
  have hr3 : 0 ≤ r := by omega
  clear hr2 CZ
  have CT := hidIt (fun w h => toLineS_any a0 cap0 L0 w h hlen)
  have CEx := hidIt (fun a ca b cb w ha hb => eqLineS_any a b ca cb L0 w ha hb (by omega))
  have cn := fun a c w h hn => spec_Noted a c L0 s1 w h hn
  have ci := fun a c w h h1 h2 h3 t => impl_Noted a c L0 s1 w h h1 h2 h3 t
  have hM := ntL_len (L := L0) (t := s1)
  generalize ntL L0 s1 = M at cn ci hM
  generalize ntB L0 s1 = bb at cn ci
  have CN := hidIt cn
  have CI := hidIt ci
  clear cn ci
  have CE := hidIt (fun a ca b cb w ha hb => eqLineS_any a b ca cb M w ha hb (by omega))
  have cmx := fun b v w h => markLineS_any b v L0 1 w h (by omega) (by omega)
  have cmg := fun b v w h => markLineS_any b v M 1 w h (by omega) (by omega)
  have chg := fun a c w h => heldLineS_any a c M.length 1 w h (by omega) (by omega)
  generalize 1 + 2 * L0.length = kx at cmx
  generalize 1 + 2 * M.length = kg at cmg chg
  have CMX := hidIt cmx
  have CMG := hidIt cmg
  have CHG := hidIt chg
  clear cmx cmg chg
  have hbb : (bb != bb) = false := by simp
  have hkx : ¬ (kx : Int) < 0 := by omega
  have hkg : ¬ (kg : Int) < 0 := by omega
  have hkk : ((kg : Int) != (kg : Int)) = false := by simp
  have hMm := hidIt hM
  have hlm := hidIt hlen
  clear hM hlen hl hc hr1
  -- what the specification notes
  go_wp2_with (fail)
  refine (CT.out _ (HR.out.kept HB1.out)).mono ?_
  rintro e k2 ⟨v2, rfl, hO2, hb2⟩
  have HB2 := hidIt (HB1.out.trans (hb2.mono HB1.out.size))
  obtain ⟨x2, c2, rfl, f2, m2, R2, n2, _⟩ := hO2.form
  have HR2 := hidIt R2
  have N2 := hidIt n2
  clear hb2 hO2 HB1 R2 n2 f2 m2
  go_wp2_with (fail)
  refine (CN.out x2 c2 _ HR2.out N2.out).mono ?_
  rintro e k3 ⟨vw, rfl, hO3, hb3⟩
  have HB3 := hidIt (HB2.out.trans (hb3.mono HB2.out.size))
  have OW := hidIt hO3
  have BW := hidIt (hO3.blk (Nat.le_refl _))
  clear hb3 hO3 HB2 HR2 N2
  -- what the program notes
  go_wp2_with (fail)
  refine (CT.out _ (HR.out.kept HB3.out)).mono ?_
  rintro e k4 ⟨vx, rfl, hO4, hb4⟩
  have HB4 := hidIt (HB3.out.trans (hb4.mono HB3.out.size))
  have OX := hidIt hO4
  have BX := hidIt (hO4.blk (Nat.le_refl _))
  have OW4 := hidIt (OW.out.kept hb4)
  have z34 := hidIt hb4.size
  obtain ⟨x4, c4, rfl, f4, m4, R4, n4, _⟩ := hO4.form
  have HR4 := hidIt R4
  have N4 := hidIt (And.intro f4 (And.intro m4 n4))
  clear hb4 hO4 OW R4 n4 f4 m4
  go_wp2_with (fail)
  refine (CI.out x4 c4 _ HR4.out N4.out.1 N4.out.2.1 N4.out.2.2 (HT.out.kept HB4.out)).mono ?_
  rintro e k5 ⟨vg, rfl, hO5, hb5⟩
  have HB5 := hidIt (HB4.out.trans (hb5.mono HB4.out.size))
  have OG5 := hidIt hO5
  have OX5 := hidIt (OX.out.kept hb5)
  have OW5 := hidIt (OW4.out.kept hb5)
  clear hb5 hO5 OX OW4 HR4 N4
  obtain ⟨xw, cw, rfl, _⟩ := OW5.out.form
  obtain ⟨xg, cg, rfl, _⟩ := OG5.out.form
  have RW := hidIt (fun w b (h : Own w b (.slice xw M.length cw) M) => show Rd w xw M by obtain ⟨a, c, e, _, _, r, _⟩ := h.form; cases e; exact r)
  have RG := hidIt (fun w b (N : List Ln) (hN : N.length = M.length) (h : Own w b (.slice xg M.length cg) N) => show Rd w xg N by obtain ⟨a, c, e, _, _, r, _⟩ := h.form; simp only [Value.slice.injEq] at e; rw [e.1]; exact r)
  have RX := hidIt (fun w b (h : Own w b (.slice x4 L0.length c4) L0) => show Rd w x4 L0 by obtain ⟨a, c, e, _, _, r, _⟩ := h.form; cases e; exact r)
  go_wp2_with (fail)
  refine (CE.out xg cg xw cw _ (RG.out _ _ M rfl OG5.out) (RW.out _ _ OW5.out)).mono ?_
  rintro e k6 ⟨rfl, hb6⟩
  have HB6 := hidIt (HB5.out.trans (hb6.mono HB5.out.size))
  have OG6 := hidIt (OG5.out.kept hb6)
  have OX6 := hidIt (OX5.out.kept hb6)
  have OW6 := hidIt (OW5.out.kept hb6)
  clear hb6 OG5 OX5 OW5 HB5
  go_wp2_with (fail)
  refine (CT.out _ (HR.out.kept HB6.out)).mono ?_
  rintro e k7 ⟨v7, rfl, hO7, hb7⟩
  have HB7 := hidIt (HB6.out.trans (hb7.mono HB6.out.size))
  have OG7 := hidIt (OG6.out.kept hb7)
  have OX7 := hidIt (OX6.out.kept hb7)
  have OW7 := hidIt (OW6.out.kept hb7)
  obtain ⟨x7, c7, rfl, _, _, R7, _⟩ := hO7.form
  have HR7 := hidIt R7
  clear hb7 OG6 OX6 OW6 HB6 hO7 R7
  go_wp2_with (fail)
  refine (CEx.out x4 c4 x7 c7 _ (RX.out _ _ OX7.out) HR7.out).mono ?_
  rintro e k8 ⟨rfl, hb8⟩
  have HB8 := hidIt (HB7.out.trans (hb8.mono HB7.out.size))
  have OG8 := hidIt (OG7.out.kept hb8)
  have OX8 := hidIt (OX7.out.kept hb8)
  have OW8 := hidIt (OW7.out.kept hb8)
  clear hb8 OG7 OX7 OW7 HB7 HR7
  go_wp2_with (fail)
  refine (CMX.out _ _ _ OX8.out).mono ?_
  rintro e k9 ⟨rfl, hO9, hY9⟩
  have HB9 := hidIt (ob_below HB8.out OX8.out hY9 HB3.out.size HB8.out.size)
  have OG9 := hidIt (OG8.out.hi OX8.out hY9 BX.out)
  have OW9 := hidIt (OW8.out.lo OX8.out hY9 BW.out)
  clear hO9 hY9 OG8 OX8 OW8 HB8
  go_wp2_with (fail)
  refine (CE.out xg cg xw cw _ (RG.out _ _ M rfl OG9.out) (RW.out _ _ OW9.out)).mono ?_
  rintro e k10 ⟨rfl, hb10⟩
  have HB10 := hidIt (HB9.out.trans (hb10.mono HB9.out.size))
  have OG10 := hidIt (OG9.out.kept hb10)
  have OW10 := hidIt (OW9.out.kept hb10)
  clear hb10 OG9 OW9 HB9
  go_wp2_with (fail)
  refine (CMG.out _ _ _ OG10.out).mono ?_
  rintro e k11 ⟨rfl, hO11, hY11⟩
  have HB11 := hidIt (ob_below HB10.out OG10.out hY11 HB4.out.size HB10.out.size)
  have OG11 := hidIt hO11
  have OW11 := hidIt (OW10.out.lo OG10.out hY11 (fun g hg => Nat.lt_of_lt_of_le (BW.out g hg) z34.out))
  clear hO11 hY11 OG10 OW10 HB10
  go_wp2_with (fail)
  refine (CHG.out xg cg _ (RG.out _ _ _ (markL_length _ _) OG11.out)).mono ?_
  rintro e k12 ⟨rfl, hb12⟩
  have HB12 := hidIt (HB11.out.trans (hb12.mono HB11.out.size))
  have OG12 := hidIt (OG11.out.kept hb12)
  have OW12 := hidIt (OW11.out.kept hb12)
  clear hb12 OG11 OW11 HB11
  go_wp2_with (fail)
  refine (CT.out _ (HR.out.kept HB12.out)).mono ?_
  rintro e k13 ⟨v13, rfl, hO13, hb13⟩
  have HB13 := hidIt (HB12.out.trans (hb13.mono HB12.out.size))
  have OG13 := hidIt (OG12.out.kept hb13)
  have OW13 := hidIt (OW12.out.kept hb13)
  obtain ⟨x13, c13, rfl, f13, m13, R13, n13, _⟩ := hO13.form
  have HR13 := hidIt R13
  have N13 := hidIt (And.intro f13 (And.intro m13 n13))
  clear hb13 hO13 OG12 OW12 HB12 R13 f13 m13 n13
  go_wp2_with (fail)
  refine (CI.out x13 c13 _ HR13.out N13.out.1 N13.out.2.1 N13.out.2.2 (HT.out.kept HB13.out)).mono ?_
  rintro e k14 ⟨vh, rfl, hO14, hb14⟩
  have HB14 := hidIt (HB13.out.trans (hb14.mono HB13.out.size))
  have OG14 := hidIt (OG13.out.kept hb14)
  have OW14 := hidIt (OW13.out.kept hb14)
  obtain ⟨xh, ch, rfl, _, _, R14, _⟩ := hO14.form
  have HR14 := hidIt R14
  clear hb14 hO14 OG13 OW13 HB13 R14 HR13 N13
  go_wp2_with (fail)
  refine (CE.out xh ch xw cw _ HR14.out (RW.out _ _ OW14.out)).mono ?_
  rintro e k15 ⟨rfl, hb15⟩
  have HB15 := hidIt (HB14.out.trans (hb15.mono HB14.out.size))
  have OG15 := hidIt (OG14.out.kept hb15)
  clear hb15 OG14 OW14 HB14 HR14
  go_wp2_with (fail)
  refine (CHG.out xg cg _ (RG.out _ _ _ (markL_length _ _) OG15.out)).mono ?_
  rintro e k16 ⟨rfl, hb16⟩
  have HB16 := hidIt (HB15.out.trans (hb16.mono HB15.out.size))
  clear hb16 OG15 HB15
  go_wp2_with (fail)
  go_ret
  exact ⟨rfl, HB16.out⟩

theorem door_met (os : Os) (args : Array Value) : laidMetH Tryd.prog Rows.fnExactNotedRow.laid ((World.doorLaid Tryd.prog 24 os).forCall (fun _ _ => 0) ⟨#[], args, []⟩).memory :=
  laidMetH_of_parts3 (fuel := 8) (laidMet_of_run' 8 (by kernel_rfl) (by kernel_rfl)) (by kernel_rfl) (by kernel_rfl)
set_option maxRecDepth 100000 in
theorem lifted (os : Os) (started : os.Started) (H : Type) (enc : TypeId × Value → H) :
    ReturnsInHanded {} Tryd.checked os 5 .any (fun w args => (Rows.fnExactNotedSpec.pre enc Tryd.prog Tryd.f5 [] false w args ∧ laidMetH Tryd.prog Rows.fnExactNotedRow.laid w) ∧ sizedMet enc Tryd.prog Tryd.f5 (OpenSpec.ofChange Rows.fnExactNotedSpec) false w args) (Rows.fnExactNotedSpec.post enc Tryd.prog Tryd.f5 false true false false) := by
  refine returnsInHanded_of_change_and (C := Tryd.checked) (X := fun w _ => laidMetH Tryd.prog Rows.fnExactNotedRow.laid w) (fun _ _ _ hh h => h.of_heap hh) own started (by kernel_rfl) Tryd.func5
    (ChangeSpec.witness_shaped (enc := enc) (C := Tryd.checked) (os := os) (X := fun w _ => laidMetH Tryd.prog Rows.fnExactNotedRow.laid w) false (World.doorLaid Tryd.prog 24 os) #[.slice none 0 0, .string ByteArray.empty] 8 rfl (World.shaped_of_RefB (by kernel_rfl) (by kernel_rfl)) (by kernel_rfl) (by kernel_rfl) (by kernel_rfl) (door_met os _)) ?_
  intro W base args ds gs before hval0 hW _ _ hL _
  have hval : ∀ (j : Nat) t v, Tryd.f5.params[j]? = some t → args[j]? = some v → Value.okWide Tryd.prog W .any base t v := hval0
  have hW' := hW
  obtain ⟨p, q, hA0, hV, rfl, hfz, hnd⟩ := hW
  have hA : DataW.TrodAll enc Tryd.prog W 0 (fun _ => true) true Tryd.f5.params.toList args.toList ds p := hA0
  rw [Tryd.params5] at hA hval
  obtain ⟨v0, vs0, d0, ds0, p0, q0, hargs, rfl, rfl, h0, r0⟩ := trodAll_cons hA
  obtain ⟨v1, vs1, d1, ds1, p1, q1, rfl, rfl, rfl, h1, r1⟩ := trodAll_cons r0
  obtain ⟨rfl, rfl, rfl⟩ := trodAll_nil r1
  obtain rfl : args = #[v0, v1] := by cases args; simp_all
  obtain ⟨rfl, rfl⟩ := trodVars_none hV
  have k0 := h0
  have lt0 : ∀ x ∈ p0, x.block < W.heap.size := by obtain ⟨m, hm⟩ := k0; exact DataW.trod_lt m _ _ _ hm
  have k1 := h1
  have lt1 : ∀ x ∈ p1, x.block < W.heap.size := by obtain ⟨m, hm⟩ := k1; exact DataW.trod_lt m _ _ _ hm
  obtain ⟨a0, cap0, L0, rfl, w0⟩ := Lg.open_lines (hval 0 38 v0 rfl rfl) h0
  obtain ⟨s1, rfl, rfl, rfl, ws1⟩ := Go.ChangeMaps.open_string Tryd.underlying9 (hval 1 9 v1 rfl rfl) h1
  clear hA0 hval0
  refine (walk a0 cap0 L0 s1 ws1 W w0 (Sg.tab_of_laid hL)).mono fun e W' ⟨he, bel⟩ => ?_
  subst he
  exact ⟨_, rfl, _, _, _, [], _, [], hW', trodAll_mk1 (shut_bool Tryd.underlying4 _), (trodAll_cons_mk (Below.trod laidOut (by kernel_rfl) (of_decide_eq_true (by kernel_rfl)) k0 bel lt0) (trodAll_cons_mk (Below.trod laidOut (by kernel_rfl) (of_decide_eq_true (by kernel_rfl)) k1 bel lt1) trodAll_mk0)), rfl, bel.frame _, fun h => by cases h⟩

theorem over : Rows.fnExactNotedRow.holds Tryd.pinned (OpenSpec.ofChange Rows.fnExactNotedSpec) :=
  OpenClaim.holds_of_wide 5 Tryd.f5 rfl rfl rfl rfl rfl rfl rfl ⟨rfl, rfl, rfl, rfl, rfl⟩ rfl rfl rfl rfl rfl (by kernel_rfl) Tryd.func5 (by kernel_rfl)
    (of_decide_eq_true (by kernel_rfl)) (by unfold Func.isWrapper; first | (rw [if_pos (by decide +kernel)]; kernel_rfl) | (rw [if_neg (by decide +kernel)]; exact ⟨rfl, rfl⟩))
    (fun os started H enc _ => lifted os started H enc)
theorem card : Rows.FnExactNotedCardSaid :=
  Claim7.holds_tied_plain_at .later [] [.data, .data, .data] true (true, "9ab4f1656db544c4279b8fa1b3539260fc5ef5f25e5b87d59d0970534a0d8030") false
    over (fun _ h => by cases h) (by kernel_rfl) (fun _ h => by cases h) fnExactNoted_row_tie rfl ⟨rfl, rfl⟩ (by kernel_rfl) rfl
    (fun f fn hf hfn => by
      obtain rfl : f = 5 := Option.some.inj ((show Tryd.prog.funcNamed "loop.example/g00307/laws.FnExactNoted" = some 5 by kernel_rfl).symm.trans hf) |>.symm
      obtain rfl : fn = Tryd.f5 := (Option.some.inj (Tryd.func5.symm.trans hfn)).symm
      exact ⟨by kernel_rfl, fun j t ht => by
        rw [Tryd.params5] at ht
        have hm : t ∈ [38, 9] := by simpa using Array.mem_of_getElem? ht
        have hall : ([38, 9].all fun u => !Tryd.prog.wantsStandIn u) = true := by kernel_rfl
        exact (show Tryd.prog.wantsStandIn t = false by simpa using List.all_eq_true.1 hall t hm)⟩)
    (by kernel_rfl)
end Go.Proofs.YtoijollhmchalaaDoor.fnExactNoted
namespace Go.Proofs.YtoijollhmchalaaDoor
theorem fnExactNoted_holds : Rows.FnExactNotedCardSaid := fnExactNoted.card
#print axioms fnExactNoted_holds
end Go.Proofs.YtoijollhmchalaaDoor
