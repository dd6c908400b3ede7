/-
  FnExactReadRules answers true at every text: ReadRules of the program answers as the specification's, and its answer lies in memory of its own, behind another call too. No condition.
-/
import Derived.Test.YtdgnjhppggemhabDoorRows
import Derived.WalkKit
import Derived.ProofKit
import Derived.OpenShut
import Derived.ShutString
import Derived.ChangeOld
import Derived.Below
import Derived.Lib.SmallJoins
import Derived.Lay
import Derived.Test.YtdgnjhppggemhabDoorTie
import Derived.Test.YtdgnjhppggemhabDoorCards
import Derived.LaidMore
import Derived.Stop.Joined
import Derived.SevenTiedAt
import Derived.Test.YtdgnjhppggemhabDoorRuX
import Derived.Test.YtdgnjhppggemhabDoorRulL
import Derived.Test.YtdgnjhppggemhabDoorRulN
namespace Go.Proofs.YtdgnjhppggemhabDoor.fnExactReadRules
open Go.ChangeShapes Go.WideShapes Go.ChangeAt Go.RowKit Go.Joins
set_option linter.unusedVariables false

theorem own : ownKnob Tryd.prog.godebug = none := by kernel_rfl
theorem laidOut : laidOutB Tryd.prog = true := by kernel_rfl
open Go.ChangeShapes Go.WideShapes Go.ChangeAt Go.RowKit
open Ru (hidIt)

theorem row_lo {w w' : World} {b b' e e' s s' n n' : Nat} {u v : Value} {xs ys : List Value} (hu : w.ownsRow b e s u n xs) (hv : w.ownsRow b' e' s' v n' ys) (Y : Only (v.ownBlock.getD w.heap.size) w w') (hlt : ∀ g, u.ownBlock = some g → g < b') : w'.ownsRow b e s u n xs := by
  refine World.ownsRow.kept hu (row := some (v.ownBlock.getD w.heap.size)) ⟨Y.os, Y.tape, Y.output, Y.size, fun i hi hne => Y.block i hi (fun e => hne (by rw [e]))⟩ ?_
  cases hub : u.ownBlock with
  | none => exact .inl rfl
  | some g =>
    refine .inr (fun e => ?_)
    have h1 := hlt g hub
    have h2 := (World.ownsRow.lt hu g hub).2
    have e' := Option.some.inj e
    cases hvb : v.ownBlock with
    | none => rw [hvb] at e'; simp at e'; omega
    | some x => rw [hvb] at e'; have := (World.ownsRow.lt hv x hvb).1; simp at e'; omega
theorem row_hi {w w' : World} {b b' e e' s s' n n' : Nat} {u v : Value} {xs ys : List Value} (hu : w.ownsRow b e s u n xs) (hv : w.ownsRow b' e' s' v n' ys) (Y : Only (v.ownBlock.getD w.heap.size) w w') (hlt : ∀ g, v.ownBlock = some g → g < b) : w'.ownsRow b e s u n xs := by
  refine World.ownsRow.kept hu (row := some (v.ownBlock.getD w.heap.size)) ⟨Y.os, Y.tape, Y.output, Y.size, fun i hi hne => Y.block i hi (fun e => hne (by rw [e]))⟩ ?_
  cases hub : u.ownBlock with
  | none => exact .inl rfl
  | some g =>
    refine .inr (fun e => ?_)
    have h2 := World.ownsRow.lt hu g hub
    have e' := Option.some.inj e
    cases hvb : v.ownBlock with
    | none => rw [hvb] at e'; simp at e'; omega
    | some x => rw [hvb] at e'; have := hlt x hvb; simp at e'; omega
theorem row_below {W w w' : World} {b B e s n : Nat} {v : Value} {xs : List Value} (k : Below B W w) (hv : w.ownsRow b e s v n xs) (Y : Only (v.ownBlock.getD w.heap.size) w w') (hb : B ≤ b) (hs : B ≤ w.heap.size) : Below B W w' := by
  refine k.trans (Y.below ?_ hs)
  cases hvb : v.ownBlock with
  | none => simpa using hs
  | some x => have := (World.ownsRow.lt hv x hvb).1; simp; omega
set_option maxRecDepth 100000 in
set_option maxHeartbeats 32000000 in

theorem walk (s0 : ByteArray) (ws0 : s0.size ≤ maxLen) (w : World) :
    Calls Tryd.prog 3 #[.string s0] w fun e w' => e = .returned (.bool true) ∧ Below w.heap.size w w' := by
  have HB := hidIt (Below.refl w.heap.size w)
  obtain ⟨A0, hA0⟩ : ∃ A, A = (Ru.readR s0).getD [] := ⟨_, rfl⟩
  have hA0l : A0.length ≤ 80 := by
    rw [hA0]
    cases e : Ru.readR s0 with
    | none => simp
    | some M =>
      have := Ru.okR_len ((Ru.read_iff s0 M).1 e).1
      simp only [Option.getD_some]
      omega
  have CS : Hid (∀ W, s0.size ≤ 1048576 → Calls Tryd.prog 4 #[.string s0] W fun e w' => ∃ v, e = .returned (.tuple #[v, .bool (Ru.readR s0).isSome]) ∧ Ru.Own w' W.heap.size v A0 ∧ Below W.heap.size W w') := hidIt (fun W hk => by rw [hA0]; exact Ru.spec_ReadRules s0 W (by omega))
  have CI : Hid (∀ W, s0.size ≤ 1048576 → Calls Tryd.prog 5 #[.string s0] W fun e w' => ∃ v, e = .returned (.tuple #[v, .bool (Ru.readR s0).isSome]) ∧ Ru.Own w' W.heap.size v A0 ∧ Below W.heap.size W w') := hidIt (fun W hk => by rw [hA0]; exact Ru.impl_ReadRules s0 W (by omega))
  generalize (Ru.readR s0).isSome = R1 at CS CI
  have hR1 : (R1 != R1) = false := by cases R1 <;> rfl
  have hR1' : (R1 == R1) = true := by cases R1 <;> rfl
  clear hA0
  have EA0 := hidIt (fun W a a' c c' (r : Ru.Rd W a A0) (r' : Ru.Rd W a' A0) => Ru.eqS_same a a' c c' A0 W r r' (by omega))
  have cma0 := fun b v W h => Ru.markS_any b v A0 1 W h (by omega) (by omega)
  have cha0 := fun a c W h => Ru.heldS_any a c A0.length 1 W h (by omega) (by omega)
  generalize ha0 : A0.length = n0 at *
  have HA0 := hidIt ha0
  clear ha0
  generalize 1 + 3 * n0 = kg0 at cma0 cha0
  have MA0 := hidIt cma0
  have HH0 := hidIt cha0
  clear cma0 cha0
  have hkg0 : ¬ (kg0 : Int) < 0 := by omega
  have hkk0 : ((kg0 : Int) != (kg0 : Int)) = false := by simp
  go_enter Tryd.func3, Tryd.ntmps3
  by_cases hks0 : (1048576 : Int) < (s0.size : Int)
  · go_wp2_with (fail)
    go_ret
    exact ⟨rfl, HB.out⟩
  have HBS_w : Hid (w.heap.size ≤ w.heap.size) := hidIt HB.out.size
  go_wp2_with (fail)
  refine (CS.out _ (by omega)).mono ?_
  rintro e w1 ⟨v_aw0, rfl, o0, kk⟩
  have aw0 := hidIt o0
  clear o0
  obtain ⟨p_aw0, q_aw0, ev, _, _, _⟩ := aw0.out.formN HA0.out
  subst ev
  have G_aw0 := hidIt (fun W b (M : List Ru.Rw) (h : Ru.Own W b (.slice p_aw0 n0 q_aw0) M) => show Ru.Rd W p_aw0 M by obtain ⟨a, c, e, _, _, r, _⟩ := h.form; simp only [Value.slice.injEq] at e; rw [e.1]; exact r)
  replace HB := hidIt (HB.out.trans (kk.mono HB.out.size))
  clear kk
  have HBS_w1 : Hid (w.heap.size ≤ w1.heap.size) := hidIt HB.out.size
  have B_aw0_ag0 := hidIt (aw0.out.blk (Nat.le_refl _))
  go_wp2_with (fail)
  refine (CI.out _ (by omega)).mono ?_
  rintro e w2 ⟨v_ag0, rfl, o0, kk⟩
  have ag0 := hidIt o0
  clear o0
  obtain ⟨p_ag0, q_ag0, ev, _, _, _⟩ := ag0.out.formN HA0.out
  subst ev
  have G_ag0 := hidIt (fun W b (M : List Ru.Rw) (h : Ru.Own W b (.slice p_ag0 n0 q_ag0) M) => show Ru.Rd W p_ag0 M by obtain ⟨a, c, e, _, _, r, _⟩ := h.form; simp only [Value.slice.injEq] at e; rw [e.1]; exact r)
  replace HB := hidIt (HB.out.trans (kk.mono HB.out.size))
  replace aw0 := hidIt (aw0.out.kept kk)
  clear kk
  go_wp2_with (fail)
  refine (EA0.out _ p_ag0 p_aw0 q_ag0 q_aw0 (G_ag0.out _ _ _ ag0.out) (G_aw0.out _ _ _ aw0.out)).mono ?_
  rintro e w3 ⟨rfl, kk⟩
  replace HB := hidIt (HB.out.trans (kk.mono HB.out.size))
  replace aw0 := hidIt (aw0.out.kept kk)
  replace ag0 := hidIt (ag0.out.kept kk)
  clear kk
  have hb_ag0 : Hid (w.heap.size ≤ w1.heap.size) := HBS_w1
  go_wp2_with (fail)
  refine (MA0.out _ _ _ ag0.out).mono ?_
  rintro e w4 ⟨rfl, oo, yy⟩
  replace HB := hidIt (row_below HB.out ag0.out yy hb_ag0.out HB.out.size)
  replace aw0 : Hid (Ru.Own w4 _ _ A0) := hidIt (row_lo aw0.out ag0.out yy B_aw0_ag0.out)
  replace ag0 := hidIt oo
  clear oo yy
  go_wp2_with (fail)
  refine (HH0.out _ _ _ (G_ag0.out _ _ _ ag0.out)).mono ?_
  rintro e w5 ⟨rfl, kk⟩
  replace HB := hidIt (HB.out.trans (kk.mono HB.out.size))
  replace aw0 := hidIt (aw0.out.kept kk)
  replace ag0 := hidIt (ag0.out.kept kk)
  clear kk
  have HBS_w5 : Hid (w.heap.size ≤ w5.heap.size) := hidIt HB.out.size
  have B_aw0_ah0 := hidIt (aw0.out.blk (Nat.le_refl _))
  have B_ag0_ah0 := hidIt (ag0.out.blk (Nat.le_refl _))
  go_wp2_with (fail)
  refine (CI.out _ (by omega)).mono ?_
  rintro e w6 ⟨v_ah0, rfl, o0, kk⟩
  have ah0 := hidIt o0
  clear o0
  obtain ⟨p_ah0, q_ah0, ev, _, _, _⟩ := ah0.out.formN HA0.out
  subst ev
  have G_ah0 := hidIt (fun W b (M : List Ru.Rw) (h : Ru.Own W b (.slice p_ah0 n0 q_ah0) M) => show Ru.Rd W p_ah0 M by obtain ⟨a, c, e, _, _, r, _⟩ := h.form; simp only [Value.slice.injEq] at e; rw [e.1]; exact r)
  replace HB := hidIt (HB.out.trans (kk.mono HB.out.size))
  replace aw0 := hidIt (aw0.out.kept kk)
  replace ag0 := hidIt (ag0.out.kept kk)
  clear kk
  go_wp2_with (fail)
  refine (EA0.out _ p_ah0 p_aw0 q_ah0 q_aw0 (G_ah0.out _ _ _ ah0.out) (G_aw0.out _ _ _ aw0.out)).mono ?_
  rintro e w7 ⟨rfl, kk⟩
  replace HB := hidIt (HB.out.trans (kk.mono HB.out.size))
  replace aw0 := hidIt (aw0.out.kept kk)
  replace ag0 := hidIt (ag0.out.kept kk)
  replace ah0 := hidIt (ah0.out.kept kk)
  clear kk
  go_wp2_with (fail)
  refine (HH0.out _ _ _ (G_ag0.out _ _ _ ag0.out)).mono ?_
  rintro e w8 ⟨rfl, kk⟩
  replace HB := hidIt (HB.out.trans (kk.mono HB.out.size))
  replace aw0 := hidIt (aw0.out.kept kk)
  replace ag0 := hidIt (ag0.out.kept kk)
  replace ah0 := hidIt (ah0.out.kept kk)
  clear kk
  go_wp2_with (fail)
  go_ret
  exact ⟨rfl, HB.out⟩

theorem door_met (os : Os) (args : Array Value) : laidMetH Tryd.prog Rows.fnExactReadRulesRow.laid ((World.laidAll Tryd.prog os Rows.fnExactReadRulesRow.laid).forCall (fun _ _ => 0) ⟨#[], args, []⟩).memory := by
  rw [MakeChecks.laidMetH_plain _ _ _ (by kernel_rfl)]
  exact laidMet_laidAll _ (by kernel_rfl) (by kernel_rfl)
set_option maxRecDepth 100000 in
theorem lifted (os : Os) (started : os.Started) (H : Type) (enc : TypeId × Value → H) :
    ReturnsInHanded {} Tryd.checked os 3 .any (fun w args => (Rows.fnExactReadRulesSpec.pre enc Tryd.prog Tryd.f3 [] false w args ∧ laidMetH Tryd.prog Rows.fnExactReadRulesRow.laid w) ∧ sizedMet enc Tryd.prog Tryd.f3 (OpenSpec.ofChange Rows.fnExactReadRulesSpec) false w args) (Rows.fnExactReadRulesSpec.post enc Tryd.prog Tryd.f3 false true false false) := by
  refine returnsInHanded_of_change_and (C := Tryd.checked) (X := fun w _ => laidMetH Tryd.prog Rows.fnExactReadRulesRow.laid w) (fun _ _ _ hh h => h.of_heap hh) own started (by kernel_rfl) Tryd.func3
    (ChangeSpec.witness_shaped (enc := enc) (C := Tryd.checked) (os := os) (X := fun w _ => laidMetH Tryd.prog Rows.fnExactReadRulesRow.laid w) false (World.laidAll Tryd.prog os Rows.fnExactReadRulesRow.laid) #[.string ByteArray.empty] 8 (World.laidAll_os _ _ _)
      (World.shaped_of_ZipB (by kernel_rfl) (by kernel_rfl)) (by kernel_rfl) (by kernel_rfl) (by kernel_rfl) (door_met os _)) ?_
  intro W base args ds gs before hval0 hW _ _ hL _
  have hval : ∀ (j : Nat) t v, Tryd.f3.params[j]? = some t → args[j]? = some v → Value.okWide Tryd.prog W .any base t v := hval0
  have hW' := hW
  obtain ⟨p, q, hA0, hV, rfl, hfz, hnd⟩ := hW
  have hA : DataW.TrodAll enc Tryd.prog W 0 (fun _ => true) true Tryd.f3.params.toList args.toList ds p := hA0
  rw [Tryd.params3] at hA hval
  obtain ⟨v0, vs0, d0, ds0, p0, q0, hargs, rfl, rfl, h0, r0⟩ := trodAll_cons hA
  obtain ⟨rfl, rfl, rfl⟩ := trodAll_nil r0
  obtain rfl : args = #[v0] := by cases args; simp_all
  obtain ⟨rfl, rfl⟩ := trodVars_none hV
  have k0 := h0
  have lt0 : ∀ x ∈ p0, x.block < W.heap.size := by obtain ⟨m, hm⟩ := k0; exact DataW.trod_lt m _ _ _ hm
  obtain ⟨s0, rfl, rfl, rfl, ws0⟩ := Go.ChangeMaps.open_string Tryd.underlying9 (hval 0 9 v0 rfl rfl) h0
  clear hA0 hval0
  refine (walk s0 ws0 W).mono fun e W' ⟨he, bel⟩ => ?_
  subst he
  exact ⟨_, rfl, _, _, _, [], _, [], hW', trodAll_mk1 (shut_bool Tryd.underlying4 _), (trodAll_cons_mk (Below.trod laidOut (by kernel_rfl) (of_decide_eq_true (by kernel_rfl)) k0 bel lt0) trodAll_mk0), rfl, bel.frame _, fun h => by cases h⟩

theorem over : Rows.fnExactReadRulesRow.holds Tryd.pinned (OpenSpec.ofChange Rows.fnExactReadRulesSpec) :=
  OpenClaim.holds_of_wide 3 Tryd.f3 rfl rfl rfl rfl rfl rfl rfl ⟨rfl, rfl, rfl, rfl, rfl⟩ rfl rfl rfl rfl rfl (by kernel_rfl) Tryd.func3 (by kernel_rfl)
    (of_decide_eq_true (by kernel_rfl)) (by unfold Func.isWrapper; first | (rw [if_pos (by decide +kernel)]; kernel_rfl) | (rw [if_neg (by decide +kernel)]; exact ⟨rfl, rfl⟩))
    (fun os started H enc _ => lifted os started H enc)
theorem card : Rows.FnExactReadRulesCardSaid :=
  Claim7.holds_tied_plain_at .later [] [.data, .pinned] true (true, "1e2f6ebba8bcc3ac647103c8b60614f3b3910b7c09669b9778c22349491ffb2e") false
    over (fun _ h => by cases h) (by kernel_rfl) (fun _ h => by cases h) fnExactReadRules_row_tie rfl ⟨rfl, rfl⟩ (by kernel_rfl) rfl
    (fun f fn hf hfn => by
      obtain rfl : f = 3 := Option.some.inj ((show Tryd.prog.funcNamed "loop.example/g00307/laws.FnExactReadRules" = some 3 by kernel_rfl).symm.trans hf) |>.symm
      obtain rfl : fn = Tryd.f3 := (Option.some.inj (Tryd.func3.symm.trans hfn)).symm
      exact ⟨by kernel_rfl, fun j t ht => by
        rw [Tryd.params3] at ht
        have hm : t ∈ [9] := by simpa using Array.mem_of_getElem? ht
        have hall : ([9].all fun u => !Tryd.prog.wantsStandIn u) = true := by kernel_rfl
        exact (show Tryd.prog.wantsStandIn t = false by simpa using List.all_eq_true.1 hall t hm)⟩)
    (by kernel_rfl)
end Go.Proofs.YtdgnjhppggemhabDoor.fnExactReadRules
namespace Go.Proofs.YtdgnjhppggemhabDoor
theorem fnExactReadRules_holds : Rows.FnExactReadRulesCardSaid := fnExactReadRules.card
#print axioms fnExactReadRules_holds
end Go.Proofs.YtdgnjhppggemhabDoor
