/-
  FnExactSigned answers true at every number and every text and leaves them as they were: Signed of the program answers as the specification's. No condition but that the library's table of powers of ten lies as its text lays it.
-/
import Derived.Test.YtbjmijajngedoaaDoorRows
import Derived.WalkKit
import Derived.ProofKit
import Derived.OpenShut
import Derived.ShutString
import Derived.ChangeOld
import Derived.Below
import Derived.Lib.SmallJoins
import Derived.Test.YtbjmijajngedoaaDoorDoorMet
import Derived.Test.YtbjmijajngedoaaDoorTie
import Derived.Test.YtbjmijajngedoaaDoorCards
import Derived.LaidMore
import Derived.Stop.Joined
import Derived.SevenTiedAt
import Derived.Test.YtbjmijajngedoaaDoorSignW
namespace Go.Proofs.YtbjmijajngedoaaDoor.fnExactSigned
open Go.ChangeShapes Go.WideShapes Go.ChangeAt Go.RowKit Go.Joins
set_option linter.unusedVariables false

theorem own : ownKnob Tryd.prog.godebug = none := by kernel_rfl
theorem laidOut : laidOutB Tryd.prog = true := by kernel_rfl
open Cv Cu Sg
/-- Both answer alike: R and T, or the zero Sig and false. -/
theorem both (n : Int) (s : ByteArray) (hs : s.size ≤ 1048576) : ∃ (u v t : Int) (f : Bool), (∀ w, Calls Tryd.prog 12 #[.int .i64 n, .string s] w fun e w' => e = .returned (.tuple #[.agg #[.int .i64 u, .int .i64 v, .int .i64 t], .bool f]) ∧ Below w.heap.size w w') ∧ (∀ w, Tab w → Calls Tryd.prog 8 #[.int .i64 n, .string s] w fun e w' => e = .returned (.tuple #[.agg #[.int .i64 u, .int .i64 v, .int .i64 t], .bool f]) ∧ Below w.heap.size w w') := by
  by_cases h : 0 < n ∧ n < 2549
  · obtain ⟨m, rfl⟩ := Int.eq_ofNat_of_zero_le (show 0 ≤ n by omega)
    exact ⟨((sgR m s).1 : Int), ((sgR m s).2 : Int), (sgT m s : Int), true, fun w => spec_Signed_yes m s w (by omega) (by omega) (by omega), fun w t => impl_Signed_yes m s w (by omega) (by omega) (by omega) t⟩
  · exact ⟨0, 0, 0, false, fun w => spec_Signed_no n s w (by omega), fun w _ => impl_Signed_no n s w (by omega)⟩
set_option maxHeartbeats 8000000 in

theorem walk (n0 : Int) (s1 : ByteArray) (ws1 : s1.size ≤ maxLen) (w : World) (htab : Sg.Tab w) :
    Calls Tryd.prog 5 #[.int .i64 n0, .string s1] w fun e w' => e = .returned (.bool true) ∧ Below w.heap.size w w' := by
  by_cases hb : 1048576 < s1.size
  · have hb' : (1048576 : Int) < (s1.size : Int) := by omega
    go_enter Tryd.func5, Tryd.ntmps5
    go_wp2
    go_ret
    exact ⟨rfl, Below.refl _ _⟩
  · have hb' : ¬ (1048576 : Int) < (s1.size : Int) := by omega
    obtain ⟨u, v, t, f, c1, c2⟩ := both n0 s1 (by omega)
    have C1 := Hid.mk' c1
    have C2 := Hid.mk' c2
    have HT := Hid.mk' htab
    have hff : (f != f) = false := by simp
    clear c1 c2 htab
    go_enter Tryd.func5, Tryd.ntmps5
    go_wp2_with (fail)
    refine (C1.out _).mono ?_
    rintro e w1 ⟨rfl, hb1⟩
    have B1 := Hid.mk' hb1
    clear hb1
    go_wp2_with (fail)
    refine (C2.out _ (HT.out.kept (below_old B1.out))).mono ?_
    rintro e w2 ⟨rfl, hb2⟩
    have S2 := Hid.mk' ((Tri.newAt (x := u) (y := v) (z := t) rfl).next hb2)
    have B2 := Hid.mk' (below_step B1.out hb2)
    have x0 := S2.out.c0
    have x1 := S2.out.c1
    have x2 := S2.out.c2
    have x6 := S2.out.lt
    have x7 : w1.heap.size < w2.heap.size + 1 := by omega
    clear hb2
    go_wp2_with (fail)
    refine (eqSig_same _ _ _ _).mono ?_
    rintro e w3 ⟨rfl, hb3⟩
    have B3 := Hid.mk' (below_step B2.out hb3)
    clear hb3
    go_wp2_with (fail)
    go_ret
    exact ⟨rfl, B3.out⟩

theorem door_met (os : Os) (args : Array Value) : laidMetH Tryd.prog Rows.fnExactSignedRow.laid ((World.doorLaid Tryd.prog 24 os).forCall (fun _ _ => 0) ⟨#[], args, []⟩).memory :=
  laidMetH_of_parts3 (fuel := 8) (laidMet_of_run' 8 (by kernel_rfl) (by kernel_rfl)) (by kernel_rfl) (by kernel_rfl)
set_option maxRecDepth 100000 in
theorem lifted (os : Os) (started : os.Started) (H : Type) (enc : TypeId × Value → H) :
    ReturnsInHanded {} Tryd.checked os 5 .any (fun w args => (Rows.fnExactSignedSpec.pre enc Tryd.prog Tryd.f5 [] false w args ∧ laidMetH Tryd.prog Rows.fnExactSignedRow.laid w) ∧ sizedMet enc Tryd.prog Tryd.f5 (OpenSpec.ofChange Rows.fnExactSignedSpec) false w args) (Rows.fnExactSignedSpec.post enc Tryd.prog Tryd.f5 false true false false) := by
  refine returnsInHanded_of_change_and (C := Tryd.checked) (X := fun w _ => laidMetH Tryd.prog Rows.fnExactSignedRow.laid w) (fun _ _ _ hh h => h.of_heap hh) own started (by kernel_rfl) Tryd.func5
    (ChangeSpec.witness_shaped (enc := enc) (C := Tryd.checked) (os := os) (X := fun w _ => laidMetH Tryd.prog Rows.fnExactSignedRow.laid w) false (World.doorLaid Tryd.prog 24 os) #[.int .i64 0, .string ByteArray.empty] 8 rfl (World.shaped_of_RefB (by kernel_rfl) (by kernel_rfl)) (by kernel_rfl) (by kernel_rfl) (by kernel_rfl) (door_met os _)) ?_
  intro W base args ds gs before hval0 hW _ _ hL _
  have hval : ∀ (j : Nat) t v, Tryd.f5.params[j]? = some t → args[j]? = some v → Value.okWide Tryd.prog W .any base t v := hval0
  have hW' := hW
  obtain ⟨p, q, hA0, hV, rfl, hfz, hnd⟩ := hW
  have hA : DataW.TrodAll enc Tryd.prog W 0 (fun _ => true) true Tryd.f5.params.toList args.toList ds p := hA0
  rw [Tryd.params5] at hA hval
  obtain ⟨v0, vs0, d0, ds0, p0, q0, hargs, rfl, rfl, h0, r0⟩ := trodAll_cons hA
  obtain ⟨v1, vs1, d1, ds1, p1, q1, rfl, rfl, rfl, h1, r1⟩ := trodAll_cons r0
  obtain ⟨rfl, rfl, rfl⟩ := trodAll_nil r1
  obtain rfl : args = #[v0, v1] := by cases args; simp_all
  obtain ⟨rfl, rfl⟩ := trodVars_none hV
  have k0 := h0
  have lt0 : ∀ x ∈ p0, x.block < W.heap.size := by obtain ⟨m, hm⟩ := k0; exact DataW.trod_lt m _ _ _ hm
  have k1 := h1
  have lt1 : ∀ x ∈ p1, x.block < W.heap.size := by obtain ⟨m, hm⟩ := k1; exact DataW.trod_lt m _ _ _ hm
  obtain ⟨n0, rfl, rfl, rfl, wn0⟩ := open_int Tryd.underlying2 (hval 0 2 v0 rfl rfl) h0
  obtain ⟨s1, rfl, rfl, rfl, ws1⟩ := Go.ChangeMaps.open_string Tryd.underlying9 (hval 1 9 v1 rfl rfl) h1
  clear hA0 hval0
  refine (walk n0 s1 ws1 W (Sg.tab_of_laid hL)).mono fun e W' ⟨he, bel⟩ => ?_
  subst he
  exact ⟨_, rfl, _, _, _, [], _, [], hW', trodAll_mk1 (shut_bool Tryd.underlying4 _), (trodAll_cons_mk (Below.trod laidOut (by kernel_rfl) (of_decide_eq_true (by kernel_rfl)) k0 bel lt0) (trodAll_cons_mk (Below.trod laidOut (by kernel_rfl) (of_decide_eq_true (by kernel_rfl)) k1 bel lt1) trodAll_mk0)), rfl, bel.frame _, fun h => by cases h⟩

theorem over : Rows.fnExactSignedRow.holds Tryd.pinned (OpenSpec.ofChange Rows.fnExactSignedSpec) :=
  OpenClaim.holds_of_wide 5 Tryd.f5 rfl rfl rfl rfl rfl rfl rfl ⟨rfl, rfl, rfl, rfl, rfl⟩ rfl rfl rfl rfl rfl (by kernel_rfl) Tryd.func5 (by kernel_rfl)
    (of_decide_eq_true (by kernel_rfl)) (by unfold Func.isWrapper; first | (rw [if_pos (by decide +kernel)]; kernel_rfl) | (rw [if_neg (by decide +kernel)]; exact ⟨rfl, rfl⟩))
    (fun os started H enc _ => lifted os started H enc)
theorem card : Rows.FnExactSignedCardSaid :=
  Claim7.holds_tied_plain_at .later [] [.data, .data, .data] true (true, "b5c8ee19ed266ba7e0c4cef473e607b58437db1abacc6038f89b18b326210750") false
    over (fun _ h => by cases h) (by kernel_rfl) (fun _ h => by cases h) fnExactSigned_row_tie rfl ⟨rfl, rfl⟩ (by kernel_rfl) rfl
    (fun f fn hf hfn => by
      obtain rfl : f = 5 := Option.some.inj ((show Tryd.prog.funcNamed "loop.example/g00307/laws.FnExactSigned" = some 5 by kernel_rfl).symm.trans hf) |>.symm
      obtain rfl : fn = Tryd.f5 := (Option.some.inj (Tryd.func5.symm.trans hfn)).symm
      exact ⟨by kernel_rfl, fun j t ht => by
        rw [Tryd.params5] at ht
        have hm : t ∈ [2, 9] := by simpa using Array.mem_of_getElem? ht
        have hall : ([2, 9].all fun u => !Tryd.prog.wantsStandIn u) = true := by kernel_rfl
        exact (show Tryd.prog.wantsStandIn t = false by simpa using List.all_eq_true.1 hall t hm)⟩)
    (by kernel_rfl)
end Go.Proofs.YtbjmijajngedoaaDoor.fnExactSigned
namespace Go.Proofs.YtbjmijajngedoaaDoor
theorem fnExactSigned_holds : Rows.FnExactSignedCardSaid := fnExactSigned.card
#print axioms fnExactSigned_holds
end Go.Proofs.YtbjmijajngedoaaDoor
