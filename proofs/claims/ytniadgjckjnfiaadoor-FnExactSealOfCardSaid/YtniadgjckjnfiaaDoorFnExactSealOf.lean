/-
  FnExactSealOf answers true at every two numbers and every text and leaves them as they were: SealOf of the program answers as the specification's. No condition but that the library's table of powers of ten lies as its text lays it.
-/
import Derived.Test.YtniadgjckjnfiaaDoorRows
import Derived.WalkKit
import Derived.ProofKit
import Derived.OpenShut
import Derived.ShutString
import Derived.ChangeOld
import Derived.Below
import Derived.Lib.SmallJoins
import Derived.Test.YtniadgjckjnfiaaDoorDoorMet
import Derived.Test.YtniadgjckjnfiaaDoorTie
import Derived.Test.YtniadgjckjnfiaaDoorCards
import Derived.LaidMore
import Derived.Stop.Joined
import Derived.SevenTiedAt
import Derived.Test.YtniadgjckjnfiaaDoorBun2
namespace Go.Proofs.YtniadgjckjnfiaaDoor.fnExactSealOf
open Go.ChangeShapes Go.WideShapes Go.ChangeAt Go.RowKit Go.Joins
set_option linter.unusedVariables false

theorem own : ownKnob Tryd.prog.godebug = none := by kernel_rfl
theorem laidOut : laidOutB Tryd.prog = true := by kernel_rfl
open Cv Cu Sg Dd
open Go.Proofs.YtniadgjckjnfiaaDoor.Bo (Box Box.new Box.newAt Box.kept Box.alloc Box.put Box.other Box.c Box.drew)
set_option maxRecDepth 100000 in
set_option maxHeartbeats 4000000 in

theorem walk (n0 : Int) (s1 : ByteArray) (ws1 : s1.size ≤ maxLen) (n2 : Int) (w : World) (htab : Sg.Tab w) :
    Calls Tryd.prog 3 #[.int .i64 n0, .string s1, .int .i64 n2] w fun e w' => e = .returned (.bool true) ∧ Below w.heap.size w w' := by
  by_cases hb : 1048576 < s1.size
  · have hb' : (1048576 : Int) < (s1.size : Int) := by omega
    go_enter Tryd.func3, Tryd.ntmps3
    go_wp2
    go_ret
    exact ⟨rfl, Below.refl _ _⟩
  · have hb' : ¬ (1048576 : Int) < (s1.size : Int) := by omega
    have C1 := hidIt (fun W => spec_SealOf n0 s1 n2 W (by omega))
    have C2 := hidIt (fun W t => impl_SealOf n0 s1 n2 W t (by omega))
    have HT := hidIt htab
    generalize sealR n0 s1 n2 = q at C1 C2
    obtain ⟨⟨K1, K2, U, R1, R2, T⟩, f⟩ := q
    simp only at C1 C2
    have CE := hidIt (fun W => eqSeal_same K1 K2 U R1 R2 T W)
    have hff : (f != f) = false := by simp
    clear htab
    go_enter Tryd.func3, Tryd.ntmps3
    go_wp2_with (fail)
    refine (C1.out _).mono ?_
    rintro e w1 ⟨rfl, k⟩
    have HB := hidIt (k.alloc k.size (.cells (sc K1 K2 U R1 R2 T) 27))
    have BA := hidIt (Box.new w1 (sc K1 K2 U R1 R2 T) 27)
    clear k
    go_wp2_with (fail)
    refine (C2.out _ (HT.out.kept HB.out)).mono ?_
    rintro e w2 ⟨rfl, k⟩
    replace HB := hidIt (HB.out.trans (k.mono HB.out.size))
    replace BA := hidIt (BA.out.kept k)
    clear k
    have kA := (Below.refl w2.heap.size w2).alloc (Nat.le_refl _) (.cells (sc K1 K2 U R1 R2 T) 27)
    replace HB := hidIt (HB.out.trans (kA.mono HB.out.size))
    replace BA := hidIt (BA.out.kept kA)
    clear kA
    generalize w1.heap.size = g1 at BA ⊢
    have c0 := BA.out.c 0 (v := .int .i64 K1) rfl
    have c1 := BA.out.c 1 (v := .int .i64 K2) rfl
    have c2 := BA.out.c 2 (v := .int .i64 U) rfl
    have c3 := BA.out.c 3 (v := .int .i64 R1) rfl
    have c4 := BA.out.c 4 (v := .int .i64 R2) rfl
    have c5 := BA.out.c 5 (v := .int .i64 T) rfl
    go_wp2_with (fail)
    refine (CE.out _).mono ?_
    rintro e w3 ⟨rfl, k⟩
    replace HB := hidIt (HB.out.trans (k.mono HB.out.size))
    clear k c0 c1 c2 c3 c4 c5 BA
    go_wp2_with (fail)
    go_ret
    exact ⟨rfl, HB.out⟩

theorem door_met (os : Os) (args : Array Value) : laidMetH Tryd.prog Rows.fnExactSealOfRow.laid ((World.doorLaid Tryd.prog 100 os).forCall (fun _ _ => 0) ⟨#[], args, []⟩).memory :=
  laidMetH_of_parts3 (fuel := 8) (laidMet_of_run' 8 (by kernel_rfl) (by kernel_rfl)) (by kernel_rfl) (by kernel_rfl)
set_option maxRecDepth 100000 in
theorem lifted (os : Os) (started : os.Started) (H : Type) (enc : TypeId × Value → H) :
    ReturnsInHanded {} Tryd.checked os 3 .any (fun w args => (Rows.fnExactSealOfSpec.pre enc Tryd.prog Tryd.f3 [] false w args ∧ laidMetH Tryd.prog Rows.fnExactSealOfRow.laid w) ∧ sizedMet enc Tryd.prog Tryd.f3 (OpenSpec.ofChange Rows.fnExactSealOfSpec) false w args) (Rows.fnExactSealOfSpec.post enc Tryd.prog Tryd.f3 false true false false) := by
  refine returnsInHanded_of_change_and (C := Tryd.checked) (X := fun w _ => laidMetH Tryd.prog Rows.fnExactSealOfRow.laid w) (fun _ _ _ hh h => h.of_heap hh) own started (by kernel_rfl) Tryd.func3
    (ChangeSpec.witness_shaped (enc := enc) (C := Tryd.checked) (os := os) (X := fun w _ => laidMetH Tryd.prog Rows.fnExactSealOfRow.laid w) false (World.doorLaid Tryd.prog 100 os) #[.int .i64 0, .string ByteArray.empty, .int .i64 0] 8 rfl (World.shaped_of_RefB (by kernel_rfl) (by kernel_rfl)) (by kernel_rfl) (by kernel_rfl) (by kernel_rfl) (door_met os _)) ?_
  intro W base args ds gs before hval0 hW _ _ hL _
  have hval : ∀ (j : Nat) t v, Tryd.f3.params[j]? = some t → args[j]? = some v → Value.okWide Tryd.prog W .any base t v := hval0
  have hW' := hW
  obtain ⟨p, q, hA0, hV, rfl, hfz, hnd⟩ := hW
  have hA : DataW.TrodAll enc Tryd.prog W 0 (fun _ => true) true Tryd.f3.params.toList args.toList ds p := hA0
  rw [Tryd.params3] at hA hval
  obtain ⟨v0, vs0, d0, ds0, p0, q0, hargs, rfl, rfl, h0, r0⟩ := trodAll_cons hA
  obtain ⟨v1, vs1, d1, ds1, p1, q1, rfl, rfl, rfl, h1, r1⟩ := trodAll_cons r0
  obtain ⟨v2, vs2, d2, ds2, p2, q2, rfl, rfl, rfl, h2, r2⟩ := trodAll_cons r1
  obtain ⟨rfl, rfl, rfl⟩ := trodAll_nil r2
  obtain rfl : args = #[v0, v1, v2] := by cases args; simp_all
  obtain ⟨rfl, rfl⟩ := trodVars_none hV
  have k0 := h0
  have lt0 : ∀ x ∈ p0, x.block < W.heap.size := by obtain ⟨m, hm⟩ := k0; exact DataW.trod_lt m _ _ _ hm
  have k1 := h1
  have lt1 : ∀ x ∈ p1, x.block < W.heap.size := by obtain ⟨m, hm⟩ := k1; exact DataW.trod_lt m _ _ _ hm
  have k2 := h2
  have lt2 : ∀ x ∈ p2, x.block < W.heap.size := by obtain ⟨m, hm⟩ := k2; exact DataW.trod_lt m _ _ _ hm
  obtain ⟨n0, rfl, rfl, rfl, wn0⟩ := open_int Tryd.underlying2 (hval 0 2 v0 rfl rfl) h0
  obtain ⟨s1, rfl, rfl, rfl, ws1⟩ := Go.ChangeMaps.open_string Tryd.underlying9 (hval 1 9 v1 rfl rfl) h1
  obtain ⟨n2, rfl, rfl, rfl, wn2⟩ := open_int Tryd.underlying2 (hval 2 2 v2 rfl rfl) h2
  clear hA0 hval0
  refine (walk n0 s1 ws1 n2 W (Sg.tab_of_laid hL)).mono fun e W' ⟨he, bel⟩ => ?_
  subst he
  exact ⟨_, rfl, _, _, _, [], _, [], hW', trodAll_mk1 (shut_bool Tryd.underlying4 _), (trodAll_cons_mk (Below.trod laidOut (by kernel_rfl) (of_decide_eq_true (by kernel_rfl)) k0 bel lt0) (trodAll_cons_mk (Below.trod laidOut (by kernel_rfl) (of_decide_eq_true (by kernel_rfl)) k1 bel lt1) (trodAll_cons_mk (Below.trod laidOut (by kernel_rfl) (of_decide_eq_true (by kernel_rfl)) k2 bel lt2) trodAll_mk0))), rfl, bel.frame _, fun h => by cases h⟩

theorem over : Rows.fnExactSealOfRow.holds Tryd.pinned (OpenSpec.ofChange Rows.fnExactSealOfSpec) :=
  OpenClaim.holds_of_wide 3 Tryd.f3 rfl rfl rfl rfl rfl rfl rfl ⟨rfl, rfl, rfl, rfl, rfl⟩ rfl rfl rfl rfl rfl (by kernel_rfl) Tryd.func3 (by kernel_rfl)
    (of_decide_eq_true (by kernel_rfl)) (by unfold Func.isWrapper; first | (rw [if_pos (by decide +kernel)]; kernel_rfl) | (rw [if_neg (by decide +kernel)]; exact ⟨rfl, rfl⟩))
    (fun os started H enc _ => lifted os started H enc)
theorem card : Rows.FnExactSealOfCardSaid :=
  Claim7.holds_tied_plain_at .later [] [.data, .data, .data] true (true, "1870000d0ade541ca2dc23333e8f72b353b16fa3e0e59de54917b446bf30625c") false
    over (fun _ h => by cases h) (by kernel_rfl) (fun _ h => by cases h) fnExactSealOf_row_tie rfl ⟨rfl, rfl⟩ (by kernel_rfl) rfl
    (fun f fn hf hfn => by
      obtain rfl : f = 3 := Option.some.inj ((show Tryd.prog.funcNamed "loop.example/g00307/laws.FnExactSealOf" = some 3 by kernel_rfl).symm.trans hf) |>.symm
      obtain rfl : fn = Tryd.f3 := (Option.some.inj (Tryd.func3.symm.trans hfn)).symm
      exact ⟨by kernel_rfl, fun j t ht => by
        rw [Tryd.params3] at ht
        have hm : t ∈ [2, 9, 2] := by simpa using Array.mem_of_getElem? ht
        have hall : ([2, 9, 2].all fun u => !Tryd.prog.wantsStandIn u) = true := by kernel_rfl
        exact (show Tryd.prog.wantsStandIn t = false by simpa using List.all_eq_true.1 hall t hm)⟩)
    (by kernel_rfl)
end Go.Proofs.YtniadgjckjnfiaaDoor.fnExactSealOf
namespace Go.Proofs.YtniadgjckjnfiaaDoor
theorem fnExactSealOf_holds : Rows.FnExactSealOfCardSaid := fnExactSealOf.card
#print axioms fnExactSealOf_holds
end Go.Proofs.YtniadgjckjnfiaaDoor
