/-
  FnExactComplete answers true at every Cluster and leaves it as it was: Complete of the program answers as the specification's and writes into no argument. No condition but that the library's table of powers of ten is laid as its text says (the card ties it).
-/
import Derived.Test.YtceddedlfdgbhaaGreatDoorRows
import Derived.WalkKit
import Derived.ProofKit
import Derived.OpenShut
import Derived.ShutString
import Derived.ChangeOld
import Derived.Below
import Derived.Lib.SmallJoins
import Derived.Test.YtceddedlfdgbhaaGreatDoorDoorMet
import Derived.Test.YtceddedlfdgbhaaGreatDoorTie
import Derived.Test.YtceddedlfdgbhaaGreatDoorCards
import Derived.LaidMore
import Derived.Stop.Joined
import Derived.SevenTiedAt
import Derived.Test.YtceddedlfdgbhaaGreatDoorBun14
import Derived.Test.YtceddedlfdgbhaaGreatDoorBun15
import Derived.Test.YtceddedlfdgbhaaGreatDoorBun19
import Derived.Test.YtceddedlfdgbhaaGreatDoorBun10
namespace Go.Proofs.YtceddedlfdgbhaaGreatDoor.fnExactComplete
open Go.ChangeShapes Go.WideShapes Go.ChangeAt Go.RowKit Go.Joins
set_option linter.unusedVariables false

theorem own : ownKnob Tryz.prog.godebug = none := by kernel_rfl
theorem laidOut : laidOutB Tryz.prog = true := by kernel_rfl
open Go.Proofs.YtceddedlfdgbhaaGreatDoor.Vv (Sl sv hidIt)
open Go.Proofs.YtceddedlfdgbhaaGreatDoor.Rg (upd waits wp_region_inv op_at)
structure RQ (X : Kc.Cw) (vx vn : Value) (w0 : World) (L : Nat → Bool) (u22 u23 u24 u25 u26 : Value) (W : World) : Prop where
  low : Below w0.heap.size w0 W
  k0 : L 0 = true → u22 = vx
  k1 : L 1 = true → u23 = vn
  k2 : L 2 = true → ∃ n k, u24 = Kc.kv X n k ∧ Kc.RdK W X n k
  k3 : L 3 = true → u25 = .bool true
  k4 : L 4 = true → u26 = .bool false
def KQ (X : Kc.Cw) (vx vn : Value) (w0 : World) (y0 y1 y2 y3 y4 y5 y6 y7 y8 y9 y10 y11 y12 y13 y14 y15 y16 y17 y18 y19 y20 y21 : Value) (L : Nat → Bool) (a : Act) (W : World) : Prop := ∃ u22 u23 u24 u25 u26 : Value, a = ⟨(y0 :: y1 :: y2 :: y3 :: y4 :: y5 :: y6 :: y7 :: y8 :: y9 :: y10 :: y11 :: y12 :: y13 :: y14 :: y15 :: y16 :: y17 :: y18 :: y19 :: y20 :: y21 :: u22 :: u23 :: u24 :: u25 :: u26 :: []).toArray, []⟩ ∧ RQ X vx vn w0 L u22 u23 u24 u25 u26 W
theorem RQ.kept {X : Kc.Cw} {vx vn : Value} {w0 : World} {L : Nat → Bool} {u22 u23 u24 u25 u26 : Value} {W W' : World} (R : RQ X vx vn w0 L u22 u23 u24 u25 u26 W) (k : Below W.heap.size W W') : RQ X vx vn w0 L u22 u23 u24 u25 u26 W' :=
  ⟨R.low.trans (k.mono R.low.size), R.k0, R.k1, (fun q => by obtain ⟨n, m, h1, h2⟩ := R.k2 q; exact ⟨n, m, h1, h2.kept k⟩), R.k3, R.k4⟩
set_option maxRecDepth 100000 in
set_option maxHeartbeats 16000000 in

theorem walk (x0 : Kc.Cw) (xn0 xk0 : Vv.Sl) (w : World) (w0 : Kc.In w x0 xn0 xk0) (htab : Sg.Tab w) :
    Calls Tryz.prog 3 #[Kc.kv x0 xn0 xk0] w fun e w' => e = .returned (.bool true) ∧ Below w.heap.size w w' := by
  have HR := hidIt w0.rd
  have hsN := w0.short
  clear w0
  obtain ⟨no, ns, ck⟩ := x0
  obtain ⟨n0, n1, n2⟩ := xn0
  obtain ⟨k0, k1, k2⟩ := xk0
  have CZ := hidIt (fun W (r : Kc.RdK W ⟨no, ns, ck⟩ (n0, n1, n2) (k0, k1, k2)) => Kc.sz_any ⟨no, ns, ck⟩ (n0, n1, n2) (k0, k1, k2) 1048576 W r hsN (by decide) (by decide))
  have CT := hidIt (fun W (r : Kc.RdK W ⟨no, ns, ck⟩ (n0, n1, n2) (k0, k1, k2)) hm => Kc.to_any ⟨no, ns, ck⟩ (n0, n1, n2) (k0, k1, k2) W r hm)
  have CS := hidIt (fun W n k (r : Kc.RdK W ⟨no, ns, ck⟩ n k) => Kc.spec_Complete ⟨no, ns, ck⟩ n k W r hsN)
  have CI := hidIt (fun W n k (r : Kc.RdK W ⟨no, ns, ck⟩ n k) t => Kc.impl_Complete ⟨no, ns, ck⟩ n k W r hsN t)
  have CE := hidIt (fun W n k n' k' (r : Kc.RdK W ⟨no, ns, ck⟩ n k) (r' : Kc.RdK W ⟨no, ns, ck⟩ n' k') hl => Kc.eq_same ⟨no, ns, ck⟩ n k n' k' W r r' hl)
  have HT := hidIt htab
  generalize Kc.okK ⟨no, ns, ck⟩ = pv at CS CI
  have hpp : (pv != pv) = false := by cases pv <;> rfl
  simp only [Kc.kv, Kc.kc, sv] at CZ CT CS CI CE ⊢
  clear hsN htab
  have BX := hidIt (Bo.Box.new w #[.int .i64 no, .slice n0 n1 n2, .slice k0 k1 k2] 25)
  have HB := hidIt ((Below.refl w.heap.size w).alloc (Nat.le_refl _) (.cells #[.int .i64 no, .slice n0 n1 n2, .slice k0 k1 k2] 25))
  have c0 := BX.out.c 0 (v := .int .i64 no) rfl
  have c1 := BX.out.c 1 (v := .slice n0 n1 n2) rfl
  have c2 := BX.out.c 2 (v := .slice k0 k1 k2) rfl
  go_enter Tryz.func3, Tryz.ntmps3
  go_wp2_with (fail)
  refine (CZ.out _ (HR.out.kept HB.out)).mono ?_
  rintro en w1 ⟨q, rfl, hq, k⟩
  replace HB := hidIt (HB.out.trans (k.mono HB.out.size))
  replace BX := hidIt (BX.out.kept k)
  have HQ := hidIt hq
  clear k hq c0 c1 c2 CZ
  by_cases hneg : q < 0
  · go_wp2_with (fail)
    go_ret
    exact ⟨rfl, HB.out⟩
  have HSM := hidIt (HQ.out.sm (by omega))
  clear HQ
  have c0 := BX.out.c 0 (v := .int .i64 no) rfl
  have c1 := BX.out.c 1 (v := .slice n0 n1 n2) rfl
  have c2 := BX.out.c 2 (v := .slice k0 k1 k2) rfl
  go_wp2_with (fail)
  refine (CT.out _ (HR.out.kept HB.out) HSM.out).mono ?_
  intro en w2 hz
  obtain ⟨⟨xa0, xa1, xa2⟩, ⟨ya0, ya1, ya2⟩, rfl, hO, k⟩ := hz.out
  replace HB := hidIt (HB.out.trans (k.mono HB.out.size))
  replace BX := hidIt (BX.out.kept k)
  have HR2 := hidIt hO.rd
  clear k hz hO c0 c1 c2
  simp only [Kc.kv, Kc.kc, sv]
  go_wp2_with (fail)
  refine (CS.out _ _ _ HR2.out).mono ?_
  rintro en w3 ⟨rfl, k⟩
  replace HB := hidIt (HB.out.trans (k.mono HB.out.size))
  replace BX := hidIt (BX.out.kept k)
  clear k HR2
  have c0 := BX.out.c 0 (v := .int .i64 no) rfl
  have c1 := BX.out.c 1 (v := .slice n0 n1 n2) rfl
  have c2 := BX.out.c 2 (v := .slice k0 k1 k2) rfl
  go_wp2_with (fail)
  refine (CT.out _ (HR.out.kept HB.out) HSM.out).mono ?_
  intro en w4 hz
  obtain ⟨⟨x0, x1, x2⟩, ⟨y0, y1, y2⟩, rfl, hO, k⟩ := hz.out
  replace HB := hidIt (HB.out.trans (k.mono HB.out.size))
  replace BX := hidIt (BX.out.kept k)
  have HR4 := hidIt hO.rd
  clear k hz hO c0 c1 c2
  simp only [Kc.kv, Kc.kc, sv]
  have BY := hidIt (Bo.Box.new w4 #[.int .i64 no, .slice x0 x1 x2, .slice y0 y1 y2] 30)
  have kA := (Below.refl w4.heap.size w4).alloc (Nat.le_refl _) (.cells #[.int .i64 no, .slice x0 x1 x2, .slice y0 y1 y2] 30)
  replace HB := hidIt (HB.out.trans (kA.mono HB.out.size))
  replace BX := hidIt (BX.out.kept kA)
  replace HR4 := hidIt (HR4.out.kept kA)
  clear kA
  have d0 := BY.out.c 0 (v := .int .i64 no) rfl
  have d1 := BY.out.c 1 (v := .slice x0 x1 x2) rfl
  have d2 := BY.out.c 2 (v := .slice y0 y1 y2) rfl
  go_wp2_with (fail)
  refine (CI.out _ _ _ HR4.out (HT.out.kept HB.out)).mono ?_
  rintro en w5 ⟨rfl, k⟩
  replace HB := hidIt (HB.out.trans (k.mono HB.out.size))
  replace BX := hidIt (BX.out.kept k)
  replace BY := hidIt (BY.out.kept k)
  replace HR4 := hidIt (HR4.out.kept k)
  clear k CS CI d0 d1 d2
  generalize w4.heap.size = g4 at BY ⊢
  have BXw := hidIt (fun W (kb : Below w5.drew.heap.size w5.drew W) => BX.out.drew.kept kb)
  have BYw := hidIt (fun W (kb : Below w5.drew.heap.size w5.drew W) => BY.out.drew.kept kb)
  have HRw := hidIt (fun W (kb : Below w5.drew.heap.size w5.drew W) => HR.out.kept (HB.out.drew.trans (kb.mono HB.out.drew.size)))
  have HXw := hidIt (fun W (kb : Below w5.drew.heap.size w5.drew W) => Kc.RdK.kept (w := w5.drew) (HR4.out.kept (Below.refl _ w5).drew) kb)
  go_wp2_with (fail)
  refine wp_region_inv (by kernel_rfl) (by kernel_rfl) (KQ ⟨no, ns, ck⟩ (.agg #[.int .i64 no, .slice x0 x1 x2, .slice y0 y1 y2]) (.agg #[.int .i64 no, .slice n0 n1 n2, .slice k0 k1 k2]) w5.drew _ _ _ _ _ _ _ _ _ _ _ _ _ _ _ _ _ _ _ _ _ _) ⟨_, _, _, _, _, ⟨rfl, ⟨Below.refl _ _, (fun q => by cases q), (fun q => by cases q), (fun q => by cases q), (fun q => by cases q), (fun q => by cases q)⟩⟩⟩ ?_ ?_
  case refine_1 =>
    intro Lb a' W j hj hI hL hD
    have hcases : j = 0 ∨ j = 1 ∨ j = 2 ∨ j = 3 ∨ j = 4 := by simp at hj; omega
    clear hj
    obtain ⟨u22, u23, u24, u25, u26, rfl, R⟩ := hI
    have kb := R.low
    rcases hcases with rfl | rfl | rfl | rfl | rfl
    · skip
      have bx := BYw.out W kb
      have d0 := bx.c 0 (v := .int .i64 no) rfl
      have d1 := bx.c 1 (v := .slice x0 x1 x2) rfl
      have d2 := bx.c 2 (v := .slice y0 y1 y2) rfl
      refine op_at rfl (fun K hK => ?_)
      go_simp
      refine hK _ _ ?_
      exact ⟨_, _, _, _, _, rfl, ⟨R.low, (fun _ => rfl), R.k1, R.k2, R.k3, R.k4⟩⟩
    · skip
      have bx := BXw.out W kb
      have d0 := bx.c 0 (v := .int .i64 no) rfl
      have d1 := bx.c 1 (v := .slice n0 n1 n2) rfl
      have d2 := bx.c 2 (v := .slice k0 k1 k2) rfl
      refine op_at rfl (fun K hK => ?_)
      go_simp
      refine hK _ _ ?_
      exact ⟨_, _, _, _, _, rfl, ⟨R.low, R.k0, (fun _ => rfl), R.k2, R.k3, R.k4⟩⟩
    · skip
      have e1 := R.k1 (hD 1 (by kernel_rfl))
      subst e1
      refine op_at rfl (fun K hK => ?_)
      go_simp
      refine (CT.out W (HRw.out W kb) HSM.out).mono ?_
      intro en W1 hz
      obtain ⟨f1, f2, rfl, hO, k1⟩ := hz.out
      have R := R.kept k1
      clear kb
      go_simp
      refine hK _ _ ?_
      exact ⟨_, _, _, _, _, rfl, ⟨R.low, R.k0, R.k1, (fun _ => ⟨f1, f2, rfl, hO.rd⟩), R.k3, R.k4⟩⟩
    · skip
      have e0 := R.k0 (hD 0 (by kernel_rfl))
      subst e0
      obtain ⟨f1, f2, e2, r2⟩ := R.k2 (hD 2 (by kernel_rfl))
      subst e2
      refine op_at rfl (fun K hK => ?_)
      obtain ⟨f10, f11, f12⟩ := f1
      obtain ⟨f20, f21, f22⟩ := f2
      simp only [Kc.kv, Kc.kc, sv]
      go_simp
      refine (CE.out W _ _ _ _ (HXw.out W kb) r2 HSM.out).mono ?_
      rintro en W1 ⟨rfl, k1⟩
      have R := R.kept k1
      clear kb
      go_simp
      refine hK _ _ ?_
      exact ⟨_, _, _, _, _, rfl, ⟨R.low, R.k0, R.k1, R.k2, (fun _ => rfl), R.k4⟩⟩
    · skip
      have e3 := R.k3 (hD 3 (by kernel_rfl))
      subst e3
      refine op_at rfl (fun K hK => ?_)
      go_simp
      refine hK _ _ ?_
      exact ⟨_, _, _, _, _, rfl, ⟨R.low, R.k0, R.k1, R.k2, R.k3, (fun _ => rfl)⟩⟩
  case refine_2 =>
    intro Lb a' W hI hall
    obtain ⟨u22, u23, u24, u25, u26, rfl, R⟩ := hI
    have e4 := R.k4 (hall 4)
    subst e4
    have HBW := hidIt (HB.out.drew.trans (R.low.mono HB.out.drew.size))
    clear R hall
    go_wp2_with (fail)
    go_ret
    exact ⟨rfl, HBW.out⟩

theorem door_met (os : Os) (args : Array Value) : laidMetH Tryz.prog Rows.fnExactCompleteRow.laid ((World.doorLaid Tryz.prog 24 os).forCall (fun _ _ => 0) ⟨#[], args, []⟩).memory :=
  laidMetH_of_parts3 (fuel := 8) (laidMet_of_run' 8 (by kernel_rfl) (by kernel_rfl)) (by kernel_rfl) (by kernel_rfl)
set_option maxRecDepth 100000 in
theorem lifted (os : Os) (started : os.Started) (H : Type) (enc : TypeId × Value → H) :
    ReturnsInHanded {} Tryz.checked os 3 .any (fun w args => (Rows.fnExactCompleteSpec.pre enc Tryz.prog Tryz.f3 [] false w args ∧ laidMetH Tryz.prog Rows.fnExactCompleteRow.laid w) ∧ sizedMet enc Tryz.prog Tryz.f3 (OpenSpec.ofChange Rows.fnExactCompleteSpec) false w args) (Rows.fnExactCompleteSpec.post enc Tryz.prog Tryz.f3 false true false false) := by
  refine returnsInHanded_of_change_and (C := Tryz.checked) (X := fun w _ => laidMetH Tryz.prog Rows.fnExactCompleteRow.laid w) (fun _ _ _ hh h => h.of_heap hh) own started (by kernel_rfl) Tryz.func3
    (ChangeSpec.witness_shaped (enc := enc) (C := Tryz.checked) (os := os) (X := fun w _ => laidMetH Tryz.prog Rows.fnExactCompleteRow.laid w) false (World.doorLaid Tryz.prog 24 os) #[.agg #[.int .i64 0, .slice none 0 0, .slice none 0 0]] 8 rfl (World.shaped_of_RefB (by kernel_rfl) (by kernel_rfl)) (by kernel_rfl) (by kernel_rfl) (by kernel_rfl) (door_met os _)) ?_
  intro W base args ds gs before hval0 hW _ _ hL _
  have hval : ∀ (j : Nat) t v, Tryz.f3.params[j]? = some t → args[j]? = some v → Value.okWide Tryz.prog W .any base t v := hval0
  have hW' := hW
  obtain ⟨p, q, hA0, hV, rfl, hfz, hnd⟩ := hW
  have hA : DataW.TrodAll enc Tryz.prog W 0 (fun _ => true) true Tryz.f3.params.toList args.toList ds p := hA0
  rw [Tryz.params3] at hA hval
  obtain ⟨v0, vs0, d0, ds0, p0, q0, hargs, rfl, rfl, h0, r0⟩ := trodAll_cons hA
  obtain ⟨rfl, rfl, rfl⟩ := trodAll_nil r0
  obtain rfl : args = #[v0] := by cases args; simp_all
  obtain ⟨rfl, rfl⟩ := trodVars_none hV
  have k0 := h0
  have lt0 : ∀ x ∈ p0, x.block < W.heap.size := by obtain ⟨m, hm⟩ := k0; exact DataW.trod_lt m _ _ _ hm
  obtain ⟨x0, xn0, xk0, rfl, w0⟩ := Kc.open_cluster (hval 0 25 v0 rfl rfl) h0
  clear hA0 hval0
  refine (walk x0 xn0 xk0 W w0 (Sg.tab_of_laid hL)).mono fun e W' ⟨he, bel⟩ => ?_
  subst he
  exact ⟨_, rfl, _, _, _, [], _, [], hW', trodAll_mk1 (shut_bool Tryz.underlying4 _), (trodAll_cons_mk (Below.trod laidOut (by kernel_rfl) (of_decide_eq_true (by kernel_rfl)) k0 bel lt0) trodAll_mk0), rfl, bel.frame _, fun h => by cases h⟩

theorem over : Rows.fnExactCompleteRow.holds Tryz.pinned (OpenSpec.ofChange Rows.fnExactCompleteSpec) :=
  OpenClaim.holds_of_wide 3 Tryz.f3 rfl rfl rfl rfl rfl rfl rfl ⟨rfl, rfl, rfl, rfl, rfl⟩ rfl rfl rfl rfl rfl (by kernel_rfl) Tryz.func3 (by kernel_rfl)
    (of_decide_eq_true (by kernel_rfl)) (by unfold Func.isWrapper; first | (rw [if_pos (by decide +kernel)]; kernel_rfl) | (rw [if_neg (by decide +kernel)]; exact ⟨rfl, rfl⟩))
    (fun os started H enc _ => lifted os started H enc)
theorem card : Rows.FnExactCompleteCardSaid :=
  Claim7.holds_tied_plain_at .later [] [.data, .data, .data] true (true, "54b971537c9b3097492e932a22f5adc89328464287542065600df957ceed1da7") true
    over (fun _ h => by cases h) (by kernel_rfl) (fun _ h => by cases h) fnExactComplete_row_tie rfl ⟨rfl, rfl⟩ (by kernel_rfl) rfl
    (fun f fn hf hfn => by
      obtain rfl : f = 3 := Option.some.inj ((show Tryz.prog.funcNamed "loop.example/g00307/laws.FnExactComplete" = some 3 by kernel_rfl).symm.trans hf) |>.symm
      obtain rfl : fn = Tryz.f3 := (Option.some.inj (Tryz.func3.symm.trans hfn)).symm
      exact ⟨by kernel_rfl, fun j t ht => by
        rw [Tryz.params3] at ht
        have hm : t ∈ [25] := by simpa using Array.mem_of_getElem? ht
        have hall : ([25].all fun u => !Tryz.prog.wantsStandIn u) = true := by kernel_rfl
        exact (show Tryz.prog.wantsStandIn t = false by simpa using List.all_eq_true.1 hall t hm)⟩)
    (by kernel_rfl)
end Go.Proofs.YtceddedlfdgbhaaGreatDoor.fnExactComplete
namespace Go.Proofs.YtceddedlfdgbhaaGreatDoor
theorem fnExactComplete_holds : Rows.FnExactCompleteCardSaid := fnExactComplete.card
#print axioms fnExactComplete_holds
end Go.Proofs.YtceddedlfdgbhaaGreatDoor
