/-
  FnExactNodeOk answers true at every Node and leaves it as it was: NodeOk of the program answers as the specification's and writes into no argument. No condition but that the library's table of powers of ten is laid as its text says (the card ties it).
-/
import Derived.Test.YtllajhieocploaaGreatDoorRows
import Derived.WalkKit
import Derived.ProofKit
import Derived.OpenShut
import Derived.ShutString
import Derived.ChangeOld
import Derived.Below
import Derived.Lib.SmallJoins
import Derived.Test.YtllajhieocploaaGreatDoorDoorMet
import Derived.Test.YtllajhieocploaaGreatDoorTie
import Derived.Test.YtllajhieocploaaGreatDoorCards
import Derived.LaidMore
import Derived.Stop.Joined
import Derived.SevenTiedAt
import Derived.Test.YtllajhieocploaaGreatDoorBun5
import Derived.Test.YtllajhieocploaaGreatDoorBun6
namespace Go.Proofs.YtllajhieocploaaGreatDoor.fnExactNodeOk
open Go.ChangeShapes Go.WideShapes Go.ChangeAt Go.RowKit Go.Joins
set_option linter.unusedVariables false

theorem own : ownKnob Tryz.prog.godebug = none := by kernel_rfl
theorem laidOut : laidOutB Tryz.prog = true := by kernel_rfl
open Go.Proofs.YtllajhieocploaaGreatDoor.Vv (Sl sv hidIt)
set_option maxRecDepth 100000 in
set_option maxHeartbeats 16000000 in

theorem walk (x0 : Nd.Nw) (xe0 xm0 xb0 xg0 : Vv.Sl) (w : World) (w0 : Nd.In w x0 xe0 xm0 xb0 xg0) (htab : Sg.Tab w) :
    Calls Tryz.prog 3 #[Nd.nv x0 xe0 xm0 xb0 xg0] w fun e w' => e = .returned (.bool true) ∧ Below w.heap.size w w' := by
  have hlg : x0.log.length ≤ 9223372036854775806 ∨ ¬ x0.log.length ≤ 9223372036854775806 := by omega
  have HR := hidIt w0.rd
  have hsN := w0.short
  clear w0
  obtain ⟨bk, mm, ph, mn, ol, nw, tm, bu, lg, ap⟩ := x0
  obtain ⟨e0, e1, e2⟩ := xe0
  obtain ⟨t0, t1, t2⟩ := xm0
  obtain ⟨b0, b1, b2⟩ := xb0
  obtain ⟨g0, g1, g2⟩ := xg0
  have CZ := hidIt (fun W (r : Nd.RdN W ⟨bk, mm, ph, mn, ol, nw, tm, bu, lg, ap⟩ (e0, e1, e2) (t0, t1, t2) (b0, b1, b2) (g0, g1, g2)) => Nd.sz_any ⟨bk, mm, ph, mn, ol, nw, tm, bu, lg, ap⟩ (e0, e1, e2) (t0, t1, t2) (b0, b1, b2) (g0, g1, g2) 1048576 W r hsN (by decide) (by decide))
  have CT := hidIt (fun W (r : Nd.RdN W ⟨bk, mm, ph, mn, ol, nw, tm, bu, lg, ap⟩ (e0, e1, e2) (t0, t1, t2) (b0, b1, b2) (g0, g1, g2)) hm => Nd.to_any ⟨bk, mm, ph, mn, ol, nw, tm, bu, lg, ap⟩ (e0, e1, e2) (t0, t1, t2) (b0, b1, b2) (g0, g1, g2) W r hm)
  have CS := hidIt (fun W e m b g (r : Nd.RdN W ⟨bk, mm, ph, mn, ol, nw, tm, bu, lg, ap⟩ e m b g) => Nd.spec_NodeOk ⟨bk, mm, ph, mn, ol, nw, tm, bu, lg, ap⟩ e m b g W r hsN)
  have CI := hidIt (fun W e m b g (r : Nd.RdN W ⟨bk, mm, ph, mn, ol, nw, tm, bu, lg, ap⟩ e m b g) t => Nd.impl_NodeOk ⟨bk, mm, ph, mn, ol, nw, tm, bu, lg, ap⟩ e m b g W r hsN t)
  have CE := hidIt (fun W e m b g e' m' b' g' (r : Nd.RdN W ⟨bk, mm, ph, mn, ol, nw, tm, bu, lg, ap⟩ e m b g) (r' : Nd.RdN W ⟨bk, mm, ph, mn, ol, nw, tm, bu, lg, ap⟩ e' m' b' g') hl => Nd.eq_same ⟨bk, mm, ph, mn, ol, nw, tm, bu, lg, ap⟩ e m b g e' m' b' g' W r r' hl)
  have HT := hidIt htab
  generalize Nd.okN ⟨bk, mm, ph, mn, ol, nw, tm, bu, lg, ap⟩ = pv at CS CI
  have hpp : (pv != pv) = false := by cases pv <;> rfl
  simp only [Nd.nv, Nd.nc, sv] at CZ CT CS CI CE ⊢
  clear hsN htab hlg
  have BX := hidIt (Bo.Box.new w #[.slice e0 e1 e2, .slice t0 t1 t2, .int .i64 ph, .int .i64 mn, .int .i64 ol, .int .i64 nw, .int .i64 tm, .slice b0 b1 b2, .slice g0 g1 g2, .string ap] 31)
  have HB := hidIt ((Below.refl w.heap.size w).alloc (Nat.le_refl _) (.cells #[.slice e0 e1 e2, .slice t0 t1 t2, .int .i64 ph, .int .i64 mn, .int .i64 ol, .int .i64 nw, .int .i64 tm, .slice b0 b1 b2, .slice g0 g1 g2, .string ap] 31))
  have c0 := BX.out.c 0 (v := .slice e0 e1 e2) rfl
  have c1 := BX.out.c 1 (v := .slice t0 t1 t2) rfl
  have c2 := BX.out.c 2 (v := .int .i64 ph) rfl
  have c3 := BX.out.c 3 (v := .int .i64 mn) rfl
  have c4 := BX.out.c 4 (v := .int .i64 ol) rfl
  have c5 := BX.out.c 5 (v := .int .i64 nw) rfl
  have c6 := BX.out.c 6 (v := .int .i64 tm) rfl
  have c7 := BX.out.c 7 (v := .slice b0 b1 b2) rfl
  have c8 := BX.out.c 8 (v := .slice g0 g1 g2) rfl
  have c9 := BX.out.c 9 (v := .string ap) rfl
  go_enter Tryz.func3, Tryz.ntmps3
  go_wp2_with (fail)
  refine (CZ.out _ (HR.out.kept HB.out)).mono ?_
  rintro en w1 ⟨q, rfl, hq, k⟩
  replace HB := hidIt (HB.out.trans (k.mono HB.out.size))
  replace BX := hidIt (BX.out.kept k)
  have HQ := hidIt hq
  clear k hq c0 c1 c2 c3 c4 c5 c6 c7 c8 c9 CZ
  by_cases hneg : q < 0
  · go_wp2_with (fail)
    go_ret
    exact ⟨rfl, HB.out⟩
  have HSM := hidIt (HQ.out.sm (by omega))
  have HLG : Hid (lg.length ≤ 9223372036854775806) := hidIt (by have := HSM.out.g; simp only at this; omega)
  have c0 := BX.out.c 0 (v := .slice e0 e1 e2) rfl
  have c1 := BX.out.c 1 (v := .slice t0 t1 t2) rfl
  have c2 := BX.out.c 2 (v := .int .i64 ph) rfl
  have c3 := BX.out.c 3 (v := .int .i64 mn) rfl
  have c4 := BX.out.c 4 (v := .int .i64 ol) rfl
  have c5 := BX.out.c 5 (v := .int .i64 nw) rfl
  have c6 := BX.out.c 6 (v := .int .i64 tm) rfl
  have c7 := BX.out.c 7 (v := .slice b0 b1 b2) rfl
  have c8 := BX.out.c 8 (v := .slice g0 g1 g2) rfl
  have c9 := BX.out.c 9 (v := .string ap) rfl
  go_wp2_with (fail)
  refine (CT.out _ (HR.out.kept HB.out) HSM.out).mono ?_
  intro en w2 hz
  obtain ⟨⟨xa0, xa1, xa2⟩, ⟨ya0, ya1, ya2⟩, ⟨ua0, ua1, ua2⟩, ⟨va0, va1, va2⟩, rfl, hO, k⟩ := hz.out
  replace HB := hidIt (HB.out.trans (k.mono HB.out.size))
  replace BX := hidIt (BX.out.kept k)
  have HR2 := hidIt hO.rd
  clear k hz hO c0 c1 c2 c3 c4 c5 c6 c7 c8 c9
  go_wp2_with (fail)
  refine (CS.out _ _ _ _ _ HR2.out).mono ?_
  rintro en w3 ⟨rfl, k⟩
  replace HB := hidIt (HB.out.trans (k.mono HB.out.size))
  replace BX := hidIt (BX.out.kept k)
  clear k HR2
  have c0 := BX.out.c 0 (v := .slice e0 e1 e2) rfl
  have c1 := BX.out.c 1 (v := .slice t0 t1 t2) rfl
  have c2 := BX.out.c 2 (v := .int .i64 ph) rfl
  have c3 := BX.out.c 3 (v := .int .i64 mn) rfl
  have c4 := BX.out.c 4 (v := .int .i64 ol) rfl
  have c5 := BX.out.c 5 (v := .int .i64 nw) rfl
  have c6 := BX.out.c 6 (v := .int .i64 tm) rfl
  have c7 := BX.out.c 7 (v := .slice b0 b1 b2) rfl
  have c8 := BX.out.c 8 (v := .slice g0 g1 g2) rfl
  have c9 := BX.out.c 9 (v := .string ap) rfl
  go_wp2_with (fail)
  refine (CT.out _ (HR.out.kept HB.out) HSM.out).mono ?_
  intro en w4 hz
  obtain ⟨⟨x0, x1, x2⟩, ⟨y0, y1, y2⟩, ⟨u0, u1, u2⟩, ⟨v0, v1, v2⟩, rfl, hO, k⟩ := hz.out
  replace HB := hidIt (HB.out.trans (k.mono HB.out.size))
  replace BX := hidIt (BX.out.kept k)
  have HR4 := hidIt hO.rd
  clear k hz hO c0 c1 c2 c3 c4 c5 c6 c7 c8 c9
  simp only [Nd.nv, Nd.nc, sv]
  have BY := hidIt (Bo.Box.new w4 #[.slice x0 x1 x2, .slice y0 y1 y2, .int .i64 ph, .int .i64 mn, .int .i64 ol, .int .i64 nw, .int .i64 tm, .slice u0 u1 u2, .slice v0 v1 v2, .string ap] 42)
  have kA := (Below.refl w4.heap.size w4).alloc (Nat.le_refl _) (.cells #[.slice x0 x1 x2, .slice y0 y1 y2, .int .i64 ph, .int .i64 mn, .int .i64 ol, .int .i64 nw, .int .i64 tm, .slice u0 u1 u2, .slice v0 v1 v2, .string ap] 42)
  replace HB := hidIt (HB.out.trans (kA.mono HB.out.size))
  replace BX := hidIt (BX.out.kept kA)
  replace HR4 := hidIt (HR4.out.kept kA)
  clear kA
  have d0 := BY.out.c 0 (v := .slice x0 x1 x2) rfl
  have d1 := BY.out.c 1 (v := .slice y0 y1 y2) rfl
  have d2 := BY.out.c 2 (v := .int .i64 ph) rfl
  have d3 := BY.out.c 3 (v := .int .i64 mn) rfl
  have d4 := BY.out.c 4 (v := .int .i64 ol) rfl
  have d5 := BY.out.c 5 (v := .int .i64 nw) rfl
  have d6 := BY.out.c 6 (v := .int .i64 tm) rfl
  have d7 := BY.out.c 7 (v := .slice u0 u1 u2) rfl
  have d8 := BY.out.c 8 (v := .slice v0 v1 v2) rfl
  have d9 := BY.out.c 9 (v := .string ap) rfl
  go_wp2_with (fail)
  refine (CI.out _ _ _ _ _ HR4.out (HT.out.kept HB.out)).mono ?_
  rintro en w5 ⟨rfl, k⟩
  replace HB := hidIt (HB.out.trans (k.mono HB.out.size))
  replace BX := hidIt (BX.out.kept k)
  replace BY := hidIt (BY.out.kept k)
  replace HR4 := hidIt (HR4.out.kept k)
  clear k CS CI d0 d1 d2 d3 d4 d5 d6 d7 d8 d9
  generalize w4.heap.size = g4 at BY ⊢
  have c0 := BX.out.c 0 (v := .slice e0 e1 e2) rfl
  have c1 := BX.out.c 1 (v := .slice t0 t1 t2) rfl
  have c2 := BX.out.c 2 (v := .int .i64 ph) rfl
  have c3 := BX.out.c 3 (v := .int .i64 mn) rfl
  have c4 := BX.out.c 4 (v := .int .i64 ol) rfl
  have c5 := BX.out.c 5 (v := .int .i64 nw) rfl
  have c6 := BX.out.c 6 (v := .int .i64 tm) rfl
  have c7 := BX.out.c 7 (v := .slice b0 b1 b2) rfl
  have c8 := BX.out.c 8 (v := .slice g0 g1 g2) rfl
  have c9 := BX.out.c 9 (v := .string ap) rfl
  have d0 := BY.out.c 0 (v := .slice x0 x1 x2) rfl
  have d1 := BY.out.c 1 (v := .slice y0 y1 y2) rfl
  have d2 := BY.out.c 2 (v := .int .i64 ph) rfl
  have d3 := BY.out.c 3 (v := .int .i64 mn) rfl
  have d4 := BY.out.c 4 (v := .int .i64 ol) rfl
  have d5 := BY.out.c 5 (v := .int .i64 nw) rfl
  have d6 := BY.out.c 6 (v := .int .i64 tm) rfl
  have d7 := BY.out.c 7 (v := .slice u0 u1 u2) rfl
  have d8 := BY.out.c 8 (v := .slice v0 v1 v2) rfl
  have d9 := BY.out.c 9 (v := .string ap) rfl
  go_wp2_with (fail)
  go_region_with (first
    | (go_at_call 7; refine (CT.out _ (HR.out.kept HB.out.drew) HSM.out).mono ?_; intro en w6 hz; obtain ⟨⟨i0, i1, i2⟩, ⟨j0, j1, j2⟩, ⟨l0, l1, l2⟩, ⟨n0, n1, n2⟩, rfl, hO, k6⟩ := hz.out; have HB6 := hidIt (HB.out.drew.trans (k6.mono HB.out.drew.size)); have BY6 := hidIt (BY.out.drew.kept k6); have HQ6 := hidIt ((HR4.out.kept (Below.refl _ _).drew).kept k6); have HR6 := hidIt hO.rd; clear k6 hO hz; have d0 := BY6.out.c 0 (v := .slice x0 x1 x2) rfl; have d1 := BY6.out.c 1 (v := .slice y0 y1 y2) rfl; have d2 := BY6.out.c 2 (v := .int .i64 ph) rfl; have d3 := BY6.out.c 3 (v := .int .i64 mn) rfl; have d4 := BY6.out.c 4 (v := .int .i64 ol) rfl; have d5 := BY6.out.c 5 (v := .int .i64 nw) rfl; have d6 := BY6.out.c 6 (v := .int .i64 tm) rfl; have d7 := BY6.out.c 7 (v := .slice u0 u1 u2) rfl; have d8 := BY6.out.c 8 (v := .slice v0 v1 v2) rfl; have d9 := BY6.out.c 9 (v := .string ap) rfl; simp only [Nd.nv, Nd.nc, sv])
    | (go_at_call 9; refine (CE.out _ _ _ _ _ _ _ _ _ HQ6.out HR6.out HLG.out).mono ?_; rintro en w7 ⟨rfl, k7⟩; have HB7 := hidIt (HB6.out.trans (k7.mono HB6.out.size)); clear k7)
    | fail)
  all_goals
    go_wp2_with (fail)
    go_ret
    exact ⟨rfl, HB7.out⟩

theorem door_met (os : Os) (args : Array Value) : laidMetH Tryz.prog Rows.fnExactNodeOkRow.laid ((World.doorLaid Tryz.prog 62 os).forCall (fun _ _ => 0) ⟨#[], args, []⟩).memory :=
  laidMetH_of_parts3 (fuel := 8) (laidMet_of_run' 8 (by kernel_rfl) (by kernel_rfl)) (by kernel_rfl) (by kernel_rfl)
set_option maxRecDepth 100000 in
theorem lifted (os : Os) (started : os.Started) (H : Type) (enc : TypeId × Value → H) :
    ReturnsInHanded {} Tryz.checked os 3 .any (fun w args => (Rows.fnExactNodeOkSpec.pre enc Tryz.prog Tryz.f3 [] false w args ∧ laidMetH Tryz.prog Rows.fnExactNodeOkRow.laid w) ∧ sizedMet enc Tryz.prog Tryz.f3 (OpenSpec.ofChange Rows.fnExactNodeOkSpec) false w args) (Rows.fnExactNodeOkSpec.post enc Tryz.prog Tryz.f3 false true false false) := by
  refine returnsInHanded_of_change_and (C := Tryz.checked) (X := fun w _ => laidMetH Tryz.prog Rows.fnExactNodeOkRow.laid w) (fun _ _ _ hh h => h.of_heap hh) own started (by kernel_rfl) Tryz.func3
    (ChangeSpec.witness_shaped (enc := enc) (C := Tryz.checked) (os := os) (X := fun w _ => laidMetH Tryz.prog Rows.fnExactNodeOkRow.laid w) false (World.doorLaid Tryz.prog 62 os) #[.agg #[.slice none 0 0, .slice none 0 0, .int .i64 0, .int .i64 0, .int .i64 0, .int .i64 0, .int .i64 0, .slice none 0 0, .slice none 0 0, .string ByteArray.empty]] 8 rfl (World.shaped_of_RefB (by kernel_rfl) (by kernel_rfl)) (by kernel_rfl) (by kernel_rfl) (by kernel_rfl) (door_met os _)) ?_
  intro W base args ds gs before hval0 hW _ _ hL _
  have hval : ∀ (j : Nat) t v, Tryz.f3.params[j]? = some t → args[j]? = some v → Value.okWide Tryz.prog W .any base t v := hval0
  have hW' := hW
  obtain ⟨p, q, hA0, hV, rfl, hfz, hnd⟩ := hW
  have hA : DataW.TrodAll enc Tryz.prog W 0 (fun _ => true) true Tryz.f3.params.toList args.toList ds p := hA0
  rw [Tryz.params3] at hA hval
  obtain ⟨v0, vs0, d0, ds0, p0, q0, hargs, rfl, rfl, h0, r0⟩ := trodAll_cons hA
  obtain ⟨rfl, rfl, rfl⟩ := trodAll_nil r0
  obtain rfl : args = #[v0] := by cases args; simp_all
  obtain ⟨rfl, rfl⟩ := trodVars_none hV
  have k0 := h0
  have lt0 : ∀ x ∈ p0, x.block < W.heap.size := by obtain ⟨m, hm⟩ := k0; exact DataW.trod_lt m _ _ _ hm
  obtain ⟨x0, xe0, xm0, xb0, xg0, rfl, w0⟩ := Nd.open_node (hval 0 31 v0 rfl rfl) h0
  clear hA0 hval0
  refine (walk x0 xe0 xm0 xb0 xg0 W w0 (Sg.tab_of_laid hL)).mono fun e W' ⟨he, bel⟩ => ?_
  subst he
  exact ⟨_, rfl, _, _, _, [], _, [], hW', trodAll_mk1 (shut_bool Tryz.underlying4 _), (trodAll_cons_mk (Below.trod laidOut (by kernel_rfl) (of_decide_eq_true (by kernel_rfl)) k0 bel lt0) trodAll_mk0), rfl, bel.frame _, fun h => by cases h⟩

theorem over : Rows.fnExactNodeOkRow.holds Tryz.pinned (OpenSpec.ofChange Rows.fnExactNodeOkSpec) :=
  OpenClaim.holds_of_wide 3 Tryz.f3 rfl rfl rfl rfl rfl rfl rfl ⟨rfl, rfl, rfl, rfl, rfl⟩ rfl rfl rfl rfl rfl (by kernel_rfl) Tryz.func3 (by kernel_rfl)
    (of_decide_eq_true (by kernel_rfl)) (by unfold Func.isWrapper; first | (rw [if_pos (by decide +kernel)]; kernel_rfl) | (rw [if_neg (by decide +kernel)]; exact ⟨rfl, rfl⟩))
    (fun os started H enc _ => lifted os started H enc)
theorem card : Rows.FnExactNodeOkCardSaid :=
  Claim7.holds_tied_plain_at .later [] [.data, .data, .data] true (true, "7bb164696d38a66356fe1b43480cf3e89c688513a396bf343cb62e044cdd4ac3") true
    over (fun _ h => by cases h) (by kernel_rfl) (fun _ h => by cases h) fnExactNodeOk_row_tie rfl ⟨rfl, rfl⟩ (by kernel_rfl) rfl
    (fun f fn hf hfn => by
      obtain rfl : f = 3 := Option.some.inj ((show Tryz.prog.funcNamed "loop.example/g00307/laws.FnExactNodeOk" = some 3 by kernel_rfl).symm.trans hf) |>.symm
      obtain rfl : fn = Tryz.f3 := (Option.some.inj (Tryz.func3.symm.trans hfn)).symm
      exact ⟨by kernel_rfl, fun j t ht => by
        rw [Tryz.params3] at ht
        have hm : t ∈ [31] := by simpa using Array.mem_of_getElem? ht
        have hall : ([31].all fun u => !Tryz.prog.wantsStandIn u) = true := by kernel_rfl
        exact (show Tryz.prog.wantsStandIn t = false by simpa using List.all_eq_true.1 hall t hm)⟩)
    (by kernel_rfl)
end Go.Proofs.YtllajhieocploaaGreatDoor.fnExactNodeOk
namespace Go.Proofs.YtllajhieocploaaGreatDoor
theorem fnExactNodeOk_holds : Rows.FnExactNodeOkCardSaid := fnExactNodeOk.card
#print axioms fnExactNodeOk_holds
end Go.Proofs.YtllajhieocploaaGreatDoor
