/-
  FnExactDsOf answers true at every Deed and leaves it as it was: DsOf of the program answers as the specification's. No condition but that the library's table of powers of ten and the program's one error on this road lie as their text lays them.
-/
import Derived.Test.YtniadgjckjnfiaaDoorRows
import Derived.Test.YtniadgjckjnfiaaDoorBun4
import Derived.WalkKit
import Derived.ProofKit
import Derived.OpenShut
import Derived.ShutString
import Derived.ChangeOld
import Derived.Below
import Derived.Lib.SmallJoins
import Derived.Test.YtniadgjckjnfiaaDoorDoorMet
import Derived.Test.YtniadgjckjnfiaaDoorTie
import Derived.Test.YtniadgjckjnfiaaDoorCards
import Derived.LaidMore
import Derived.Stop.Joined
import Derived.SevenTiedAt
import Derived.Test.YtniadgjckjnfiaaDoorBun2
import Derived.Test.YtniadgjckjnfiaaDoorBun3
namespace Go.Proofs.YtniadgjckjnfiaaDoor.fnExactDsOf
open Go.ChangeShapes Go.WideShapes Go.ChangeAt Go.RowKit Go.Joins
set_option linter.unusedVariables false

theorem own : ownKnob Tryd.prog.godebug = none := by kernel_rfl
theorem laidOut : laidOutB Tryd.prog = true := by kernel_rfl
theorem g_errNone : Tryd.prog.globalNamed "loop.example/g00307/impl.errNone" = some 0 := by kernel_rfl
theorem t_errNone : (Tryd.prog.globals[0]?).map (·.type) = some 70 := by kernel_rfl
open Cv Cu Sg Dd
open Go.Proofs.YtniadgjckjnfiaaDoor.Bo (Box Box.new Box.newAt Box.kept Box.alloc Box.put Box.other Box.c Box.drew)
set_option maxRecDepth 100000 in
set_option maxHeartbeats 4000000 in

theorem walk (z0 : ByteArray) (a0 : Option Addr) (cap0 : Nat) (L0 : List Pt.Ln) (ka0 kb0 u0 ra0 rb0 t0 : Int) (wz0 : z0.size ≤ 9223372036854775807) (e_errNone : Addr) (w : World) (w0 : Pt.In w a0 cap0 L0) (htab : Sg.Tab w) (h_errNone : Se.At w 0 e_errNone) :
    Calls Tryd.prog 6 #[Dd.dv z0 (.slice a0 L0.length cap0) ka0 kb0 u0 ra0 rb0 t0] w fun e w' => e = .returned (.bool true) ∧ Below w.heap.size w w' := by
  have HR := hidIt w0.rd
  have hl := w0.le
  have hc := w0.cap
  have CZ := hidIt (fun W => szDeed_any z0 a0 L0.length cap0 ka0 kb0 u0 ra0 rb0 t0 1048576 W wz0 (by omega) (by omega) (by omega))
  have HT := hidIt htab
  have HB : Hid (Below w.heap.size w (w.alloc (.cells (dc z0 (.slice a0 L0.length cap0) ka0 kb0 u0 ra0 rb0 t0) 48))) := hidIt ((Below.refl w.heap.size w).alloc (Nat.le_refl _) _)
  have BX := hidIt (Box.new w (dc z0 (.slice a0 L0.length cap0) ka0 kb0 u0 ra0 rb0 t0) 48)
  have H1 := hidIt h_errNone
  clear w0 htab h_errNone
  go_enter Tryd.func6, Tryd.ntmps6
  go_wp2_with (fail)
  refine (CZ.out _).mono ?_
  rintro e w1 ⟨r, rfl, hr1, hr0, hr2, k⟩
  replace HB := hidIt (HB.out.trans (k.mono HB.out.size))
  replace BX := hidIt (BX.out.kept k)
  clear k CZ
  have c0 := BX.out.c 0 (v := .string z0) rfl
  have c1 := BX.out.c 1 (v := .slice a0 L0.length cap0) rfl
  have c2 := BX.out.c 2 (v := .int .i64 ka0) rfl
  have c3 := BX.out.c 3 (v := .int .i64 kb0) rfl
  have c4 := BX.out.c 4 (v := .int .i64 u0) rfl
  have c5 := BX.out.c 5 (v := .int .i64 ra0) rfl
  have c6 := BX.out.c 6 (v := .int .i64 rb0) rfl
  have c7 := BX.out.c 7 (v := .int .i64 t0) rfl
  by_cases hneg : r < 0
  · clear hr2
    go_wp2_with (fail)
    go_ret
    exact ⟨rfl, HB.out⟩
  · have hlen : L0.length ≤ 1048576 := hr2 (by omega)
    clear hr2
    have CT := hidIt (fun W h => toDeed_any z0 a0 cap0 L0 ka0 kb0 u0 ra0 rb0 t0 W h hlen)
    have CS := hidIt (fun a n c W => spec_DsOf z0 (.slice a n c) ka0 kb0 u0 ra0 rb0 t0 W ⟨_, _, _, rfl⟩)
    have CI := hidIt (fun a n c W t h => impl_DsOf z0 (.slice a n c) ka0 kb0 u0 ra0 rb0 t0 e_errNone W t h ⟨_, _, _, rfl⟩)
    have CE := hidIt (fun a b ca cb W h h' => eqDeed_same z0 a b ca cb L0 ka0 kb0 u0 ra0 rb0 t0 W h h' (by omega))
    generalize dsB z0 ka0 kb0 = pv at CS CI
    have hpp : (pv != pv) = false := by simp
    go_wp2_with (fail)
    refine (CT.out _ (HR.out.kept HB.out)).mono ?_
    rintro e w2 ⟨x2, cp2, rfl, hO2, k⟩
    replace HB := hidIt (HB.out.trans (k.mono HB.out.size))
    replace BX := hidIt (BX.out.kept k)
    clear k hO2 c0 c1 c2 c3 c4 c5 c6 c7
    go_wp2_with (fail)
    refine (CS.out _ _ _ _).mono ?_
    rintro e w3 ⟨rfl, k⟩
    replace HB := hidIt (HB.out.trans (k.mono HB.out.size))
    replace BX := hidIt (BX.out.kept k)
    clear k
    have c0 := BX.out.c 0 (v := .string z0) rfl
    have c1 := BX.out.c 1 (v := .slice a0 L0.length cap0) rfl
    have c2 := BX.out.c 2 (v := .int .i64 ka0) rfl
    have c3 := BX.out.c 3 (v := .int .i64 kb0) rfl
    have c4 := BX.out.c 4 (v := .int .i64 u0) rfl
    have c5 := BX.out.c 5 (v := .int .i64 ra0) rfl
    have c6 := BX.out.c 6 (v := .int .i64 rb0) rfl
    have c7 := BX.out.c 7 (v := .int .i64 t0) rfl
    go_wp2_with (fail)
    refine (CT.out _ (HR.out.kept HB.out)).mono ?_
    rintro e w4 ⟨x4, cp4, rfl, hO4, k⟩
    replace HB := hidIt (HB.out.trans (k.mono HB.out.size))
    replace BX := hidIt (BX.out.kept k)
    obtain ⟨_, _, e4, _, _, R4, _⟩ := hO4.form
    cases e4
    have HR4 := hidIt R4
    clear k hO4 R4 c0 c1 c2 c3 c4 c5 c6 c7
    have BY := hidIt (Box.new w4 (dc z0 (.slice x4 L0.length cp4) ka0 kb0 u0 ra0 rb0 t0) 52)
    have kA := (Below.refl w4.heap.size w4).alloc (Nat.le_refl _) (.cells (dc z0 (.slice x4 L0.length cp4) ka0 kb0 u0 ra0 rb0 t0) 52)
    replace HB := hidIt (HB.out.trans (kA.mono HB.out.size))
    replace BX := hidIt (BX.out.kept kA)
    replace HR4 := hidIt (HR4.out.kept kA)
    clear kA
    go_wp2_with (fail)
    refine (CI.out _ _ _ _ (HT.out.kept HB.out) (H1.out.kept HB.out)).mono ?_
    rintro e w5 ⟨rfl, k⟩
    replace HB := hidIt (HB.out.trans (k.mono HB.out.size))
    replace BX := hidIt (BX.out.kept k)
    replace BY := hidIt (BY.out.kept k)
    replace HR4 := hidIt (HR4.out.kept k)
    clear k CS CI
    generalize w4.heap.size = g4 at BY ⊢
    have c0 := BX.out.c 0 (v := .string z0) rfl
    have c1 := BX.out.c 1 (v := .slice a0 L0.length cap0) rfl
    have c2 := BX.out.c 2 (v := .int .i64 ka0) rfl
    have c3 := BX.out.c 3 (v := .int .i64 kb0) rfl
    have c4 := BX.out.c 4 (v := .int .i64 u0) rfl
    have c5 := BX.out.c 5 (v := .int .i64 ra0) rfl
    have c6 := BX.out.c 6 (v := .int .i64 rb0) rfl
    have c7 := BX.out.c 7 (v := .int .i64 t0) rfl
    have b0 := BY.out.c 0 (v := .string z0) rfl
    have b1 := BY.out.c 1 (v := .slice x4 L0.length cp4) rfl
    have b2 := BY.out.c 2 (v := .int .i64 ka0) rfl
    have b3 := BY.out.c 3 (v := .int .i64 kb0) rfl
    have b4 := BY.out.c 4 (v := .int .i64 u0) rfl
    have b5 := BY.out.c 5 (v := .int .i64 ra0) rfl
    have b6 := BY.out.c 6 (v := .int .i64 rb0) rfl
    have b7 := BY.out.c 7 (v := .int .i64 t0) rfl
    go_wp2_with (fail)
    go_region_with (first
      | (go_at_call 20; refine (CT.out _ (HR.out.kept HB.out.drew)).mono ?_; rintro e w6 ⟨x6, cp6, rfl, hO6, k6⟩; have HB6 := hidIt (HB.out.drew.trans (k6.mono HB.out.drew.size)); have BY6 := hidIt (BY.out.drew.kept k6); have HQ6 := hidIt (HR4.out.drew.kept k6); obtain ⟨_, _, e6, _, _, R6, _⟩ := hO6.form; cases e6; have HR6 := hidIt R6; clear k6 hO6 R6; have b0 := BY6.out.c 0 (v := .string z0) rfl; have b1 := BY6.out.c 1 (v := .slice x4 L0.length cp4) rfl; have b2 := BY6.out.c 2 (v := .int .i64 ka0) rfl; have b3 := BY6.out.c 3 (v := .int .i64 kb0) rfl; have b4 := BY6.out.c 4 (v := .int .i64 u0) rfl; have b5 := BY6.out.c 5 (v := .int .i64 ra0) rfl; have b6 := BY6.out.c 6 (v := .int .i64 rb0) rfl; have b7 := BY6.out.c 7 (v := .int .i64 t0) rfl)
      | (go_at_call 22; refine (CE.out _ _ _ _ _ HQ6.out HR6.out).mono ?_; rintro e w7 ⟨rfl, k7⟩; have HB7 := hidIt (HB6.out.trans (k7.mono HB6.out.size)); clear k7))
    all_goals
      go_wp2_with (fail)
      go_ret
      exact ⟨rfl, HB7.out⟩

theorem door_met (os : Os) (args : Array Value) : laidMetH Tryd.prog Rows.fnExactDsOfRow.laid ((World.doorLaid Tryd.prog 100 os).forCall (fun _ _ => 0) ⟨#[], args, []⟩).memory :=
  laidMetH_of_parts3 (fuel := 8) (laidMet_of_run' 8 (by kernel_rfl) (by kernel_rfl)) (by kernel_rfl) (by kernel_rfl)
set_option maxRecDepth 100000 in
theorem lifted (os : Os) (started : os.Started) (H : Type) (enc : TypeId × Value → H) :
    ReturnsInHanded {} Tryd.checked os 6 .any (fun w args => (Rows.fnExactDsOfSpec.pre enc Tryd.prog Tryd.f6 [] false w args ∧ laidMetH Tryd.prog Rows.fnExactDsOfRow.laid w) ∧ sizedMet enc Tryd.prog Tryd.f6 (OpenSpec.ofChange Rows.fnExactDsOfSpec) false w args) (Rows.fnExactDsOfSpec.post enc Tryd.prog Tryd.f6 false true false false) := by
  refine returnsInHanded_of_change_and (C := Tryd.checked) (X := fun w _ => laidMetH Tryd.prog Rows.fnExactDsOfRow.laid w) (fun _ _ _ hh h => h.of_heap hh) own started (by kernel_rfl) Tryd.func6
    (ChangeSpec.witness_shaped (enc := enc) (C := Tryd.checked) (os := os) (X := fun w _ => laidMetH Tryd.prog Rows.fnExactDsOfRow.laid w) false (World.doorLaid Tryd.prog 100 os) #[.agg #[.string ByteArray.empty, .slice none 0 0, .int .i64 0, .int .i64 0, .int .i64 0, .int .i64 0, .int .i64 0, .int .i64 0]] 8 rfl (World.shaped_of_RefB (by kernel_rfl) (by kernel_rfl)) (by kernel_rfl) (by kernel_rfl) (by kernel_rfl) (door_met os _)) ?_
  intro W base args ds gs before hval0 hW _ _ hL _
  have hval : ∀ (j : Nat) t v, Tryd.f6.params[j]? = some t → args[j]? = some v → Value.okWide Tryd.prog W .any base t v := hval0
  have hW' := hW
  obtain ⟨p, q, hA0, hV, rfl, hfz, hnd⟩ := hW
  have hA : DataW.TrodAll enc Tryd.prog W 0 (fun _ => true) true Tryd.f6.params.toList args.toList ds p := hA0
  rw [Tryd.params6] at hA hval
  obtain ⟨v0, vs0, d0, ds0, p0, q0, hargs, rfl, rfl, h0, r0⟩ := trodAll_cons hA
  obtain ⟨rfl, rfl, rfl⟩ := trodAll_nil r0
  obtain rfl : args = #[v0] := by cases args; simp_all
  have hP : laidMet Tryd.prog [("math/bits.deBruijn32tab", Rows.laid_math_bits_deBruijn32tab), ("math/bits.deBruijn64tab", Rows.laid_math_bits_deBruijn64tab), ("internal/strconv.uint64pow10", Rows.laid_internal_strconv_uint64pow10), ("loop.example/g00307/impl.errNone", Rows.laid_loop_example_g00307_impl_errNone)] W := by rw [MakeChecks.laidMetH_plain _ _ _ (by kernel_rfl)] at hL; exact hL
  obtain ⟨e_errNone, s_errNone, hv_errNone, _, _, _⟩ := laid_sentinel (hP.tail.tail.tail) g_errNone t_errNone Tryd.underlying70 Se.row Tryd.underlying163 Tryd.underlying178 rfl rfl Tryd.underlying9 Se.cellsE Se.cellsS
  have hV1 : DataW.TrodVars enc Tryd.prog W (fun _ => true) ["loop.example/g00307/impl.errNone"] gs q := hV
  obtain ⟨rfl, rfl⟩ := hV1.unique (Se.vars_cons enc g_errNone t_errNone hv_errNone trivial (Se.vars_nil enc _))
  have k0 := h0
  have lt0 : ∀ x ∈ p0, x.block < W.heap.size := by obtain ⟨m, hm⟩ := k0; exact DataW.trod_lt m _ _ _ hm
  obtain ⟨z0, a0, cap0, L0, ka0, kb0, u0, ra0, rb0, t0, rfl, wz0, w0⟩ := Dd.open_deed (hval 0 48 v0 rfl rfl) h0
  clear hA0 hval0
  refine (walk z0 a0 cap0 L0 ka0 kb0 u0 ra0 rb0 t0 wz0 e_errNone W w0 (Sg.tab_of_plain hP) (Se.at_of_var g_errNone hv_errNone)).mono fun e W' ⟨he, bel⟩ => ?_
  subst he
  exact ⟨_, rfl, _, _, _, [], _, [.cell 0 0], hW', trodAll_mk1 (shut_bool Tryd.underlying4 _), (trodAll_cons_mk (Below.trod laidOut (by kernel_rfl) (of_decide_eq_true (by kernel_rfl)) k0 bel lt0) trodAll_mk0), (Se.vars_cons enc g_errNone t_errNone (Se.var_kept hv_errNone bel) trivial (Se.vars_nil enc _)), bel.frame _, fun h => by cases h⟩

theorem over : Rows.fnExactDsOfRow.holds Tryd.pinned (OpenSpec.ofChange Rows.fnExactDsOfSpec) :=
  OpenClaim.holds_of_wide 6 Tryd.f6 rfl rfl rfl rfl rfl rfl rfl ⟨rfl, rfl, rfl, rfl, rfl⟩ rfl rfl rfl rfl rfl (by kernel_rfl) Tryd.func6 (by kernel_rfl)
    (of_decide_eq_true (by kernel_rfl)) (by unfold Func.isWrapper; first | (rw [if_pos (by decide +kernel)]; kernel_rfl) | (rw [if_neg (by decide +kernel)]; exact ⟨rfl, rfl⟩))
    (fun os started H enc _ => lifted os started H enc)
theorem card : Rows.FnExactDsOfCardSaid :=
  Claim7.holds_tied_plain_at .later [] [.data, .data, .data, .sentinel] true (true, "1870000d0ade541ca2dc23333e8f72b353b16fa3e0e59de54917b446bf30625c") false
    over (fun _ h => by cases h) (by kernel_rfl) (fun _ h => by cases h) fnExactDsOf_row_tie rfl ⟨rfl, rfl⟩ (by kernel_rfl) rfl
    (fun f fn hf hfn => by
      obtain rfl : f = 6 := Option.some.inj ((show Tryd.prog.funcNamed "loop.example/g00307/laws.FnExactDsOf" = some 6 by kernel_rfl).symm.trans hf) |>.symm
      obtain rfl : fn = Tryd.f6 := (Option.some.inj (Tryd.func6.symm.trans hfn)).symm
      exact ⟨by kernel_rfl, fun j t ht => by
        rw [Tryd.params6] at ht
        have hm : t ∈ [48] := by simpa using Array.mem_of_getElem? ht
        have hall : ([48].all fun u => !Tryd.prog.wantsStandIn u) = true := by kernel_rfl
        exact (show Tryd.prog.wantsStandIn t = false by simpa using List.all_eq_true.1 hall t hm)⟩)
    (by kernel_rfl)
end Go.Proofs.YtniadgjckjnfiaaDoor.fnExactDsOf
namespace Go.Proofs.YtniadgjckjnfiaaDoor
theorem fnExactDsOf_holds : Rows.FnExactDsOfCardSaid := fnExactDsOf.card
#print axioms fnExactDsOf_holds
end Go.Proofs.YtniadgjckjnfiaaDoor
