/-
  FnExactKeysText answers true at every list of Points and leaves it as it was: KeysText of the program answers as the specification's. No condition but that the library's table of powers of ten and the program's two errors lie as their text lays them.
-/
import Derived.Test.YtniadgjckjnfiaaDoorRows
import Derived.Test.YtniadgjckjnfiaaDoorBun4
import Derived.WalkKit
import Derived.ProofKit
import Derived.OpenShut
import Derived.ShutString
import Derived.ChangeOld
import Derived.Below
import Derived.Lib.SmallJoins
import Derived.Test.YtniadgjckjnfiaaDoorDoorMet
import Derived.Test.YtniadgjckjnfiaaDoorTie
import Derived.Test.YtniadgjckjnfiaaDoorCards
import Derived.LaidMore
import Derived.Stop.Joined
import Derived.SevenTiedAt
import Derived.Test.YtniadgjckjnfiaaDoorBun2
import Derived.Test.YtniadgjckjnfiaaDoorBun3
import Derived.Test.YtniadgjckjnfiaaDoorBun1
namespace Go.Proofs.YtniadgjckjnfiaaDoor.fnExactKeysText
open Go.ChangeShapes Go.WideShapes Go.ChangeAt Go.RowKit Go.Joins
set_option linter.unusedVariables false

theorem own : ownKnob Tryd.prog.godebug = none := by kernel_rfl
theorem laidOut : laidOutB Tryd.prog = true := by kernel_rfl
theorem g_errNone : Tryd.prog.globalNamed "loop.example/g00307/impl.errNone" = some 0 := by kernel_rfl
theorem t_errNone : (Tryd.prog.globals[0]?).map (·.type) = some 70 := by kernel_rfl
theorem g_errMany : Tryd.prog.globalNamed "loop.example/g00307/impl.errMany" = some 3 := by kernel_rfl
theorem t_errMany : (Tryd.prog.globals[3]?).map (·.type) = some 70 := by kernel_rfl
open Cv Cu Sg Dd
open Go.Proofs.YtniadgjckjnfiaaDoor.Pt (szPointS_any toPointS_any eqPointS_any)
set_option maxRecDepth 100000 in
set_option maxHeartbeats 4000000 in

theorem walk (a0 : Option Addr) (cap0 : Nat) (L0 : List Pt.Ln) (e_errNone e_errMany : Addr) (w : World) (w0 : Pt.In w a0 cap0 L0) (htab : Sg.Tab w) (h_errNone : Se.At w 0 e_errNone) (h_errMany : Se.At w 3 e_errMany) :
    Calls Tryd.prog 5 #[.slice a0 L0.length cap0] w fun e w' => e = .returned (.bool true) ∧ Below w.heap.size w w' := by
  have HR := hidIt w0.rd
  have hl := w0.le
  have hc := w0.cap
  have CZ := hidIt (fun W => szPointS_any a0 cap0 L0.length 1048576 W (by omega) (by omega) (by omega))
  have HT := hidIt htab
  have H1 := hidIt h_errNone
  have H2 := hidIt h_errMany
  clear w0 htab h_errNone h_errMany
  go_enter Tryd.func5, Tryd.ntmps5
  go_wp2_with (fail)
  refine (CZ.out _).mono ?_
  rintro e w1 ⟨r, rfl, hr1, hr0, hr2, rfl⟩
  by_cases hneg : r < 0
  · clear hr2
    go_wp2_with (fail)
    go_ret
    exact ⟨rfl, Below.refl _ _⟩
  · have hlen : L0.length ≤ 1048576 := hr2 (by omega)
    clear hr2 CZ
    have CT := hidIt (fun W h => toPointS_any a0 cap0 L0 W h hlen)
    have CS := hidIt (fun a c W h => spec_KeysText a c L0 W h (by omega))
    have CI := hidIt (fun a c W h t h1 h2 => impl_KeysText a c L0 e_errNone e_errMany W h t h1 h2 (by omega))
    have CE := hidIt (fun a b ca cb W h h' => eqPointS_any a b ca cb L0 W h h' (by omega))
    generalize keysT L0 = pv at CS CI
    go_wp2_with (fail)
    refine (CT.out _ HR.out).mono ?_
    rintro e w2 ⟨v2, rfl, hO2, k⟩
    have HB := hidIt k
    obtain ⟨x2, cp2, rfl, _, _, R2, _⟩ := hO2.form
    have HR2 := hidIt R2
    clear k hO2 R2
    go_wp2_with (fail)
    refine (CS.out _ _ _ HR2.out).mono ?_
    rintro e w3 ⟨rfl, k⟩
    replace HB := hidIt (HB.out.trans (k.mono HB.out.size))
    clear k HR2
    go_wp2_with (fail)
    refine (CT.out _ (HR.out.kept HB.out)).mono ?_
    rintro e w4 ⟨v4, rfl, hO4, k⟩
    replace HB := hidIt (HB.out.trans (k.mono HB.out.size))
    obtain ⟨x4, cp4, rfl, _, _, R4, _⟩ := hO4.form
    have HR4 := hidIt R4
    clear k hO4 R4
    go_wp2_with (fail)
    refine (CI.out _ _ _ HR4.out (HT.out.kept HB.out) (H1.out.kept HB.out) (H2.out.kept HB.out)).mono ?_
    rintro e w5 ⟨rfl, k⟩
    replace HB := hidIt (HB.out.trans (k.mono HB.out.size))
    replace HR4 := hidIt (HR4.out.kept k)
    clear k CS CI
    go_wp2_with (fail)
    refine (CT.out _ (HR.out.kept HB.out)).mono ?_
    rintro e w6 ⟨v6, rfl, hO6, k⟩
    replace HB := hidIt (HB.out.trans (k.mono HB.out.size))
    replace HR4 := hidIt (HR4.out.kept k)
    obtain ⟨x6, cp6, rfl, _, _, R6, _⟩ := hO6.form
    have HR6 := hidIt R6
    clear k hO6 R6
    go_wp2_with (fail)
    refine (CE.out _ _ _ _ _ HR4.out HR6.out).mono ?_
    rintro e w7 ⟨rfl, k⟩
    replace HB := hidIt (HB.out.trans (k.mono HB.out.size))
    clear k
    go_wp2_with (fail)
    go_ret
    exact ⟨rfl, HB.out⟩

theorem door_met (os : Os) (args : Array Value) : laidMetH Tryd.prog Rows.fnExactKeysTextRow.laid ((World.doorLaid Tryd.prog 100 os).forCall (fun _ _ => 0) ⟨#[], args, []⟩).memory :=
  laidMetH_of_parts3 (fuel := 8) (laidMet_of_run' 8 (by kernel_rfl) (by kernel_rfl)) (by kernel_rfl) (by kernel_rfl)
set_option maxRecDepth 100000 in
theorem lifted (os : Os) (started : os.Started) (H : Type) (enc : TypeId × Value → H) :
    ReturnsInHanded {} Tryd.checked os 5 .any (fun w args => (Rows.fnExactKeysTextSpec.pre enc Tryd.prog Tryd.f5 [] false w args ∧ laidMetH Tryd.prog Rows.fnExactKeysTextRow.laid w) ∧ sizedMet enc Tryd.prog Tryd.f5 (OpenSpec.ofChange Rows.fnExactKeysTextSpec) false w args) (Rows.fnExactKeysTextSpec.post enc Tryd.prog Tryd.f5 false true false false) := by
  refine returnsInHanded_of_change_and (C := Tryd.checked) (X := fun w _ => laidMetH Tryd.prog Rows.fnExactKeysTextRow.laid w) (fun _ _ _ hh h => h.of_heap hh) own started (by kernel_rfl) Tryd.func5
    (ChangeSpec.witness_shaped (enc := enc) (C := Tryd.checked) (os := os) (X := fun w _ => laidMetH Tryd.prog Rows.fnExactKeysTextRow.laid w) false (World.doorLaid Tryd.prog 100 os) #[.slice none 0 0] 8 rfl (World.shaped_of_RefB (by kernel_rfl) (by kernel_rfl)) (by kernel_rfl) (by kernel_rfl) (by kernel_rfl) (door_met os _)) ?_
  intro W base args ds gs before hval0 hW _ _ hL _
  have hval : ∀ (j : Nat) t v, Tryd.f5.params[j]? = some t → args[j]? = some v → Value.okWide Tryd.prog W .any base t v := hval0
  have hW' := hW
  obtain ⟨p, q, hA0, hV, rfl, hfz, hnd⟩ := hW
  have hA : DataW.TrodAll enc Tryd.prog W 0 (fun _ => true) true Tryd.f5.params.toList args.toList ds p := hA0
  rw [Tryd.params5] at hA hval
  obtain ⟨v0, vs0, d0, ds0, p0, q0, hargs, rfl, rfl, h0, r0⟩ := trodAll_cons hA
  obtain ⟨rfl, rfl, rfl⟩ := trodAll_nil r0
  obtain rfl : args = #[v0] := by cases args; simp_all
  have hP : laidMet Tryd.prog [("math/bits.deBruijn32tab", Rows.laid_math_bits_deBruijn32tab), ("math/bits.deBruijn64tab", Rows.laid_math_bits_deBruijn64tab), ("internal/strconv.uint64pow10", Rows.laid_internal_strconv_uint64pow10), ("loop.example/g00307/impl.errNone", Rows.laid_loop_example_g00307_impl_errNone), ("loop.example/g00307/impl.errMany", Rows.laid_loop_example_g00307_impl_errMany)] W := by rw [MakeChecks.laidMetH_plain _ _ _ (by kernel_rfl)] at hL; exact hL
  obtain ⟨e_errNone, s_errNone, hv_errNone, _, _, _⟩ := laid_sentinel (hP.tail.tail.tail) g_errNone t_errNone Tryd.underlying70 Se.row Tryd.underlying163 Tryd.underlying178 rfl rfl Tryd.underlying9 Se.cellsE Se.cellsS
  obtain ⟨e_errMany, s_errMany, hv_errMany, _, _, _⟩ := laid_sentinel (hP.tail.tail.tail.tail) g_errMany t_errMany Tryd.underlying70 Se.row Tryd.underlying163 Tryd.underlying178 rfl rfl Tryd.underlying9 Se.cellsE Se.cellsS
  have hV1 : DataW.TrodVars enc Tryd.prog W (fun _ => true) ["loop.example/g00307/impl.errMany", "loop.example/g00307/impl.errNone"] gs q := hV
  obtain ⟨rfl, rfl⟩ := hV1.unique (Se.vars_cons enc g_errMany t_errMany hv_errMany trivial (Se.vars_cons enc g_errNone t_errNone hv_errNone trivial (Se.vars_nil enc _)))
  have k0 := h0
  have lt0 : ∀ x ∈ p0, x.block < W.heap.size := by obtain ⟨m, hm⟩ := k0; exact DataW.trod_lt m _ _ _ hm
  obtain ⟨a0, cap0, L0, rfl, w0⟩ := Pt.open_points (hval 0 40 v0 rfl rfl) h0
  clear hA0 hval0
  refine (walk a0 cap0 L0 e_errNone e_errMany W w0 (Sg.tab_of_plain hP) (Se.at_of_var g_errNone hv_errNone) (Se.at_of_var g_errMany hv_errMany)).mono fun e W' ⟨he, bel⟩ => ?_
  subst he
  exact ⟨_, rfl, _, _, _, [], _, [.cell 3 0, .cell 0 0], hW', trodAll_mk1 (shut_bool Tryd.underlying4 _), (trodAll_cons_mk (Below.trod laidOut (by kernel_rfl) (of_decide_eq_true (by kernel_rfl)) k0 bel lt0) trodAll_mk0), (Se.vars_cons enc g_errMany t_errMany (Se.var_kept hv_errMany bel) trivial (Se.vars_cons enc g_errNone t_errNone (Se.var_kept hv_errNone bel) trivial (Se.vars_nil enc _))), bel.frame _, fun h => by cases h⟩

theorem over : Rows.fnExactKeysTextRow.holds Tryd.pinned (OpenSpec.ofChange Rows.fnExactKeysTextSpec) :=
  OpenClaim.holds_of_wide 5 Tryd.f5 rfl rfl rfl rfl rfl rfl rfl ⟨rfl, rfl, rfl, rfl, rfl⟩ rfl rfl rfl rfl rfl (by kernel_rfl) Tryd.func5 (by kernel_rfl)
    (of_decide_eq_true (by kernel_rfl)) (by unfold Func.isWrapper; first | (rw [if_pos (by decide +kernel)]; kernel_rfl) | (rw [if_neg (by decide +kernel)]; exact ⟨rfl, rfl⟩))
    (fun os started H enc _ => lifted os started H enc)
theorem card : Rows.FnExactKeysTextCardSaid :=
  Claim7.holds_tied_plain_at .later [] [.data, .data, .data, .sentinel, .sentinel] true (true, "1870000d0ade541ca2dc23333e8f72b353b16fa3e0e59de54917b446bf30625c") false
    over (fun _ h => by cases h) (by kernel_rfl) (fun _ h => by cases h) fnExactKeysText_row_tie rfl ⟨rfl, rfl⟩ (by kernel_rfl) rfl
    (fun f fn hf hfn => by
      obtain rfl : f = 5 := Option.some.inj ((show Tryd.prog.funcNamed "loop.example/g00307/laws.FnExactKeysText" = some 5 by kernel_rfl).symm.trans hf) |>.symm
      obtain rfl : fn = Tryd.f5 := (Option.some.inj (Tryd.func5.symm.trans hfn)).symm
      exact ⟨by kernel_rfl, fun j t ht => by
        rw [Tryd.params5] at ht
        have hm : t ∈ [40] := by simpa using Array.mem_of_getElem? ht
        have hall : ([40].all fun u => !Tryd.prog.wantsStandIn u) = true := by kernel_rfl
        exact (show Tryd.prog.wantsStandIn t = false by simpa using List.all_eq_true.1 hall t hm)⟩)
    (by kernel_rfl)
end Go.Proofs.YtniadgjckjnfiaaDoor.fnExactKeysText
namespace Go.Proofs.YtniadgjckjnfiaaDoor
theorem fnExactKeysText_holds : Rows.FnExactKeysTextCardSaid := fnExactKeysText.card
#print axioms fnExactKeysText_holds
end Go.Proofs.YtniadgjckjnfiaaDoor
