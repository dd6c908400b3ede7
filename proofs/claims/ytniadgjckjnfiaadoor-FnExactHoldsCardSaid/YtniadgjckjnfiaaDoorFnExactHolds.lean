/-
  FnExactHolds answers true at every Seal, every text and every number and leaves them as they were: Holds of the program answers as the specification's. No condition but that the library's table of powers of ten and the program's three errors lie as their text lays them.
-/
import Derived.Test.YtniadgjckjnfiaaDoorRows
import Derived.Test.YtniadgjckjnfiaaDoorBun4
import Derived.WalkKit
import Derived.ProofKit
import Derived.OpenShut
import Derived.ShutString
import Derived.ChangeOld
import Derived.Below
import Derived.Lib.SmallJoins
import Derived.Test.YtniadgjckjnfiaaDoorDoorMet
import Derived.Test.YtniadgjckjnfiaaDoorTie
import Derived.Test.YtniadgjckjnfiaaDoorCards
import Derived.LaidMore
import Derived.Stop.Joined
import Derived.SevenTiedAt
import Derived.Test.YtniadgjckjnfiaaDoorBun2
import Derived.Test.YtniadgjckjnfiaaDoorBun1
import Derived.Test.YtniadgjckjnfiaaDoorBun3
namespace Go.Proofs.YtniadgjckjnfiaaDoor.fnExactHolds
open Go.ChangeShapes Go.WideShapes Go.ChangeAt Go.RowKit Go.Joins
set_option linter.unusedVariables false

theorem own : ownKnob Tryd.prog.godebug = none := by kernel_rfl
theorem laidOut : laidOutB Tryd.prog = true := by kernel_rfl
theorem g_errNone : Tryd.prog.globalNamed "loop.example/g00307/impl.errNone" = some 0 := by kernel_rfl
theorem t_errNone : (Tryd.prog.globals[0]?).map (·.type) = some 70 := by kernel_rfl
theorem g_errOther : Tryd.prog.globalNamed "loop.example/g00307/impl.errOther" = some 2 := by kernel_rfl
theorem t_errOther : (Tryd.prog.globals[2]?).map (·.type) = some 70 := by kernel_rfl
theorem g_errOver : Tryd.prog.globalNamed "loop.example/g00307/impl.errOver" = some 1 := by kernel_rfl
theorem t_errOver : (Tryd.prog.globals[1]?).map (·.type) = some 70 := by kernel_rfl
open Cv Cu Sg Dd
open Go.Proofs.YtniadgjckjnfiaaDoor.Bo (Box Box.new Box.newAt Box.kept Box.alloc Box.put Box.other Box.c Box.drew)
set_option maxRecDepth 100000 in
set_option maxHeartbeats 4000000 in

theorem walk (ka0 kb0 u0 ra0 rb0 t0 : Int) (s1 : ByteArray) (ws1 : s1.size ≤ maxLen) (n2 : Int) (e_errNone e_errOther e_errOver : Addr) (w : World) (htab : Sg.Tab w) (h_errNone : Se.At w 0 e_errNone) (h_errOther : Se.At w 2 e_errOther) (h_errOver : Se.At w 1 e_errOver) :
    Calls Tryd.prog 4 #[Dd.sv ka0 kb0 u0 ra0 rb0 t0, .string s1, .int .i64 n2] w fun e w' => e = .returned (.bool true) ∧ Below w.heap.size w w' := by
  have HB : Hid (Below w.heap.size w (w.alloc (.cells (sc ka0 kb0 u0 ra0 rb0 t0) 36))) := hidIt ((Below.refl w.heap.size w).alloc (Nat.le_refl _) _)
  by_cases hb : 1048576 < s1.size
  · have hb' : (1048576 : Int) < (s1.size : Int) := by omega
    go_enter Tryd.func4, Tryd.ntmps4
    go_wp2
    go_ret
    exact ⟨rfl, HB.out⟩
  · have hb' : ¬ (1048576 : Int) < (s1.size : Int) := by omega
    have BX := hidIt (Box.new w (sc ka0 kb0 u0 ra0 rb0 t0) 36)
    have CT := hidIt (fun W => toSeal_any ka0 kb0 u0 ra0 rb0 t0 W)
    have CS := hidIt (fun W => spec_Holds ka0 kb0 u0 ra0 rb0 t0 s1 n2 W (by omega))
    have CI := hidIt (fun W t h1 h2 h3 => impl_Holds ka0 kb0 u0 ra0 rb0 t0 s1 n2 e_errNone e_errOver e_errOther W t h1 h2 h3 (by omega))
    have HT := hidIt htab
    have H1 := hidIt h_errNone
    have H2 := hidIt h_errOver
    have H3 := hidIt h_errOther
    clear htab h_errNone h_errOver h_errOther
    generalize holdsB ka0 kb0 u0 ra0 rb0 t0 s1 n2 = f at CS CI
    have hff : (f != f) = false := by simp
    have c0 := BX.out.c 0 (v := .int .i64 ka0) rfl
    have c1 := BX.out.c 1 (v := .int .i64 kb0) rfl
    have c2 := BX.out.c 2 (v := .int .i64 u0) rfl
    have c3 := BX.out.c 3 (v := .int .i64 ra0) rfl
    have c4 := BX.out.c 4 (v := .int .i64 rb0) rfl
    have c5 := BX.out.c 5 (v := .int .i64 t0) rfl
    go_enter Tryd.func4, Tryd.ntmps4
    go_wp2_with (fail)
    refine (CT.out _).mono ?_
    rintro e w1 ⟨rfl, k⟩
    replace HB := hidIt (HB.out.trans (k.mono HB.out.size))
    replace BX := hidIt (BX.out.kept k)
    clear k c0 c1 c2 c3 c4 c5
    go_wp2_with (fail)
    refine (CS.out _).mono ?_
    rintro e w2 ⟨rfl, k⟩
    replace HB := hidIt (HB.out.trans (k.mono HB.out.size))
    replace BX := hidIt (BX.out.kept k)
    clear k
    have c0 := BX.out.c 0 (v := .int .i64 ka0) rfl
    have c1 := BX.out.c 1 (v := .int .i64 kb0) rfl
    have c2 := BX.out.c 2 (v := .int .i64 u0) rfl
    have c3 := BX.out.c 3 (v := .int .i64 ra0) rfl
    have c4 := BX.out.c 4 (v := .int .i64 rb0) rfl
    have c5 := BX.out.c 5 (v := .int .i64 t0) rfl
    go_wp2_with (fail)
    refine (CT.out _).mono ?_
    rintro e w3 ⟨rfl, k⟩
    replace HB := hidIt (HB.out.trans (k.mono HB.out.size))
    clear k c0 c1 c2 c3 c4 c5 BX
    go_wp2_with (fail)
    refine (CI.out _ (HT.out.kept HB.out) (H1.out.kept HB.out) (H2.out.kept HB.out) (H3.out.kept HB.out)).mono ?_
    rintro e w4 ⟨rfl, k⟩
    replace HB := hidIt (HB.out.trans (k.mono HB.out.size))
    clear k
    go_wp2_with (fail)
    go_ret
    exact ⟨rfl, HB.out⟩

theorem door_met (os : Os) (args : Array Value) : laidMetH Tryd.prog Rows.fnExactHoldsRow.laid ((World.doorLaid Tryd.prog 100 os).forCall (fun _ _ => 0) ⟨#[], args, []⟩).memory :=
  laidMetH_of_parts3 (fuel := 8) (laidMet_of_run' 8 (by kernel_rfl) (by kernel_rfl)) (by kernel_rfl) (by kernel_rfl)
set_option maxRecDepth 100000 in
theorem lifted (os : Os) (started : os.Started) (H : Type) (enc : TypeId × Value → H) :
    ReturnsInHanded {} Tryd.checked os 4 .any (fun w args => (Rows.fnExactHoldsSpec.pre enc Tryd.prog Tryd.f4 [] false w args ∧ laidMetH Tryd.prog Rows.fnExactHoldsRow.laid w) ∧ sizedMet enc Tryd.prog Tryd.f4 (OpenSpec.ofChange Rows.fnExactHoldsSpec) false w args) (Rows.fnExactHoldsSpec.post enc Tryd.prog Tryd.f4 false true false false) := by
  refine returnsInHanded_of_change_and (C := Tryd.checked) (X := fun w _ => laidMetH Tryd.prog Rows.fnExactHoldsRow.laid w) (fun _ _ _ hh h => h.of_heap hh) own started (by kernel_rfl) Tryd.func4
    (ChangeSpec.witness_shaped (enc := enc) (C := Tryd.checked) (os := os) (X := fun w _ => laidMetH Tryd.prog Rows.fnExactHoldsRow.laid w) false (World.doorLaid Tryd.prog 100 os) #[.agg #[.int .i64 0, .int .i64 0, .int .i64 0, .int .i64 0, .int .i64 0, .int .i64 0], .string ByteArray.empty, .int .i64 0] 8 rfl (World.shaped_of_RefB (by kernel_rfl) (by kernel_rfl)) (by kernel_rfl) (by kernel_rfl) (by kernel_rfl) (door_met os _)) ?_
  intro W base args ds gs before hval0 hW _ _ hL _
  have hval : ∀ (j : Nat) t v, Tryd.f4.params[j]? = some t → args[j]? = some v → Value.okWide Tryd.prog W .any base t v := hval0
  have hW' := hW
  obtain ⟨p, q, hA0, hV, rfl, hfz, hnd⟩ := hW
  have hA : DataW.TrodAll enc Tryd.prog W 0 (fun _ => true) true Tryd.f4.params.toList args.toList ds p := hA0
  rw [Tryd.params4] at hA hval
  obtain ⟨v0, vs0, d0, ds0, p0, q0, hargs, rfl, rfl, h0, r0⟩ := trodAll_cons hA
  obtain ⟨v1, vs1, d1, ds1, p1, q1, rfl, rfl, rfl, h1, r1⟩ := trodAll_cons r0
  obtain ⟨v2, vs2, d2, ds2, p2, q2, rfl, rfl, rfl, h2, r2⟩ := trodAll_cons r1
  obtain ⟨rfl, rfl, rfl⟩ := trodAll_nil r2
  obtain rfl : args = #[v0, v1, v2] := by cases args; simp_all
  have hP : laidMet Tryd.prog [("math/bits.deBruijn32tab", Rows.laid_math_bits_deBruijn32tab), ("math/bits.deBruijn64tab", Rows.laid_math_bits_deBruijn64tab), ("internal/strconv.uint64pow10", Rows.laid_internal_strconv_uint64pow10), ("loop.example/g00307/impl.errNone", Rows.laid_loop_example_g00307_impl_errNone), ("loop.example/g00307/impl.errOther", Rows.laid_loop_example_g00307_impl_errOther), ("loop.example/g00307/impl.errOver", Rows.laid_loop_example_g00307_impl_errOver)] W := by rw [MakeChecks.laidMetH_plain _ _ _ (by kernel_rfl)] at hL; exact hL
  obtain ⟨e_errNone, s_errNone, hv_errNone, _, _, _⟩ := laid_sentinel (hP.tail.tail.tail) g_errNone t_errNone Tryd.underlying70 Se.row Tryd.underlying163 Tryd.underlying178 rfl rfl Tryd.underlying9 Se.cellsE Se.cellsS
  obtain ⟨e_errOther, s_errOther, hv_errOther, _, _, _⟩ := laid_sentinel (hP.tail.tail.tail.tail) g_errOther t_errOther Tryd.underlying70 Se.row Tryd.underlying163 Tryd.underlying178 rfl rfl Tryd.underlying9 Se.cellsE Se.cellsS
  obtain ⟨e_errOver, s_errOver, hv_errOver, _, _, _⟩ := laid_sentinel (hP.tail.tail.tail.tail.tail) g_errOver t_errOver Tryd.underlying70 Se.row Tryd.underlying163 Tryd.underlying178 rfl rfl Tryd.underlying9 Se.cellsE Se.cellsS
  have hV1 : DataW.TrodVars enc Tryd.prog W (fun _ => true) ["loop.example/g00307/impl.errNone", "loop.example/g00307/impl.errOver", "loop.example/g00307/impl.errOther"] gs q := hV
  obtain ⟨rfl, rfl⟩ := hV1.unique (Se.vars_cons enc g_errNone t_errNone hv_errNone trivial (Se.vars_cons enc g_errOver t_errOver hv_errOver trivial (Se.vars_cons enc g_errOther t_errOther hv_errOther trivial (Se.vars_nil enc _))))
  have k0 := h0
  have lt0 : ∀ x ∈ p0, x.block < W.heap.size := by obtain ⟨m, hm⟩ := k0; exact DataW.trod_lt m _ _ _ hm
  have k1 := h1
  have lt1 : ∀ x ∈ p1, x.block < W.heap.size := by obtain ⟨m, hm⟩ := k1; exact DataW.trod_lt m _ _ _ hm
  have k2 := h2
  have lt2 : ∀ x ∈ p2, x.block < W.heap.size := by obtain ⟨m, hm⟩ := k2; exact DataW.trod_lt m _ _ _ hm
  obtain ⟨ka0, kb0, u0, ra0, rb0, t0, rfl⟩ := Dd.open_seal (hval 0 36 v0 rfl rfl) h0
  obtain ⟨s1, rfl, rfl, rfl, ws1⟩ := Go.ChangeMaps.open_string Tryd.underlying9 (hval 1 9 v1 rfl rfl) h1
  obtain ⟨n2, rfl, rfl, rfl, wn2⟩ := open_int Tryd.underlying2 (hval 2 2 v2 rfl rfl) h2
  clear hA0 hval0
  refine (walk ka0 kb0 u0 ra0 rb0 t0 s1 ws1 n2 e_errNone e_errOther e_errOver W (Sg.tab_of_plain hP) (Se.at_of_var g_errNone hv_errNone) (Se.at_of_var g_errOther hv_errOther) (Se.at_of_var g_errOver hv_errOver)).mono fun e W' ⟨he, bel⟩ => ?_
  subst he
  exact ⟨_, rfl, _, _, _, [], _, [.cell 0 0, .cell 1 0, .cell 2 0], hW', trodAll_mk1 (shut_bool Tryd.underlying4 _), (trodAll_cons_mk (Below.trod laidOut (by kernel_rfl) (of_decide_eq_true (by kernel_rfl)) k0 bel lt0) (trodAll_cons_mk (Below.trod laidOut (by kernel_rfl) (of_decide_eq_true (by kernel_rfl)) k1 bel lt1) (trodAll_cons_mk (Below.trod laidOut (by kernel_rfl) (of_decide_eq_true (by kernel_rfl)) k2 bel lt2) trodAll_mk0))), (Se.vars_cons enc g_errNone t_errNone (Se.var_kept hv_errNone bel) trivial (Se.vars_cons enc g_errOver t_errOver (Se.var_kept hv_errOver bel) trivial (Se.vars_cons enc g_errOther t_errOther (Se.var_kept hv_errOther bel) trivial (Se.vars_nil enc _)))), bel.frame _, fun h => by cases h⟩

theorem over : Rows.fnExactHoldsRow.holds Tryd.pinned (OpenSpec.ofChange Rows.fnExactHoldsSpec) :=
  OpenClaim.holds_of_wide 4 Tryd.f4 rfl rfl rfl rfl rfl rfl rfl ⟨rfl, rfl, rfl, rfl, rfl⟩ rfl rfl rfl rfl rfl (by kernel_rfl) Tryd.func4 (by kernel_rfl)
    (of_decide_eq_true (by kernel_rfl)) (by unfold Func.isWrapper; first | (rw [if_pos (by decide +kernel)]; kernel_rfl) | (rw [if_neg (by decide +kernel)]; exact ⟨rfl, rfl⟩))
    (fun os started H enc _ => lifted os started H enc)
theorem card : Rows.FnExactHoldsCardSaid :=
  Claim7.holds_tied_plain_at .later [] [.data, .data, .data, .sentinel, .sentinel, .sentinel] true (true, "1870000d0ade541ca2dc23333e8f72b353b16fa3e0e59de54917b446bf30625c") false
    over (fun _ h => by cases h) (by kernel_rfl) (fun _ h => by cases h) fnExactHolds_row_tie rfl ⟨rfl, rfl⟩ (by kernel_rfl) rfl
    (fun f fn hf hfn => by
      obtain rfl : f = 4 := Option.some.inj ((show Tryd.prog.funcNamed "loop.example/g00307/laws.FnExactHolds" = some 4 by kernel_rfl).symm.trans hf) |>.symm
      obtain rfl : fn = Tryd.f4 := (Option.some.inj (Tryd.func4.symm.trans hfn)).symm
      exact ⟨by kernel_rfl, fun j t ht => by
        rw [Tryd.params4] at ht
        have hm : t ∈ [36, 9, 2] := by simpa using Array.mem_of_getElem? ht
        have hall : ([36, 9, 2].all fun u => !Tryd.prog.wantsStandIn u) = true := by kernel_rfl
        exact (show Tryd.prog.wantsStandIn t = false by simpa using List.all_eq_true.1 hall t hm)⟩)
    (by kernel_rfl)
end Go.Proofs.YtniadgjckjnfiaaDoor.fnExactHolds
namespace Go.Proofs.YtniadgjckjnfiaaDoor
theorem fnExactHolds_holds : Rows.FnExactHoldsCardSaid := fnExactHolds.card
#print axioms fnExactHolds_holds
end Go.Proofs.YtniadgjckjnfiaaDoor
