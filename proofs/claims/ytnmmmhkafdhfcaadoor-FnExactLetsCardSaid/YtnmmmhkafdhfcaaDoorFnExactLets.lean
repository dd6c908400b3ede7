/-
  FnExactLets answers true at every list of Entries, every two texts and both Bools and leaves the list as it was: Lets of the program answers as the specification's and writes into no argument. No condition.
-/
import Derived.Test.YtnmmmhkafdhfcaaDoorRows
import Derived.Test.YtnmmmhkafdhfcaaDoorSenV
import Derived.WalkKit
import Derived.ProofKit
import Derived.OpenShut
import Derived.ShutString
import Derived.ChangeOld
import Derived.Below
import Derived.Lib.SmallJoins
import Derived.Lay
import Derived.Test.YtnmmmhkafdhfcaaDoorTie
import Derived.Test.YtnmmmhkafdhfcaaDoorCards
import Derived.LaidMore
import Derived.Stop.Joined
import Derived.SevenTiedAt
import Derived.Test.YtnmmmhkafdhfcaaDoorVwX
import Derived.Test.YtnmmmhkafdhfcaaDoorEntL
namespace Go.Proofs.YtnmmmhkafdhfcaaDoor.fnExactLets
open Go.ChangeShapes Go.WideShapes Go.ChangeAt Go.RowKit Go.Joins
set_option linter.unusedVariables false

theorem own : ownKnob Tryd.prog.godebug = none := by kernel_rfl
theorem laidOut : laidOutB Tryd.prog = true := by kernel_rfl
theorem g_errUnread : Tryd.prog.globalNamed "loop.example/g00307/impl.errUnread" = some 0 := by kernel_rfl
theorem t_errUnread : (Tryd.prog.globals[0]?).map (·.type) = some 70 := by kernel_rfl
open Go.ChangeShapes Go.WideShapes Go.ChangeAt Go.RowKit
open En (hidIt)

set_option maxRecDepth 100000 in
set_option maxHeartbeats 32000000 in

theorem walk (a0 : Option Addr) (cap0 : Nat) (L0 : List En.Rw) (s1 : ByteArray) (ws1 : s1.size ≤ maxLen) (s2 : ByteArray) (ws2 : s2.size ≤ maxLen) (b3 : Bool) (e_errUnread : Addr) (w : World) (w0 : En.In w a0 cap0 L0) (h_errUnread : Se.At w 0 e_errUnread) :
    Calls Tryd.prog 5 #[.slice a0 L0.length cap0, .string s1, .string s2, .bool b3] w fun e w' => e = .returned (.bool true) ∧ Below w.heap.size w w' := by
  have HB := hidIt (Below.refl w.heap.size w)
  have HR0 := hidIt w0.rd
  have hlen0 : L0.length ≤ 9223372036854775807 := Nat.le_trans w0.le w0.cap
  have Z0 := hidIt (fun W l (r : En.Rd W a0 L0) h0 h1 => En.szS_any a0 cap0 L0 l W r hlen0 w0.short h0 h1)
  have T0 := hidIt (fun W (r : En.Rd W a0 L0) hl => En.toS_any a0 cap0 L0 W r hl)
  have E0 := hidIt (fun W a a' c c' (r : En.Rd W a L0) (r' : En.Rd W a' L0) => En.eqS_same a a' c c' L0 W r r' hlen0)
  have hs0 : En.shortR L0 := w0.short
  have HU := hidIt h_errUnread
  clear h_errUnread
  have CS : Hid (∀ W, ∀ a ca, En.Rd W a L0 → (a = none → ca = 0) → L0.length ≤ ca → ca ≤ maxLen → s1.size ≤ 1048576 → L0.length ≤ 1048576 → Se.At W 0 e_errUnread → s2.size ≤ 1048576 → Calls Tryd.prog 18 #[.slice a L0.length ca, .string s1, .string s2, .bool b3] W fun e w' => e = .returned (.bool (Vw.letsR L0 s1 s2 b3)) ∧ Below W.heap.size W w') := hidIt (fun W a ca ra na _ _ hk hm hu hk2 => Vw.spec_Lets a ca L0 s1 s2 b3 W ra (by omega) hs0 hk hk2)
  have CI : Hid (∀ W, ∀ a ca, En.Rd W a L0 → (a = none → ca = 0) → L0.length ≤ ca → ca ≤ maxLen → s1.size ≤ 1048576 → L0.length ≤ 1048576 → Se.At W 0 e_errUnread → s2.size ≤ 1048576 → Calls Tryd.prog 19 #[.slice a L0.length ca, .string s1, .string s2, .bool b3] W fun e w' => e = .returned (.bool (Vw.letsR L0 s1 s2 b3)) ∧ Below W.heap.size W w') := hidIt (fun W a ca ra na _ _ hk hm hu hk2 => Vw.impl_Lets a ca L0 s1 s2 b3 e_errUnread W ra (by omega) hs0 hk hk2 hu)
  generalize Vw.letsR L0 s1 s2 b3 = R0 at CS CI
  have hR0 : (R0 != R0) = false := by cases R0 <;> rfl
  have hR0' : (R0 == R0) = true := by cases R0 <;> rfl
  clear hs0
  generalize hn0 : L0.length = m0 at *
  have HN0 := hidIt hn0
  clear hn0
  clear w0
  go_enter Tryd.func5, Tryd.ntmps5
  by_cases hks1 : (1048576 : Int) < (s1.size : Int)
  · go_wp2_with (fail)
    go_ret
    exact ⟨rfl, HB.out⟩
  by_cases hks2 : (1048576 : Int) < (s2.size : Int)
  · go_wp2_with (fail)
    go_ret
    exact ⟨rfl, HB.out⟩
  go_wp2_with (fail)
  refine (Z0.out _ _ (HR0.out.kept HB.out) (by first | decide | omega) (by first | decide | omega)).mono ?_
  rintro e w1 ⟨l0, rfl, hl0, hz0, kk⟩
  have hl0s := hidIt hl0
  replace hl0 := hl0s.out.le
  replace HB := hidIt (HB.out.trans (kk.mono HB.out.size))
  clear kk
  by_cases hneg0 : l0 < 0
  · go_wp2_with (fail)
    go_ret
    exact ⟨rfl, HB.out⟩
  have hzz0 := hz0 (by omega)
  have hm0 : m0 ≤ 1048576 := hzz0.1
  clear hz0 hzz0
  have HBS_w1 : Hid (w.heap.size ≤ w1.heap.size) := hidIt HB.out.size
  go_wp2_with (fail)
  refine (T0.out _ (HR0.out.kept HB.out) hm0).mono ?_
  rintro e w2 ⟨v_s0, rfl, oo, kk⟩
  have s0 := hidIt oo
  clear oo
  obtain ⟨p_s0, q_s0, ev, hc_s0, hd_s0, _⟩ := s0.out.formN HN0.out
  subst ev
  have G_s0 := hidIt (fun W b (M : List En.Rw) (h : En.Own W b (.slice p_s0 m0 q_s0) M) => show En.Rd W p_s0 M by obtain ⟨a, c, e, _, _, r, _⟩ := h.form; simp only [Value.slice.injEq] at e; rw [e.1]; exact r)
  have N_s0 := hidIt (fun W b (M : List En.Rw) (h : En.Own W b (.slice p_s0 m0 q_s0) M) (e : p_s0 = none) => show q_s0 = 0 by obtain ⟨a, c, e1, _, _, _, h0, _⟩ := h.form; simp only [Value.slice.injEq] at e1; rw [e1.2.2]; exact h0 (e1.1 ▸ e))
  replace HB := hidIt (HB.out.trans (kk.mono HB.out.size))
  clear kk
  have HBS_w2 : Hid (w.heap.size ≤ w2.heap.size) := hidIt HB.out.size
  go_wp2_with (fail)
  refine (CS.out _ _ _ (G_s0.out _ _ _ s0.out) (N_s0.out _ _ _ s0.out) hc_s0 hd_s0 (by omega) hm0 (HU.out.kept HB.out) (by omega)).mono ?_
  rintro e w3 ⟨rfl, kk⟩
  replace HB := hidIt (HB.out.trans (kk.mono HB.out.size))
  replace s0 := hidIt (s0.out.kept kk)
  clear kk
  clear s0
  have HBS_w3 : Hid (w.heap.size ≤ w3.heap.size) := hidIt HB.out.size
  go_wp2_with (fail)
  refine (T0.out _ (HR0.out.kept HB.out) hm0).mono ?_
  rintro e w4 ⟨v_x0x, rfl, oo, kk⟩
  have x0x := hidIt oo
  clear oo
  obtain ⟨p_x0x, q_x0x, ev, hc_x0x, hd_x0x, _⟩ := x0x.out.formN HN0.out
  subst ev
  have G_x0x := hidIt (fun W b (M : List En.Rw) (h : En.Own W b (.slice p_x0x m0 q_x0x) M) => show En.Rd W p_x0x M by obtain ⟨a, c, e, _, _, r, _⟩ := h.form; simp only [Value.slice.injEq] at e; rw [e.1]; exact r)
  have N_x0x := hidIt (fun W b (M : List En.Rw) (h : En.Own W b (.slice p_x0x m0 q_x0x) M) (e : p_x0x = none) => show q_x0x = 0 by obtain ⟨a, c, e1, _, _, _, h0, _⟩ := h.form; simp only [Value.slice.injEq] at e1; rw [e1.2.2]; exact h0 (e1.1 ▸ e))
  replace HB := hidIt (HB.out.trans (kk.mono HB.out.size))
  clear kk
  have HBS_w4 : Hid (w.heap.size ≤ w4.heap.size) := hidIt HB.out.size
  go_wp2_with (fail)
  refine (CI.out _ _ _ (G_x0x.out _ _ _ x0x.out) (N_x0x.out _ _ _ x0x.out) hc_x0x hd_x0x (by omega) hm0 (HU.out.kept HB.out) (by omega)).mono ?_
  rintro e w5 ⟨rfl, kk⟩
  replace HB := hidIt (HB.out.trans (kk.mono HB.out.size))
  replace x0x := hidIt (x0x.out.kept kk)
  clear kk
  have HBS_w5 : Hid (w.heap.size ≤ w5.heap.size) := hidIt HB.out.size
  have B_x0x_y0 := hidIt (x0x.out.blk (Nat.le_refl _))
  go_wp2_with (fail)
  refine (T0.out _ (HR0.out.kept HB.out) hm0).mono ?_
  rintro e w6 ⟨v_y0, rfl, oo, kk⟩
  have y0 := hidIt oo
  clear oo
  obtain ⟨p_y0, q_y0, ev, hc_y0, hd_y0, _⟩ := y0.out.formN HN0.out
  subst ev
  have G_y0 := hidIt (fun W b (M : List En.Rw) (h : En.Own W b (.slice p_y0 m0 q_y0) M) => show En.Rd W p_y0 M by obtain ⟨a, c, e, _, _, r, _⟩ := h.form; simp only [Value.slice.injEq] at e; rw [e.1]; exact r)
  have N_y0 := hidIt (fun W b (M : List En.Rw) (h : En.Own W b (.slice p_y0 m0 q_y0) M) (e : p_y0 = none) => show q_y0 = 0 by obtain ⟨a, c, e1, _, _, _, h0, _⟩ := h.form; simp only [Value.slice.injEq] at e1; rw [e1.2.2]; exact h0 (e1.1 ▸ e))
  replace HB := hidIt (HB.out.trans (kk.mono HB.out.size))
  replace x0x := hidIt (x0x.out.kept kk)
  clear kk
  go_wp2_with (fail)
  refine (E0.out _ p_x0x p_y0 q_x0x q_y0 (G_x0x.out _ _ _ x0x.out) (G_y0.out _ _ _ y0.out)).mono ?_
  rintro e w7 ⟨rfl, kk⟩
  replace HB := hidIt (HB.out.trans (kk.mono HB.out.size))
  replace x0x := hidIt (x0x.out.kept kk)
  replace y0 := hidIt (y0.out.kept kk)
  clear kk
  clear y0
  go_wp2_with (fail)
  go_ret
  exact ⟨rfl, HB.out⟩

theorem door_met (os : Os) (args : Array Value) : laidMetH Tryd.prog Rows.fnExactLetsRow.laid ((World.laidAll Tryd.prog os Rows.fnExactLetsRow.laid).forCall (fun _ _ => 0) ⟨#[], args, []⟩).memory := by
  rw [MakeChecks.laidMetH_plain _ _ _ (by kernel_rfl)]
  exact laidMet_laidAll _ (by kernel_rfl) (by kernel_rfl)
set_option maxRecDepth 100000 in
theorem lifted (os : Os) (started : os.Started) (H : Type) (enc : TypeId × Value → H) :
    ReturnsInHanded {} Tryd.checked os 5 .any (fun w args => (Rows.fnExactLetsSpec.pre enc Tryd.prog Tryd.f5 [] false w args ∧ laidMetH Tryd.prog Rows.fnExactLetsRow.laid w) ∧ sizedMet enc Tryd.prog Tryd.f5 (OpenSpec.ofChange Rows.fnExactLetsSpec) false w args) (Rows.fnExactLetsSpec.post enc Tryd.prog Tryd.f5 false true false false) := by
  refine returnsInHanded_of_change_and (C := Tryd.checked) (X := fun w _ => laidMetH Tryd.prog Rows.fnExactLetsRow.laid w) (fun _ _ _ hh h => h.of_heap hh) own started (by kernel_rfl) Tryd.func5
    (ChangeSpec.witness_shaped (enc := enc) (C := Tryd.checked) (os := os) (X := fun w _ => laidMetH Tryd.prog Rows.fnExactLetsRow.laid w) false (World.laidAll Tryd.prog os Rows.fnExactLetsRow.laid) #[.slice none 0 0, .string ByteArray.empty, .string ByteArray.empty, .bool false] 8 (World.laidAll_os _ _ _)
      (World.shaped_of_ZipB (by kernel_rfl) (by kernel_rfl)) (by kernel_rfl) (by kernel_rfl) (by kernel_rfl) (door_met os _)) ?_
  intro W base args ds gs before hval0 hW _ _ hL _
  have hval : ∀ (j : Nat) t v, Tryd.f5.params[j]? = some t → args[j]? = some v → Value.okWide Tryd.prog W .any base t v := hval0
  have hW' := hW
  obtain ⟨p, q, hA0, hV, rfl, hfz, hnd⟩ := hW
  have hA : DataW.TrodAll enc Tryd.prog W 0 (fun _ => true) true Tryd.f5.params.toList args.toList ds p := hA0
  rw [Tryd.params5] at hA hval
  obtain ⟨v0, vs0, d0, ds0, p0, q0, hargs, rfl, rfl, h0, r0⟩ := trodAll_cons hA
  obtain ⟨v1, vs1, d1, ds1, p1, q1, rfl, rfl, rfl, h1, r1⟩ := trodAll_cons r0
  obtain ⟨v2, vs2, d2, ds2, p2, q2, rfl, rfl, rfl, h2, r2⟩ := trodAll_cons r1
  obtain ⟨v3, vs3, d3, ds3, p3, q3, rfl, rfl, rfl, h3, r3⟩ := trodAll_cons r2
  obtain ⟨rfl, rfl, rfl⟩ := trodAll_nil r3
  obtain rfl : args = #[v0, v1, v2, v3] := by cases args; simp_all
  have hP : laidMet Tryd.prog [("unicode/utf8.acceptRanges", Rows.laid_unicode_utf8_acceptRanges), ("loop.example/g00307/impl.errUnread", Rows.laid_loop_example_g00307_impl_errUnread), ("unicode/utf8.first", Rows.laid_unicode_utf8_first)] W := by rw [MakeChecks.laidMetH_plain _ _ _ (by kernel_rfl)] at hL; exact hL
  obtain ⟨e_errUnread, s_errUnread, hv_errUnread, _, _, _⟩ := laid_sentinel (hP.tail) g_errUnread t_errUnread Tryd.underlying70 Se.row Tryd.underlying116 Tryd.underlying131 rfl rfl Tryd.underlying9 Se.cellsE Se.cellsS
  have hV1 : DataW.TrodVars enc Tryd.prog W (fun _ => true) ["loop.example/g00307/impl.errUnread"] gs q := hV
  obtain ⟨rfl, rfl⟩ := hV1.unique (Se.vars_cons enc g_errUnread t_errUnread hv_errUnread trivial (Se.vars_nil enc _))
  have k0 := h0
  have lt0 : ∀ x ∈ p0, x.block < W.heap.size := by obtain ⟨m, hm⟩ := k0; exact DataW.trod_lt m _ _ _ hm
  have k1 := h1
  have lt1 : ∀ x ∈ p1, x.block < W.heap.size := by obtain ⟨m, hm⟩ := k1; exact DataW.trod_lt m _ _ _ hm
  have k2 := h2
  have lt2 : ∀ x ∈ p2, x.block < W.heap.size := by obtain ⟨m, hm⟩ := k2; exact DataW.trod_lt m _ _ _ hm
  have k3 := h3
  have lt3 : ∀ x ∈ p3, x.block < W.heap.size := by obtain ⟨m, hm⟩ := k3; exact DataW.trod_lt m _ _ _ hm
  obtain ⟨a0, cap0, L0, rfl, w0⟩ := En.open_rows Tryd.underlying22 Tryd.underlying39 (by kernel_rfl) rfl rfl rfl rfl rfl (by kernel_rfl) (by kernel_rfl) (by kernel_rfl) (by kernel_rfl) (by kernel_rfl) Tryd.underlying9 Tryd.underlying9 Tryd.underlying2 Tryd.underlying2 Tryd.underlying4 (hval 0 22 v0 rfl rfl) h0
  obtain ⟨s1, rfl, rfl, rfl, ws1⟩ := Go.ChangeMaps.open_string Tryd.underlying9 (hval 1 9 v1 rfl rfl) h1
  obtain ⟨s2, rfl, rfl, rfl, ws2⟩ := Go.ChangeMaps.open_string Tryd.underlying9 (hval 2 9 v2 rfl rfl) h2
  obtain ⟨b3, rfl, rfl, rfl⟩ := open_bool Tryd.underlying4 (hval 3 4 v3 rfl rfl) h3
  clear hA0 hval0
  refine (walk a0 cap0 L0 s1 ws1 s2 ws2 b3 e_errUnread W w0 (Se.at_of_var g_errUnread hv_errUnread)).mono fun e W' ⟨he, bel⟩ => ?_
  subst he
  exact ⟨_, rfl, _, _, _, [], _, [.cell 0 0], hW', trodAll_mk1 (shut_bool Tryd.underlying4 _), (trodAll_cons_mk (Below.trod laidOut (by kernel_rfl) (of_decide_eq_true (by kernel_rfl)) k0 bel lt0) (trodAll_cons_mk (Below.trod laidOut (by kernel_rfl) (of_decide_eq_true (by kernel_rfl)) k1 bel lt1) (trodAll_cons_mk (Below.trod laidOut (by kernel_rfl) (of_decide_eq_true (by kernel_rfl)) k2 bel lt2) (trodAll_cons_mk (Below.trod laidOut (by kernel_rfl) (of_decide_eq_true (by kernel_rfl)) k3 bel lt3) trodAll_mk0)))), (Se.vars_cons enc g_errUnread t_errUnread (Se.var_kept hv_errUnread bel) trivial (Se.vars_nil enc _)), bel.frame _, fun h => by cases h⟩

theorem over : Rows.fnExactLetsRow.holds Tryd.pinned (OpenSpec.ofChange Rows.fnExactLetsSpec) :=
  OpenClaim.holds_of_wide 5 Tryd.f5 rfl rfl rfl rfl rfl rfl rfl ⟨rfl, rfl, rfl, rfl, rfl⟩ rfl rfl rfl rfl rfl (by kernel_rfl) Tryd.func5 (by kernel_rfl)
    (of_decide_eq_true (by kernel_rfl)) (by unfold Func.isWrapper; first | (rw [if_pos (by decide +kernel)]; kernel_rfl) | (rw [if_neg (by decide +kernel)]; exact ⟨rfl, rfl⟩))
    (fun os started H enc _ => lifted os started H enc)
theorem card : Rows.FnExactLetsCardSaid :=
  Claim7.holds_tied_plain_at .later [] [.data, .sentinel, .pinned] true (true, "9ee9df60e3a604a719c28ffe0d75ac24b0f75cecef16b5e3ff534437ffdab9ba") false
    over (fun _ h => by cases h) (by kernel_rfl) (fun _ h => by cases h) fnExactLets_row_tie rfl ⟨rfl, rfl⟩ (by kernel_rfl) rfl
    (fun f fn hf hfn => by
      obtain rfl : f = 5 := Option.some.inj ((show Tryd.prog.funcNamed "loop.example/g00307/laws.FnExactLets" = some 5 by kernel_rfl).symm.trans hf) |>.symm
      obtain rfl : fn = Tryd.f5 := (Option.some.inj (Tryd.func5.symm.trans hfn)).symm
      exact ⟨by kernel_rfl, fun j t ht => by
        rw [Tryd.params5] at ht
        have hm : t ∈ [22, 9, 9, 4] := by simpa using Array.mem_of_getElem? ht
        have hall : ([22, 9, 9, 4].all fun u => !Tryd.prog.wantsStandIn u) = true := by kernel_rfl
        exact (show Tryd.prog.wantsStandIn t = false by simpa using List.all_eq_true.1 hall t hm)⟩)
    (by kernel_rfl)
end Go.Proofs.YtnmmmhkafdhfcaaDoor.fnExactLets
namespace Go.Proofs.YtnmmmhkafdhfcaaDoor
theorem fnExactLets_holds : Rows.FnExactLetsCardSaid := fnExactLets.card
#print axioms fnExactLets_holds
end Go.Proofs.YtnmmmhkafdhfcaaDoor
