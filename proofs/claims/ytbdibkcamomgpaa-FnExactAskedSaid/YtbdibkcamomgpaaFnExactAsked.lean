/-
  FnExactAsked answers true at every list of Acts and every text and leaves the list as it was: Asked of the program answers as the specification's and writes into no argument. No condition.
-/
import Derived.Test.YtbdibkcamomgpaaRows
import Derived.WalkKit
import Derived.ProofKit
import Derived.OpenShut
import Derived.ShutString
import Derived.ChangeOld
import Derived.Below
import Derived.Lib.SmallJoins
import Derived.Test.YtbdibkcamomgpaaAskX
import Derived.Test.YtbdibkcamomgpaaActL
import Derived.Test.YtbdibkcamomgpaaActO
namespace Go.Proofs.Ytbdibkcamomgpaa.fnExactAsked
open Go.ChangeShapes Go.WideShapes Go.ChangeAt Go.RowKit Go.Joins
set_option linter.unusedVariables false

theorem own : ownKnob Try.prog.godebug = none := by kernel_rfl
theorem laidOut : laidOutB Try.prog = true := by kernel_rfl
open Go.ChangeShapes Go.WideShapes Go.ChangeAt Go.RowKit
open Ac (hidIt)

set_option maxRecDepth 100000 in
set_option maxHeartbeats 32000000 in

theorem walk (a0 : Option Addr) (cap0 : Nat) (L0 : List Ac.Rw) (s1 : ByteArray) (ws1 : s1.size ≤ maxLen) (w : World) (w0 : Ac.In w a0 cap0 L0) :
    Calls Try.prog 4 #[.slice a0 L0.length cap0, .string s1] w fun e w' => e = .returned (.bool true) ∧ Below w.heap.size w w' := by
  have HB := hidIt (Below.refl w.heap.size w)
  have HR0 := hidIt w0.rd
  have hlen0 : L0.length ≤ 9223372036854775807 := Nat.le_trans w0.le w0.cap
  have Z0 := hidIt (fun W l (r : Ac.Rd W a0 L0) h0 h1 => Ac.szS_any a0 cap0 L0 l W r hlen0 w0.short h0 h1)
  have T0 := hidIt (fun W (r : Ac.Rd W a0 L0) hl => Ac.toS_any a0 cap0 L0 W r hl)
  have E0 := hidIt (fun W a a' c c' (r : Ac.Rd W a L0) (r' : Ac.Rd W a' L0) => Ac.eqS_same a a' c c' L0 W r r' hlen0)
  have hs0 := w0.short
  have CS : Hid (∀ W, ∀ a ca, Ac.Rd W a L0 → (a = none → ca = 0) → L0.length ≤ ca → ca ≤ maxLen → s1.size ≤ 1048576 → L0.length ≤ 1048576 → Calls Try.prog 16 #[.slice a L0.length ca, .string s1] W fun e w' => e = .returned (.int .i64 (Ac.cntA s1 L0 : Int)) ∧ Below W.heap.size W w') := hidIt (fun W a ca ra na _ _ hk hl => Ac.spec_Asked a ca L0 s1 W ra (by omega))
  have CI : Hid (∀ W, ∀ a ca, Ac.Rd W a L0 → (a = none → ca = 0) → L0.length ≤ ca → ca ≤ maxLen → s1.size ≤ 1048576 → L0.length ≤ 1048576 → Calls Try.prog 17 #[.slice a L0.length ca, .string s1] W fun e w' => e = .returned (.int .i64 (Ac.cntA s1 L0 : Int)) ∧ Below W.heap.size W w') := hidIt (fun W a ca ra na ha hca hk hl => Ac.impl_Asked a ca L0 s1 W ra hs0 (by omega))
  generalize (Ac.cntA s1 L0 : Int) = R0 at CS CI
  have hR0 : (R0 != R0) = false := by simp
  have hR0' : (R0 == R0) = true := by simp
  clear hs0
  generalize hn0 : L0.length = m0 at *
  have HN0 := hidIt hn0
  clear hn0
  clear w0
  go_enter Try.func4, Try.ntmps4
  by_cases hks1 : (1048576 : Int) < (s1.size : Int)
  · go_wp2_with (fail)
    go_ret
    exact ⟨rfl, HB.out⟩
  go_wp2_with (fail)
  refine (Z0.out _ _ (HR0.out.kept HB.out) (by first | decide | omega) (by first | decide | omega)).mono ?_
  rintro e w1 ⟨l0, rfl, hl0, hz0, kk⟩
  have hl0s := hidIt hl0
  replace hl0 := hl0s.out.le
  replace HB := hidIt (HB.out.trans (kk.mono HB.out.size))
  clear kk
  by_cases hneg0 : l0 < 0
  · go_wp2_with (fail)
    go_ret
    exact ⟨rfl, HB.out⟩
  have hzz0 := hz0 (by omega)
  have hm0 : m0 ≤ 1048576 := hzz0.1
  clear hz0 hzz0
  have HBS_w1 : Hid (w.heap.size ≤ w1.heap.size) := hidIt HB.out.size
  go_wp2_with (fail)
  refine (T0.out _ (HR0.out.kept HB.out) hm0).mono ?_
  rintro e w2 ⟨v_s0, rfl, oo, kk⟩
  have s0 := hidIt oo
  clear oo
  obtain ⟨p_s0, q_s0, ev, hc_s0, hd_s0, _⟩ := s0.out.formN HN0.out
  subst ev
  have G_s0 := hidIt (fun W b (M : List Ac.Rw) (h : Ac.Own W b (.slice p_s0 m0 q_s0) M) => show Ac.Rd W p_s0 M by obtain ⟨a, c, e, _, _, r, _⟩ := h.form; simp only [Value.slice.injEq] at e; rw [e.1]; exact r)
  have N_s0 := hidIt (fun W b (M : List Ac.Rw) (h : Ac.Own W b (.slice p_s0 m0 q_s0) M) (e : p_s0 = none) => show q_s0 = 0 by obtain ⟨a, c, e1, _, _, _, h0, _⟩ := h.form; simp only [Value.slice.injEq] at e1; rw [e1.2.2]; exact h0 (e1.1 ▸ e))
  replace HB := hidIt (HB.out.trans (kk.mono HB.out.size))
  clear kk
  have HBS_w2 : Hid (w.heap.size ≤ w2.heap.size) := hidIt HB.out.size
  go_wp2_with (fail)
  refine (CS.out _ _ _ (G_s0.out _ _ _ s0.out) (N_s0.out _ _ _ s0.out) hc_s0 hd_s0 (by omega) (by omega)).mono ?_
  rintro e w3 ⟨rfl, kk⟩
  replace HB := hidIt (HB.out.trans (kk.mono HB.out.size))
  replace s0 := hidIt (s0.out.kept kk)
  clear kk
  clear s0
  have HBS_w3 : Hid (w.heap.size ≤ w3.heap.size) := hidIt HB.out.size
  go_wp2_with (fail)
  refine (T0.out _ (HR0.out.kept HB.out) hm0).mono ?_
  rintro e w4 ⟨v_x0x, rfl, oo, kk⟩
  have x0x := hidIt oo
  clear oo
  obtain ⟨p_x0x, q_x0x, ev, hc_x0x, hd_x0x, _⟩ := x0x.out.formN HN0.out
  subst ev
  have G_x0x := hidIt (fun W b (M : List Ac.Rw) (h : Ac.Own W b (.slice p_x0x m0 q_x0x) M) => show Ac.Rd W p_x0x M by obtain ⟨a, c, e, _, _, r, _⟩ := h.form; simp only [Value.slice.injEq] at e; rw [e.1]; exact r)
  have N_x0x := hidIt (fun W b (M : List Ac.Rw) (h : Ac.Own W b (.slice p_x0x m0 q_x0x) M) (e : p_x0x = none) => show q_x0x = 0 by obtain ⟨a, c, e1, _, _, _, h0, _⟩ := h.form; simp only [Value.slice.injEq] at e1; rw [e1.2.2]; exact h0 (e1.1 ▸ e))
  replace HB := hidIt (HB.out.trans (kk.mono HB.out.size))
  clear kk
  have HBS_w4 : Hid (w.heap.size ≤ w4.heap.size) := hidIt HB.out.size
  go_wp2_with (fail)
  refine (CI.out _ _ _ (G_x0x.out _ _ _ x0x.out) (N_x0x.out _ _ _ x0x.out) hc_x0x hd_x0x (by omega) (by omega)).mono ?_
  rintro e w5 ⟨rfl, kk⟩
  replace HB := hidIt (HB.out.trans (kk.mono HB.out.size))
  replace x0x := hidIt (x0x.out.kept kk)
  clear kk
  have HBS_w5 : Hid (w.heap.size ≤ w5.heap.size) := hidIt HB.out.size
  have B_x0x_y0 := hidIt (x0x.out.blk (Nat.le_refl _))
  go_wp2_with (fail)
  refine (T0.out _ (HR0.out.kept HB.out) hm0).mono ?_
  rintro e w6 ⟨v_y0, rfl, oo, kk⟩
  have y0 := hidIt oo
  clear oo
  obtain ⟨p_y0, q_y0, ev, hc_y0, hd_y0, _⟩ := y0.out.formN HN0.out
  subst ev
  have G_y0 := hidIt (fun W b (M : List Ac.Rw) (h : Ac.Own W b (.slice p_y0 m0 q_y0) M) => show Ac.Rd W p_y0 M by obtain ⟨a, c, e, _, _, r, _⟩ := h.form; simp only [Value.slice.injEq] at e; rw [e.1]; exact r)
  have N_y0 := hidIt (fun W b (M : List Ac.Rw) (h : Ac.Own W b (.slice p_y0 m0 q_y0) M) (e : p_y0 = none) => show q_y0 = 0 by obtain ⟨a, c, e1, _, _, _, h0, _⟩ := h.form; simp only [Value.slice.injEq] at e1; rw [e1.2.2]; exact h0 (e1.1 ▸ e))
  replace HB := hidIt (HB.out.trans (kk.mono HB.out.size))
  replace x0x := hidIt (x0x.out.kept kk)
  clear kk
  go_wp2_with (fail)
  refine (E0.out _ p_x0x p_y0 q_x0x q_y0 (G_x0x.out _ _ _ x0x.out) (G_y0.out _ _ _ y0.out)).mono ?_
  rintro e w7 ⟨rfl, kk⟩
  replace HB := hidIt (HB.out.trans (kk.mono HB.out.size))
  replace x0x := hidIt (x0x.out.kept kk)
  replace y0 := hidIt (y0.out.kept kk)
  clear kk
  clear y0
  go_wp2_with (fail)
  go_ret
  exact ⟨rfl, HB.out⟩

set_option maxRecDepth 100000 in
theorem lifted (os : Os) (started : os.Started) (H : Type) (enc : TypeId × Value → H) :
    ReturnsInHanded {} Try.checked os 4 .any (Rows.fnExactAskedSpec.pre6 enc Try.prog Try.f4 Rows.fnExactAskedRow.domain false) (Rows.fnExactAskedSpec.post enc Try.prog Try.f4 false true false false) := by
  refine returnsInHanded_of_change (C := Try.checked) own started (by kernel_rfl) Try.func4
    (ChangeSpec.witness6 (enc := enc) (C := Try.checked) false ⟨#[], #[.slice none 0 0, .string ByteArray.empty], []⟩ 8 (by kernel_rfl) (by kernel_rfl) (by kernel_rfl) (by kernel_rfl)) ?_
  intro W base args ds gs before hval0 hW hcnd _
  have hval : ∀ (j : Nat) t v, Try.f4.params[j]? = some t → args[j]? = some v → Value.okWide Try.prog W .any base t v := hval0
  have hW' := hW
  obtain ⟨p, q, hA0, hV, rfl, hfz, hnd⟩ := hW
  have hA : DataW.TrodAll enc Try.prog W 0 (fun _ => true) true Try.f4.params.toList args.toList ds p := hA0
  rw [Try.params4] at hA hval
  obtain ⟨v0, vs0, d0, ds0, p0, q0, hargs, rfl, rfl, h0, r0⟩ := trodAll_cons hA
  obtain ⟨v1, vs1, d1, ds1, p1, q1, rfl, rfl, rfl, h1, r1⟩ := trodAll_cons r0
  obtain ⟨rfl, rfl, rfl⟩ := trodAll_nil r1
  obtain rfl : args = #[v0, v1] := by cases args; simp_all
  obtain ⟨rfl, rfl⟩ := trodVars_none hV
  have k0 := h0
  have lt0 : ∀ x ∈ p0, x.block < W.heap.size := by obtain ⟨m, hm⟩ := k0; exact DataW.trod_lt m _ _ _ hm
  have k1 := h1
  have lt1 : ∀ x ∈ p1, x.block < W.heap.size := by obtain ⟨m, hm⟩ := k1; exact DataW.trod_lt m _ _ _ hm
  obtain ⟨a0, cap0, L0, rfl, w0⟩ := Ac.open_acts (hval 0 22 v0 rfl rfl) h0
  obtain ⟨s1, rfl, rfl, rfl, ws1⟩ := Go.ChangeMaps.open_string Try.underlying9 (hval 1 9 v1 rfl rfl) h1
  clear hA0 hval0
  refine (walk a0 cap0 L0 s1 ws1 W w0).mono fun e W' ⟨he, bel⟩ => ?_
  subst he
  exact ⟨_, rfl, _, _, _, [], _, [], hW', trodAll_mk1 (shut_bool Try.underlying4 _), (trodAll_cons_mk (Below.trod laidOut (by kernel_rfl) (of_decide_eq_true (by kernel_rfl)) k0 bel lt0) (trodAll_cons_mk (Below.trod laidOut (by kernel_rfl) (of_decide_eq_true (by kernel_rfl)) k1 bel lt1) trodAll_mk0)), rfl, bel.frame _, fun h => by cases h⟩

theorem over : Rows.fnExactAskedRow.holds Try.pinned (OpenSpec.ofChange Rows.fnExactAskedSpec) :=
  OpenClaim.holds_of_wide 4 Try.f4 rfl rfl rfl rfl rfl rfl rfl ⟨rfl, rfl, rfl, rfl, rfl⟩ rfl rfl rfl rfl rfl (by kernel_rfl) Try.func4 (by kernel_rfl)
    (of_decide_eq_true (by kernel_rfl)) (by unfold Func.isWrapper; first | (rw [if_pos (by decide +kernel)]; kernel_rfl) | (rw [if_neg (by decide +kernel)]; exact ⟨rfl, rfl⟩))
    (fun os started H enc _ => lifted os started H enc)
end Go.Proofs.Ytbdibkcamomgpaa.fnExactAsked
namespace Go.Proofs.Ytbdibkcamomgpaa
theorem fnExactAsked_holds : Rows.FnExactAskedSaid := fnExactAsked.over
#print axioms fnExactAsked_holds
end Go.Proofs.Ytbdibkcamomgpaa
