/-
  FnExactRulesOf answers true at every list of Entries and every text and leaves the list as it was: RulesOf of the program answers as the specification's, writes into no argument, and its answer lies in memory of its own, behind another call too. No condition.
-/
import Derived.Test.YtnmmmhkafdhfcaaDoorRows
import Derived.Test.YtnmmmhkafdhfcaaDoorSenV
import Derived.WalkKit
import Derived.ProofKit
import Derived.OpenShut
import Derived.ShutString
import Derived.ChangeOld
import Derived.Below
import Derived.Lib.SmallJoins
import Derived.Lay
import Derived.Test.YtnmmmhkafdhfcaaDoorTie
import Derived.Test.YtnmmmhkafdhfcaaDoorCards
import Derived.LaidMore
import Derived.Stop.Joined
import Derived.SevenTiedAt
import Derived.Test.YtnmmmhkafdhfcaaDoorVwX
import Derived.Test.YtnmmmhkafdhfcaaDoorEntL
import Derived.Test.YtnmmmhkafdhfcaaDoorEntN
import Derived.Test.YtnmmmhkafdhfcaaDoorRulL
import Derived.Test.YtnmmmhkafdhfcaaDoorRulN
namespace Go.Proofs.YtnmmmhkafdhfcaaDoor.fnExactRulesOf
open Go.ChangeShapes Go.WideShapes Go.ChangeAt Go.RowKit Go.Joins
set_option linter.unusedVariables false

theorem own : ownKnob Tryd.prog.godebug = none := by kernel_rfl
theorem laidOut : laidOutB Tryd.prog = true := by kernel_rfl
theorem g_errUnread : Tryd.prog.globalNamed "loop.example/g00307/impl.errUnread" = some 0 := by kernel_rfl
theorem t_errUnread : (Tryd.prog.globals[0]?).map (·.type) = some 70 := by kernel_rfl
open Go.ChangeShapes Go.WideShapes Go.ChangeAt Go.RowKit
open En (hidIt)

theorem row_lo {w w' : World} {b b' e e' s s' n n' : Nat} {u v : Value} {xs ys : List Value} (hu : w.ownsRow b e s u n xs) (hv : w.ownsRow b' e' s' v n' ys) (Y : Only (v.ownBlock.getD w.heap.size) w w') (hlt : ∀ g, u.ownBlock = some g → g < b') : w'.ownsRow b e s u n xs := by
  refine World.ownsRow.kept hu (row := some (v.ownBlock.getD w.heap.size)) ⟨Y.os, Y.tape, Y.output, Y.size, fun i hi hne => Y.block i hi (fun e => hne (by rw [e]))⟩ ?_
  cases hub : u.ownBlock with
  | none => exact .inl rfl
  | some g =>
    refine .inr (fun e => ?_)
    have h1 := hlt g hub
    have h2 := (World.ownsRow.lt hu g hub).2
    have e' := Option.some.inj e
    cases hvb : v.ownBlock with
    | none => rw [hvb] at e'; simp at e'; omega
    | some x => rw [hvb] at e'; have := (World.ownsRow.lt hv x hvb).1; simp at e'; omega
theorem row_hi {w w' : World} {b b' e e' s s' n n' : Nat} {u v : Value} {xs ys : List Value} (hu : w.ownsRow b e s u n xs) (hv : w.ownsRow b' e' s' v n' ys) (Y : Only (v.ownBlock.getD w.heap.size) w w') (hlt : ∀ g, v.ownBlock = some g → g < b) : w'.ownsRow b e s u n xs := by
  refine World.ownsRow.kept hu (row := some (v.ownBlock.getD w.heap.size)) ⟨Y.os, Y.tape, Y.output, Y.size, fun i hi hne => Y.block i hi (fun e => hne (by rw [e]))⟩ ?_
  cases hub : u.ownBlock with
  | none => exact .inl rfl
  | some g =>
    refine .inr (fun e => ?_)
    have h2 := World.ownsRow.lt hu g hub
    have e' := Option.some.inj e
    cases hvb : v.ownBlock with
    | none => rw [hvb] at e'; simp at e'; omega
    | some x => rw [hvb] at e'; have := hlt x hvb; simp at e'; omega
theorem row_below {W w w' : World} {b B e s n : Nat} {v : Value} {xs : List Value} (k : Below B W w) (hv : w.ownsRow b e s v n xs) (Y : Only (v.ownBlock.getD w.heap.size) w w') (hb : B ≤ b) (hs : B ≤ w.heap.size) : Below B W w' := by
  refine k.trans (Y.below ?_ hs)
  cases hvb : v.ownBlock with
  | none => simpa using hs
  | some x => have := (World.ownsRow.lt hv x hvb).1; simp; omega
set_option maxRecDepth 100000 in
set_option maxHeartbeats 32000000 in

theorem walk (a0 : Option Addr) (cap0 : Nat) (L0 : List En.Rw) (s1 : ByteArray) (ws1 : s1.size ≤ maxLen) (e_errUnread : Addr) (w : World) (w0 : En.In w a0 cap0 L0) (h_errUnread : Se.At w 0 e_errUnread) :
    Calls Tryd.prog 3 #[.slice a0 L0.length cap0, .string s1] w fun e w' => e = .returned (.bool true) ∧ Below w.heap.size w w' := by
  have HB := hidIt (Below.refl w.heap.size w)
  have HR0 := hidIt w0.rd
  have hlen0 : L0.length ≤ 9223372036854775807 := Nat.le_trans w0.le w0.cap
  have Z0 := hidIt (fun W l (r : En.Rd W a0 L0) h0 h1 => En.szS_any a0 cap0 L0 l W r hlen0 w0.short h0 h1)
  have T0 := hidIt (fun W (r : En.Rd W a0 L0) hl => En.toS_any a0 cap0 L0 W r hl)
  have E0 := hidIt (fun W a a' c c' (r : En.Rd W a L0) (r' : En.Rd W a' L0) => En.eqS_same a a' c c' L0 W r r' hlen0)
  have M0 := hidIt (fun b v W k (h : En.Own W b v L0) h1 h2 => En.markS_any b v L0 k W h h1 h2)
  have hs0 : En.shortR L0 := w0.short
  have HU := hidIt h_errUnread
  clear h_errUnread
  obtain ⟨A0, hA0⟩ : ∃ A, A = (Vw.rulR L0 s1).getD [] := ⟨_, rfl⟩
  have hA0l : A0.length ≤ 80 := by
    rw [hA0]
    exact Nat.le_trans (Vw.rul_len L0 s1) (by omega)
  have CS : Hid (∀ W, ∀ a ca, En.Rd W a L0 → (a = none → ca = 0) → L0.length ≤ ca → ca ≤ maxLen → s1.size ≤ 1048576 → L0.length ≤ 1048576 → Se.At W 0 e_errUnread → Calls Tryd.prog 7 #[.slice a L0.length ca, .string s1] W fun e w' => ∃ v, e = .returned (.tuple #[v, .bool (Vw.rulR L0 s1).isSome]) ∧ Ru.Own w' W.heap.size v A0 ∧ Below W.heap.size W w') := hidIt (fun W a ca ra na _ _ hk hm hu => by rw [hA0]; exact Vw.spec_RulesOf a ca L0 s1 W ra (by omega) hs0 hk)
  have CI : Hid (∀ W, ∀ a ca, En.Rd W a L0 → (a = none → ca = 0) → L0.length ≤ ca → ca ≤ maxLen → s1.size ≤ 1048576 → L0.length ≤ 1048576 → Se.At W 0 e_errUnread → Calls Tryd.prog 9 #[.slice a L0.length ca, .string s1] W fun e w' => ∃ v, e = .returned (.tuple #[v, .bool (Vw.rulR L0 s1).isSome]) ∧ Ru.Own w' W.heap.size v A0 ∧ Below W.heap.size W w') := hidIt (fun W a ca ra na _ _ hk hm hu => by rw [hA0]; exact Vw.impl_RulesOf a ca L0 s1 e_errUnread W ra (by omega) hs0 hk hu)
  generalize (Vw.rulR L0 s1).isSome = R1 at CS CI
  have hR1 : (R1 != R1) = false := by cases R1 <;> rfl
  have hR1' : (R1 == R1) = true := by cases R1 <;> rfl
  clear hs0 hA0
  have EA0 := hidIt (fun W a a' c c' (r : Ru.Rd W a A0) (r' : Ru.Rd W a' A0) => Ru.eqS_same a a' c c' A0 W r r' (by omega))
  have cma0 := fun b v W h => Ru.markS_any b v A0 1 W h (by omega) (by omega)
  have cha0 := fun a c W h => Ru.heldS_any a c A0.length 1 W h (by omega) (by omega)
  generalize ha0 : A0.length = n0 at *
  have HA0 := hidIt ha0
  clear ha0
  generalize 1 + 3 * n0 = kg0 at cma0 cha0
  have MA0 := hidIt cma0
  have HH0 := hidIt cha0
  clear cma0 cha0
  have hkg0 : ¬ (kg0 : Int) < 0 := by omega
  have hkk0 : ((kg0 : Int) != (kg0 : Int)) = false := by simp
  generalize hn0 : L0.length = m0 at *
  have HN0 := hidIt hn0
  clear hn0
  clear w0
  go_enter Tryd.func3, Tryd.ntmps3
  by_cases hks1 : (1048576 : Int) < (s1.size : Int)
  · go_wp2_with (fail)
    go_ret
    exact ⟨rfl, HB.out⟩
  go_wp2_with (fail)
  refine (Z0.out _ _ (HR0.out.kept HB.out) (by first | decide | omega) (by first | decide | omega)).mono ?_
  rintro e w1 ⟨l0, rfl, hl0, hz0, kk⟩
  have hl0s := hidIt hl0
  replace hl0 := hl0s.out.le
  replace HB := hidIt (HB.out.trans (kk.mono HB.out.size))
  clear kk
  by_cases hneg0 : l0 < 0
  · go_wp2_with (fail)
    go_ret
    exact ⟨rfl, HB.out⟩
  have hzz0 := hz0 (by omega)
  have hm0 : m0 ≤ 1048576 := hzz0.1
  clear hz0 hzz0
  have HBS_w1 : Hid (w.heap.size ≤ w1.heap.size) := hidIt HB.out.size
  go_wp2_with (fail)
  refine (T0.out _ (HR0.out.kept HB.out) hm0).mono ?_
  rintro e w2 ⟨v_s0, rfl, oo, kk⟩
  have s0 := hidIt oo
  clear oo
  obtain ⟨p_s0, q_s0, ev, hc_s0, hd_s0, _⟩ := s0.out.formN HN0.out
  subst ev
  have G_s0 := hidIt (fun W b (M : List En.Rw) (h : En.Own W b (.slice p_s0 m0 q_s0) M) => show En.Rd W p_s0 M by obtain ⟨a, c, e, _, _, r, _⟩ := h.form; simp only [Value.slice.injEq] at e; rw [e.1]; exact r)
  have N_s0 := hidIt (fun W b (M : List En.Rw) (h : En.Own W b (.slice p_s0 m0 q_s0) M) (e : p_s0 = none) => show q_s0 = 0 by obtain ⟨a, c, e1, _, _, _, h0, _⟩ := h.form; simp only [Value.slice.injEq] at e1; rw [e1.2.2]; exact h0 (e1.1 ▸ e))
  replace HB := hidIt (HB.out.trans (kk.mono HB.out.size))
  clear kk
  have HBS_w2 : Hid (w.heap.size ≤ w2.heap.size) := hidIt HB.out.size
  have B_s0_aw0 := hidIt (s0.out.blk (Nat.le_refl _))
  go_wp2_with (fail)
  refine (CS.out _ _ _ (G_s0.out _ _ _ s0.out) (N_s0.out _ _ _ s0.out) hc_s0 hd_s0 (by omega) hm0 (HU.out.kept HB.out)).mono ?_
  rintro e w3 ⟨v_aw0, rfl, o0, kk⟩
  have aw0 := hidIt o0
  clear o0
  obtain ⟨p_aw0, q_aw0, ev, _, _, _⟩ := aw0.out.formN HA0.out
  subst ev
  have G_aw0 := hidIt (fun W b (M : List Ru.Rw) (h : Ru.Own W b (.slice p_aw0 n0 q_aw0) M) => show Ru.Rd W p_aw0 M by obtain ⟨a, c, e, _, _, r, _⟩ := h.form; simp only [Value.slice.injEq] at e; rw [e.1]; exact r)
  replace HB := hidIt (HB.out.trans (kk.mono HB.out.size))
  replace s0 := hidIt (s0.out.kept kk)
  clear kk
  clear s0
  have HBS_w3 : Hid (w.heap.size ≤ w3.heap.size) := hidIt HB.out.size
  have B_aw0_x0x := hidIt (aw0.out.blk (Nat.le_refl _))
  go_wp2_with (fail)
  refine (T0.out _ (HR0.out.kept HB.out) hm0).mono ?_
  rintro e w4 ⟨v_x0x, rfl, oo, kk⟩
  have x0x := hidIt oo
  clear oo
  obtain ⟨p_x0x, q_x0x, ev, hc_x0x, hd_x0x, _⟩ := x0x.out.formN HN0.out
  subst ev
  have G_x0x := hidIt (fun W b (M : List En.Rw) (h : En.Own W b (.slice p_x0x m0 q_x0x) M) => show En.Rd W p_x0x M by obtain ⟨a, c, e, _, _, r, _⟩ := h.form; simp only [Value.slice.injEq] at e; rw [e.1]; exact r)
  have N_x0x := hidIt (fun W b (M : List En.Rw) (h : En.Own W b (.slice p_x0x m0 q_x0x) M) (e : p_x0x = none) => show q_x0x = 0 by obtain ⟨a, c, e1, _, _, _, h0, _⟩ := h.form; simp only [Value.slice.injEq] at e1; rw [e1.2.2]; exact h0 (e1.1 ▸ e))
  replace HB := hidIt (HB.out.trans (kk.mono HB.out.size))
  replace aw0 := hidIt (aw0.out.kept kk)
  clear kk
  have HBS_w4 : Hid (w.heap.size ≤ w4.heap.size) := hidIt HB.out.size
  have B_aw0_ag0 := hidIt (aw0.out.blk (Nat.le_refl _))
  have B_x0x_ag0 := hidIt (x0x.out.blk (Nat.le_refl _))
  go_wp2_with (fail)
  refine (CI.out _ _ _ (G_x0x.out _ _ _ x0x.out) (N_x0x.out _ _ _ x0x.out) hc_x0x hd_x0x (by omega) hm0 (HU.out.kept HB.out)).mono ?_
  rintro e w5 ⟨v_ag0, rfl, o0, kk⟩
  have ag0 := hidIt o0
  clear o0
  obtain ⟨p_ag0, q_ag0, ev, _, _, _⟩ := ag0.out.formN HA0.out
  subst ev
  have G_ag0 := hidIt (fun W b (M : List Ru.Rw) (h : Ru.Own W b (.slice p_ag0 n0 q_ag0) M) => show Ru.Rd W p_ag0 M by obtain ⟨a, c, e, _, _, r, _⟩ := h.form; simp only [Value.slice.injEq] at e; rw [e.1]; exact r)
  replace HB := hidIt (HB.out.trans (kk.mono HB.out.size))
  replace aw0 := hidIt (aw0.out.kept kk)
  replace x0x := hidIt (x0x.out.kept kk)
  clear kk
  go_wp2_with (fail)
  refine (EA0.out _ p_ag0 p_aw0 q_ag0 q_aw0 (G_ag0.out _ _ _ ag0.out) (G_aw0.out _ _ _ aw0.out)).mono ?_
  rintro e w6 ⟨rfl, kk⟩
  replace HB := hidIt (HB.out.trans (kk.mono HB.out.size))
  replace aw0 := hidIt (aw0.out.kept kk)
  replace x0x := hidIt (x0x.out.kept kk)
  replace ag0 := hidIt (ag0.out.kept kk)
  clear kk
  have HBS_w6 : Hid (w.heap.size ≤ w6.heap.size) := hidIt HB.out.size
  have B_aw0_y0 := hidIt (aw0.out.blk (Nat.le_refl _))
  have B_x0x_y0 := hidIt (x0x.out.blk (Nat.le_refl _))
  have B_ag0_y0 := hidIt (ag0.out.blk (Nat.le_refl _))
  go_wp2_with (fail)
  refine (T0.out _ (HR0.out.kept HB.out) hm0).mono ?_
  rintro e w7 ⟨v_y0, rfl, oo, kk⟩
  have y0 := hidIt oo
  clear oo
  obtain ⟨p_y0, q_y0, ev, hc_y0, hd_y0, _⟩ := y0.out.formN HN0.out
  subst ev
  have G_y0 := hidIt (fun W b (M : List En.Rw) (h : En.Own W b (.slice p_y0 m0 q_y0) M) => show En.Rd W p_y0 M by obtain ⟨a, c, e, _, _, r, _⟩ := h.form; simp only [Value.slice.injEq] at e; rw [e.1]; exact r)
  have N_y0 := hidIt (fun W b (M : List En.Rw) (h : En.Own W b (.slice p_y0 m0 q_y0) M) (e : p_y0 = none) => show q_y0 = 0 by obtain ⟨a, c, e1, _, _, _, h0, _⟩ := h.form; simp only [Value.slice.injEq] at e1; rw [e1.2.2]; exact h0 (e1.1 ▸ e))
  replace HB := hidIt (HB.out.trans (kk.mono HB.out.size))
  replace aw0 := hidIt (aw0.out.kept kk)
  replace x0x := hidIt (x0x.out.kept kk)
  replace ag0 := hidIt (ag0.out.kept kk)
  clear kk
  go_wp2_with (fail)
  refine (E0.out _ p_x0x p_y0 q_x0x q_y0 (G_x0x.out _ _ _ x0x.out) (G_y0.out _ _ _ y0.out)).mono ?_
  rintro e w8 ⟨rfl, kk⟩
  replace HB := hidIt (HB.out.trans (kk.mono HB.out.size))
  replace aw0 := hidIt (aw0.out.kept kk)
  replace x0x := hidIt (x0x.out.kept kk)
  replace ag0 := hidIt (ag0.out.kept kk)
  replace y0 := hidIt (y0.out.kept kk)
  clear kk
  clear y0
  have hb_x0x : Hid (w.heap.size ≤ w3.heap.size) := HBS_w3
  go_wp2_with (fail)
  refine (M0.out _ _ _ 1 x0x.out (by decide) (by omega)).mono ?_
  rintro e w9 ⟨rfl, oo, yy⟩
  replace HB := hidIt (row_below HB.out x0x.out yy hb_x0x.out HB.out.size)
  replace aw0 : Hid (Ru.Own w9 _ _ A0) := hidIt (row_lo aw0.out x0x.out yy B_aw0_x0x.out)
  replace ag0 : Hid (Ru.Own w9 _ _ A0) := hidIt (row_hi ag0.out x0x.out yy B_x0x_ag0.out)
  clear yy oo
  clear x0x
  generalize hkx0 : 1 + 5 * m0 = kx0 at *
  have hkb0 : 1 ≤ kx0 ∧ kx0 ≤ 20000000 := by omega
  clear hkx0
  have hkn : ¬ (kx0 : Int) < 0 := by omega
  go_wp2_with (fail)
  refine (EA0.out _ p_ag0 p_aw0 q_ag0 q_aw0 (G_ag0.out _ _ _ ag0.out) (G_aw0.out _ _ _ aw0.out)).mono ?_
  rintro e w10 ⟨rfl, kk⟩
  replace HB := hidIt (HB.out.trans (kk.mono HB.out.size))
  replace aw0 := hidIt (aw0.out.kept kk)
  replace ag0 := hidIt (ag0.out.kept kk)
  clear kk
  have hb_ag0 : Hid (w.heap.size ≤ w4.heap.size) := HBS_w4
  go_wp2_with (fail)
  refine (MA0.out _ _ _ ag0.out).mono ?_
  rintro e w11 ⟨rfl, oo, yy⟩
  replace HB := hidIt (row_below HB.out ag0.out yy hb_ag0.out HB.out.size)
  replace aw0 : Hid (Ru.Own w11 _ _ A0) := hidIt (row_lo aw0.out ag0.out yy B_aw0_ag0.out)
  replace ag0 := hidIt oo
  clear oo yy
  go_wp2_with (fail)
  refine (HH0.out _ _ _ (G_ag0.out _ _ _ ag0.out)).mono ?_
  rintro e w12 ⟨rfl, kk⟩
  replace HB := hidIt (HB.out.trans (kk.mono HB.out.size))
  replace aw0 := hidIt (aw0.out.kept kk)
  replace ag0 := hidIt (ag0.out.kept kk)
  clear kk
  have HBS_w12 : Hid (w.heap.size ≤ w12.heap.size) := hidIt HB.out.size
  have B_aw0_z0 := hidIt (aw0.out.blk (Nat.le_refl _))
  have B_ag0_z0 := hidIt (ag0.out.blk (Nat.le_refl _))
  go_wp2_with (fail)
  refine (T0.out _ (HR0.out.kept HB.out) hm0).mono ?_
  rintro e w13 ⟨v_z0, rfl, oo, kk⟩
  have z0 := hidIt oo
  clear oo
  obtain ⟨p_z0, q_z0, ev, hc_z0, hd_z0, _⟩ := z0.out.formN HN0.out
  subst ev
  have G_z0 := hidIt (fun W b (M : List En.Rw) (h : En.Own W b (.slice p_z0 m0 q_z0) M) => show En.Rd W p_z0 M by obtain ⟨a, c, e, _, _, r, _⟩ := h.form; simp only [Value.slice.injEq] at e; rw [e.1]; exact r)
  have N_z0 := hidIt (fun W b (M : List En.Rw) (h : En.Own W b (.slice p_z0 m0 q_z0) M) (e : p_z0 = none) => show q_z0 = 0 by obtain ⟨a, c, e1, _, _, _, h0, _⟩ := h.form; simp only [Value.slice.injEq] at e1; rw [e1.2.2]; exact h0 (e1.1 ▸ e))
  replace HB := hidIt (HB.out.trans (kk.mono HB.out.size))
  replace aw0 := hidIt (aw0.out.kept kk)
  replace ag0 := hidIt (ag0.out.kept kk)
  clear kk
  have HBS_w13 : Hid (w.heap.size ≤ w13.heap.size) := hidIt HB.out.size
  have B_aw0_ah0 := hidIt (aw0.out.blk (Nat.le_refl _))
  have B_ag0_ah0 := hidIt (ag0.out.blk (Nat.le_refl _))
  have B_z0_ah0 := hidIt (z0.out.blk (Nat.le_refl _))
  go_wp2_with (fail)
  refine (CI.out _ _ _ (G_z0.out _ _ _ z0.out) (N_z0.out _ _ _ z0.out) hc_z0 hd_z0 (by omega) hm0 (HU.out.kept HB.out)).mono ?_
  rintro e w14 ⟨v_ah0, rfl, o0, kk⟩
  have ah0 := hidIt o0
  clear o0
  obtain ⟨p_ah0, q_ah0, ev, _, _, _⟩ := ah0.out.formN HA0.out
  subst ev
  have G_ah0 := hidIt (fun W b (M : List Ru.Rw) (h : Ru.Own W b (.slice p_ah0 n0 q_ah0) M) => show Ru.Rd W p_ah0 M by obtain ⟨a, c, e, _, _, r, _⟩ := h.form; simp only [Value.slice.injEq] at e; rw [e.1]; exact r)
  replace HB := hidIt (HB.out.trans (kk.mono HB.out.size))
  replace aw0 := hidIt (aw0.out.kept kk)
  replace ag0 := hidIt (ag0.out.kept kk)
  replace z0 := hidIt (z0.out.kept kk)
  clear kk
  go_wp2_with (fail)
  refine (EA0.out _ p_ah0 p_aw0 q_ah0 q_aw0 (G_ah0.out _ _ _ ah0.out) (G_aw0.out _ _ _ aw0.out)).mono ?_
  rintro e w15 ⟨rfl, kk⟩
  replace HB := hidIt (HB.out.trans (kk.mono HB.out.size))
  replace aw0 := hidIt (aw0.out.kept kk)
  replace ag0 := hidIt (ag0.out.kept kk)
  replace z0 := hidIt (z0.out.kept kk)
  replace ah0 := hidIt (ah0.out.kept kk)
  clear kk
  go_wp2_with (fail)
  refine (HH0.out _ _ _ (G_ag0.out _ _ _ ag0.out)).mono ?_
  rintro e w16 ⟨rfl, kk⟩
  replace HB := hidIt (HB.out.trans (kk.mono HB.out.size))
  replace aw0 := hidIt (aw0.out.kept kk)
  replace ag0 := hidIt (ag0.out.kept kk)
  replace z0 := hidIt (z0.out.kept kk)
  replace ah0 := hidIt (ah0.out.kept kk)
  clear kk
  go_wp2_with (fail)
  go_ret
  exact ⟨rfl, HB.out⟩

theorem door_met (os : Os) (args : Array Value) : laidMetH Tryd.prog Rows.fnExactRulesOfRow.laid ((World.laidAll Tryd.prog os Rows.fnExactRulesOfRow.laid).forCall (fun _ _ => 0) ⟨#[], args, []⟩).memory := by
  rw [MakeChecks.laidMetH_plain _ _ _ (by kernel_rfl)]
  exact laidMet_laidAll _ (by kernel_rfl) (by kernel_rfl)
set_option maxRecDepth 100000 in
theorem lifted (os : Os) (started : os.Started) (H : Type) (enc : TypeId × Value → H) :
    ReturnsInHanded {} Tryd.checked os 3 .any (fun w args => (Rows.fnExactRulesOfSpec.pre enc Tryd.prog Tryd.f3 [] false w args ∧ laidMetH Tryd.prog Rows.fnExactRulesOfRow.laid w) ∧ sizedMet enc Tryd.prog Tryd.f3 (OpenSpec.ofChange Rows.fnExactRulesOfSpec) false w args) (Rows.fnExactRulesOfSpec.post enc Tryd.prog Tryd.f3 false true false false) := by
  refine returnsInHanded_of_change_and (C := Tryd.checked) (X := fun w _ => laidMetH Tryd.prog Rows.fnExactRulesOfRow.laid w) (fun _ _ _ hh h => h.of_heap hh) own started (by kernel_rfl) Tryd.func3
    (ChangeSpec.witness_shaped (enc := enc) (C := Tryd.checked) (os := os) (X := fun w _ => laidMetH Tryd.prog Rows.fnExactRulesOfRow.laid w) false (World.laidAll Tryd.prog os Rows.fnExactRulesOfRow.laid) #[.slice none 0 0, .string ByteArray.empty] 8 (World.laidAll_os _ _ _)
      (World.shaped_of_ZipB (by kernel_rfl) (by kernel_rfl)) (by kernel_rfl) (by kernel_rfl) (by kernel_rfl) (door_met os _)) ?_
  intro W base args ds gs before hval0 hW _ _ hL _
  have hval : ∀ (j : Nat) t v, Tryd.f3.params[j]? = some t → args[j]? = some v → Value.okWide Tryd.prog W .any base t v := hval0
  have hW' := hW
  obtain ⟨p, q, hA0, hV, rfl, hfz, hnd⟩ := hW
  have hA : DataW.TrodAll enc Tryd.prog W 0 (fun _ => true) true Tryd.f3.params.toList args.toList ds p := hA0
  rw [Tryd.params3] at hA hval
  obtain ⟨v0, vs0, d0, ds0, p0, q0, hargs, rfl, rfl, h0, r0⟩ := trodAll_cons hA
  obtain ⟨v1, vs1, d1, ds1, p1, q1, rfl, rfl, rfl, h1, r1⟩ := trodAll_cons r0
  obtain ⟨rfl, rfl, rfl⟩ := trodAll_nil r1
  obtain rfl : args = #[v0, v1] := by cases args; simp_all
  have hP : laidMet Tryd.prog [("unicode/utf8.acceptRanges", Rows.laid_unicode_utf8_acceptRanges), ("loop.example/g00307/impl.errUnread", Rows.laid_loop_example_g00307_impl_errUnread), ("unicode/utf8.first", Rows.laid_unicode_utf8_first)] W := by rw [MakeChecks.laidMetH_plain _ _ _ (by kernel_rfl)] at hL; exact hL
  obtain ⟨e_errUnread, s_errUnread, hv_errUnread, _, _, _⟩ := laid_sentinel (hP.tail) g_errUnread t_errUnread Tryd.underlying70 Se.row Tryd.underlying116 Tryd.underlying131 rfl rfl Tryd.underlying9 Se.cellsE Se.cellsS
  have hV1 : DataW.TrodVars enc Tryd.prog W (fun _ => true) ["loop.example/g00307/impl.errUnread"] gs q := hV
  obtain ⟨rfl, rfl⟩ := hV1.unique (Se.vars_cons enc g_errUnread t_errUnread hv_errUnread trivial (Se.vars_nil enc _))
  have k0 := h0
  have lt0 : ∀ x ∈ p0, x.block < W.heap.size := by obtain ⟨m, hm⟩ := k0; exact DataW.trod_lt m _ _ _ hm
  have k1 := h1
  have lt1 : ∀ x ∈ p1, x.block < W.heap.size := by obtain ⟨m, hm⟩ := k1; exact DataW.trod_lt m _ _ _ hm
  obtain ⟨a0, cap0, L0, rfl, w0⟩ := En.open_rows Tryd.underlying22 Tryd.underlying39 (by kernel_rfl) rfl rfl rfl rfl rfl (by kernel_rfl) (by kernel_rfl) (by kernel_rfl) (by kernel_rfl) (by kernel_rfl) Tryd.underlying9 Tryd.underlying9 Tryd.underlying2 Tryd.underlying2 Tryd.underlying4 (hval 0 22 v0 rfl rfl) h0
  obtain ⟨s1, rfl, rfl, rfl, ws1⟩ := Go.ChangeMaps.open_string Tryd.underlying9 (hval 1 9 v1 rfl rfl) h1
  clear hA0 hval0
  refine (walk a0 cap0 L0 s1 ws1 e_errUnread W w0 (Se.at_of_var g_errUnread hv_errUnread)).mono fun e W' ⟨he, bel⟩ => ?_
  subst he
  exact ⟨_, rfl, _, _, _, [], _, [.cell 0 0], hW', trodAll_mk1 (shut_bool Tryd.underlying4 _), (trodAll_cons_mk (Below.trod laidOut (by kernel_rfl) (of_decide_eq_true (by kernel_rfl)) k0 bel lt0) (trodAll_cons_mk (Below.trod laidOut (by kernel_rfl) (of_decide_eq_true (by kernel_rfl)) k1 bel lt1) trodAll_mk0)), (Se.vars_cons enc g_errUnread t_errUnread (Se.var_kept hv_errUnread bel) trivial (Se.vars_nil enc _)), bel.frame _, fun h => by cases h⟩

theorem over : Rows.fnExactRulesOfRow.holds Tryd.pinned (OpenSpec.ofChange Rows.fnExactRulesOfSpec) :=
  OpenClaim.holds_of_wide 3 Tryd.f3 rfl rfl rfl rfl rfl rfl rfl ⟨rfl, rfl, rfl, rfl, rfl⟩ rfl rfl rfl rfl rfl (by kernel_rfl) Tryd.func3 (by kernel_rfl)
    (of_decide_eq_true (by kernel_rfl)) (by unfold Func.isWrapper; first | (rw [if_pos (by decide +kernel)]; kernel_rfl) | (rw [if_neg (by decide +kernel)]; exact ⟨rfl, rfl⟩))
    (fun os started H enc _ => lifted os started H enc)
theorem card : Rows.FnExactRulesOfCardSaid :=
  Claim7.holds_tied_plain_at .later [] [.data, .sentinel, .pinned] true (true, "9ee9df60e3a604a719c28ffe0d75ac24b0f75cecef16b5e3ff534437ffdab9ba") false
    over (fun _ h => by cases h) (by kernel_rfl) (fun _ h => by cases h) fnExactRulesOf_row_tie rfl ⟨rfl, rfl⟩ (by kernel_rfl) rfl
    (fun f fn hf hfn => by
      obtain rfl : f = 3 := Option.some.inj ((show Tryd.prog.funcNamed "loop.example/g00307/laws.FnExactRulesOf" = some 3 by kernel_rfl).symm.trans hf) |>.symm
      obtain rfl : fn = Tryd.f3 := (Option.some.inj (Tryd.func3.symm.trans hfn)).symm
      exact ⟨by kernel_rfl, fun j t ht => by
        rw [Tryd.params3] at ht
        have hm : t ∈ [22, 9] := by simpa using Array.mem_of_getElem? ht
        have hall : ([22, 9].all fun u => !Tryd.prog.wantsStandIn u) = true := by kernel_rfl
        exact (show Tryd.prog.wantsStandIn t = false by simpa using List.all_eq_true.1 hall t hm)⟩)
    (by kernel_rfl)
end Go.Proofs.YtnmmmhkafdhfcaaDoor.fnExactRulesOf
namespace Go.Proofs.YtnmmmhkafdhfcaaDoor
theorem fnExactRulesOf_holds : Rows.FnExactRulesOfCardSaid := fnExactRulesOf.card
#print axioms fnExactRulesOf_holds
end Go.Proofs.YtnmmmhkafdhfcaaDoor
