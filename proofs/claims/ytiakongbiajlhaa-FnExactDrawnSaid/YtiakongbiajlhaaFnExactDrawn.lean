/-
  FnExactDrawn answers true at every list of Buckets, every Source and every time and leaves the list as it was: Drawn of the program answers as the specification's, writes into no argument, and its answer lies in memory of its own, behind another call too. No condition.
-/
import Derived.Test.YtiakongbiajlhaaRows
import Derived.WalkKit
import Derived.ProofKit
import Derived.OpenShut
import Derived.ShutString
import Derived.ChangeOld
import Derived.Below
import Derived.Lib.SmallJoins
import Derived.Test.YtiakongbiajlhaaBuX
import Derived.Test.YtiakongbiajlhaaBucL
import Derived.Test.YtiakongbiajlhaaBucN
namespace Go.Proofs.Ytiakongbiajlhaa.fnExactDrawn
open Go.ChangeShapes Go.WideShapes Go.ChangeAt Go.RowKit Go.Joins
set_option linter.unusedVariables false

theorem own : ownKnob Try.prog.godebug = none := by kernel_rfl
theorem laidOut : laidOutB Try.prog = true := by kernel_rfl
open Go.ChangeShapes Go.WideShapes Go.ChangeAt Go.RowKit
open Bu (hidIt)

theorem row_lo {w w' : World} {b b' e e' s s' n n' : Nat} {u v : Value} {xs ys : List Value} (hu : w.ownsRow b e s u n xs) (hv : w.ownsRow b' e' s' v n' ys) (Y : Only (v.ownBlock.getD w.heap.size) w w') (hlt : ∀ g, u.ownBlock = some g → g < b') : w'.ownsRow b e s u n xs := by
  refine World.ownsRow.kept hu (row := some (v.ownBlock.getD w.heap.size)) ⟨Y.os, Y.tape, Y.output, Y.size, fun i hi hne => Y.block i hi (fun e => hne (by rw [e]))⟩ ?_
  cases hub : u.ownBlock with
  | none => exact .inl rfl
  | some g =>
    refine .inr (fun e => ?_)
    have h1 := hlt g hub
    have h2 := (World.ownsRow.lt hu g hub).2
    have e' := Option.some.inj e
    cases hvb : v.ownBlock with
    | none => rw [hvb] at e'; simp at e'; omega
    | some x => rw [hvb] at e'; have := (World.ownsRow.lt hv x hvb).1; simp at e'; omega
theorem row_hi {w w' : World} {b b' e e' s s' n n' : Nat} {u v : Value} {xs ys : List Value} (hu : w.ownsRow b e s u n xs) (hv : w.ownsRow b' e' s' v n' ys) (Y : Only (v.ownBlock.getD w.heap.size) w w') (hlt : ∀ g, v.ownBlock = some g → g < b) : w'.ownsRow b e s u n xs := by
  refine World.ownsRow.kept hu (row := some (v.ownBlock.getD w.heap.size)) ⟨Y.os, Y.tape, Y.output, Y.size, fun i hi hne => Y.block i hi (fun e => hne (by rw [e]))⟩ ?_
  cases hub : u.ownBlock with
  | none => exact .inl rfl
  | some g =>
    refine .inr (fun e => ?_)
    have h2 := World.ownsRow.lt hu g hub
    have e' := Option.some.inj e
    cases hvb : v.ownBlock with
    | none => rw [hvb] at e'; simp at e'; omega
    | some x => rw [hvb] at e'; have := hlt x hvb; simp at e'; omega
theorem row_below {W w w' : World} {b B e s n : Nat} {v : Value} {xs : List Value} (k : Below B W w) (hv : w.ownsRow b e s v n xs) (Y : Only (v.ownBlock.getD w.heap.size) w w') (hb : B ≤ b) (hs : B ≤ w.heap.size) : Below B W w' := by
  refine k.trans (Y.below ?_ hs)
  cases hvb : v.ownBlock with
  | none => simpa using hs
  | some x => have := (World.ownsRow.lt hv x hvb).1; simp; omega
set_option maxRecDepth 100000 in
set_option maxHeartbeats 32000000 in

theorem walk (a0 : Option Addr) (cap0 : Nat) (L0 : List Bu.Rw) (n1 : Int) (n2 : Int) (w : World) (w0 : Bu.In w a0 cap0 L0) :
    Calls Try.prog 5 #[.slice a0 L0.length cap0, .int .i64 n1, .int .i64 n2] w fun e w' => e = .returned (.bool true) ∧ Below w.heap.size w w' := by
  have HB := hidIt (Below.refl w.heap.size w)
  have HR0 := hidIt w0.rd
  have hlen0 : L0.length ≤ 9223372036854775807 := Nat.le_trans w0.le w0.cap
  have Z0 := hidIt (fun W l (r : Bu.Rd W a0 L0) h0 h1 => Bu.szS_any a0 cap0 L0 l W r hlen0 h0 h1)
  have T0 := hidIt (fun W (r : Bu.Rd W a0 L0) hl => Bu.toS_any a0 cap0 L0 W r hl)
  have E0 := hidIt (fun W a a' c c' (r : Bu.Rd W a L0) (r' : Bu.Rd W a' L0) => Bu.eqS_same a a' c c' L0 W r r' hlen0)
  have M0 := hidIt (fun b v W k (h : Bu.Own W b v L0) h1 h2 => Bu.markS_any b v L0 k W h h1 h2)
  obtain ⟨A0, hA0⟩ : ∃ A, A = (Bu.drawnR L0 n1 n2).1 := ⟨_, rfl⟩
  have hA0l : A0.length ≤ 80 := by
    rw [hA0]
    exact Nat.le_trans (Bu.drawn_len L0 n1 n2) (by omega)
  have CS : Hid (∀ W, ∀ a ca, Bu.Rd W a L0 → (a = none → ca = 0) → L0.length ≤ ca → ca ≤ maxLen → Calls Try.prog 11 #[.slice a L0.length ca, .int .i64 n1, .int .i64 n2] W fun e w' => ∃ v, e = .returned (.tuple #[v, .bool (Bu.drawnR L0 n1 n2).2]) ∧ Bu.Own w' W.heap.size v A0 ∧ Below W.heap.size W w') := hidIt (fun W a ca ra na _ _ => by rw [hA0]; exact Bu.spec_Drawn a ca L0 n1 n2 W ra na hlen0)
  have CI : Hid (∀ W, ∀ a ca, Bu.Rd W a L0 → (a = none → ca = 0) → L0.length ≤ ca → ca ≤ maxLen → Calls Try.prog 9 #[.slice a L0.length ca, .int .i64 n1, .int .i64 n2] W fun e w' => ∃ v, e = .returned (.tuple #[v, .bool (Bu.drawnR L0 n1 n2).2]) ∧ Bu.Own w' W.heap.size v A0 ∧ Below W.heap.size W w') := hidIt (fun W a ca ra na _ _ => by rw [hA0]; exact Bu.impl_Drawn a ca L0 n1 n2 W ra na hlen0)
  generalize (Bu.drawnR L0 n1 n2).2 = R1 at CS CI
  have hR1 : (R1 != R1) = false := by cases R1 <;> rfl
  have hR1' : (R1 == R1) = true := by cases R1 <;> rfl
  clear hA0
  have EA0 := hidIt (fun W a a' c c' (r : Bu.Rd W a A0) (r' : Bu.Rd W a' A0) => Bu.eqS_same a a' c c' A0 W r r' (by omega))
  have cma0 := fun b v W h => Bu.markS_any b v A0 1 W h (by omega) (by omega)
  have cha0 := fun a c W h => Bu.heldS_any a c A0.length 1 W h (by omega) (by omega)
  generalize ha0 : A0.length = n0 at *
  have HA0 := hidIt ha0
  clear ha0
  generalize 1 + 3 * n0 = kg0 at cma0 cha0
  have MA0 := hidIt cma0
  have HH0 := hidIt cha0
  clear cma0 cha0
  have hkg0 : ¬ (kg0 : Int) < 0 := by omega
  have hkk0 : ((kg0 : Int) != (kg0 : Int)) = false := by simp
  generalize hn0 : L0.length = m0 at *
  have HN0 := hidIt hn0
  clear hn0
  clear w0
  go_enter Try.func5, Try.ntmps5
  go_wp2_with (fail)
  refine (Z0.out _ _ (HR0.out.kept HB.out) (by first | decide | omega) (by first | decide | omega)).mono ?_
  rintro e w1 ⟨l0, rfl, hl0, hz0, kk⟩
  have hl0s := hidIt hl0
  replace hl0 := hl0s.out.le
  replace HB := hidIt (HB.out.trans (kk.mono HB.out.size))
  clear kk
  by_cases hneg0 : l0 < 0
  · go_wp2_with (fail)
    go_ret
    exact ⟨rfl, HB.out⟩
  have hzz0 := hz0 (by omega)
  have hm0 : m0 ≤ 1048576 := hzz0
  clear hz0 hzz0
  have HBS_w1 : Hid (w.heap.size ≤ w1.heap.size) := hidIt HB.out.size
  go_wp2_with (fail)
  refine (T0.out _ (HR0.out.kept HB.out) hm0).mono ?_
  rintro e w2 ⟨v_s0, rfl, oo, kk⟩
  have s0 := hidIt oo
  clear oo
  obtain ⟨p_s0, q_s0, ev, hc_s0, hd_s0, _⟩ := s0.out.formN HN0.out
  subst ev
  have G_s0 := hidIt (fun W b (M : List Bu.Rw) (h : Bu.Own W b (.slice p_s0 m0 q_s0) M) => show Bu.Rd W p_s0 M by obtain ⟨a, c, e, _, _, r, _⟩ := h.form; simp only [Value.slice.injEq] at e; rw [e.1]; exact r)
  have N_s0 := hidIt (fun W b (M : List Bu.Rw) (h : Bu.Own W b (.slice p_s0 m0 q_s0) M) (e : p_s0 = none) => show q_s0 = 0 by obtain ⟨a, c, e1, _, _, _, h0, _⟩ := h.form; simp only [Value.slice.injEq] at e1; rw [e1.2.2]; exact h0 (e1.1 ▸ e))
  replace HB := hidIt (HB.out.trans (kk.mono HB.out.size))
  clear kk
  have HBS_w2 : Hid (w.heap.size ≤ w2.heap.size) := hidIt HB.out.size
  have B_s0_aw0 := hidIt (s0.out.blk (Nat.le_refl _))
  go_wp2_with (fail)
  refine (CS.out _ _ _ (G_s0.out _ _ _ s0.out) (N_s0.out _ _ _ s0.out) hc_s0 hd_s0).mono ?_
  rintro e w3 ⟨v_aw0, rfl, o0, kk⟩
  have aw0 := hidIt o0
  clear o0
  obtain ⟨p_aw0, q_aw0, ev, _, _, _⟩ := aw0.out.formN HA0.out
  subst ev
  have G_aw0 := hidIt (fun W b (M : List Bu.Rw) (h : Bu.Own W b (.slice p_aw0 n0 q_aw0) M) => show Bu.Rd W p_aw0 M by obtain ⟨a, c, e, _, _, r, _⟩ := h.form; simp only [Value.slice.injEq] at e; rw [e.1]; exact r)
  replace HB := hidIt (HB.out.trans (kk.mono HB.out.size))
  replace s0 := hidIt (s0.out.kept kk)
  clear kk
  clear s0
  have HBS_w3 : Hid (w.heap.size ≤ w3.heap.size) := hidIt HB.out.size
  have B_aw0_x0x := hidIt (aw0.out.blk (Nat.le_refl _))
  go_wp2_with (fail)
  refine (T0.out _ (HR0.out.kept HB.out) hm0).mono ?_
  rintro e w4 ⟨v_x0x, rfl, oo, kk⟩
  have x0x := hidIt oo
  clear oo
  obtain ⟨p_x0x, q_x0x, ev, hc_x0x, hd_x0x, _⟩ := x0x.out.formN HN0.out
  subst ev
  have G_x0x := hidIt (fun W b (M : List Bu.Rw) (h : Bu.Own W b (.slice p_x0x m0 q_x0x) M) => show Bu.Rd W p_x0x M by obtain ⟨a, c, e, _, _, r, _⟩ := h.form; simp only [Value.slice.injEq] at e; rw [e.1]; exact r)
  have N_x0x := hidIt (fun W b (M : List Bu.Rw) (h : Bu.Own W b (.slice p_x0x m0 q_x0x) M) (e : p_x0x = none) => show q_x0x = 0 by obtain ⟨a, c, e1, _, _, _, h0, _⟩ := h.form; simp only [Value.slice.injEq] at e1; rw [e1.2.2]; exact h0 (e1.1 ▸ e))
  replace HB := hidIt (HB.out.trans (kk.mono HB.out.size))
  replace aw0 := hidIt (aw0.out.kept kk)
  clear kk
  have HBS_w4 : Hid (w.heap.size ≤ w4.heap.size) := hidIt HB.out.size
  have B_aw0_ag0 := hidIt (aw0.out.blk (Nat.le_refl _))
  have B_x0x_ag0 := hidIt (x0x.out.blk (Nat.le_refl _))
  go_wp2_with (fail)
  refine (CI.out _ _ _ (G_x0x.out _ _ _ x0x.out) (N_x0x.out _ _ _ x0x.out) hc_x0x hd_x0x).mono ?_
  rintro e w5 ⟨v_ag0, rfl, o0, kk⟩
  have ag0 := hidIt o0
  clear o0
  obtain ⟨p_ag0, q_ag0, ev, _, _, _⟩ := ag0.out.formN HA0.out
  subst ev
  have G_ag0 := hidIt (fun W b (M : List Bu.Rw) (h : Bu.Own W b (.slice p_ag0 n0 q_ag0) M) => show Bu.Rd W p_ag0 M by obtain ⟨a, c, e, _, _, r, _⟩ := h.form; simp only [Value.slice.injEq] at e; rw [e.1]; exact r)
  replace HB := hidIt (HB.out.trans (kk.mono HB.out.size))
  replace aw0 := hidIt (aw0.out.kept kk)
  replace x0x := hidIt (x0x.out.kept kk)
  clear kk
  go_wp2_with (fail)
  refine (EA0.out _ p_ag0 p_aw0 q_ag0 q_aw0 (G_ag0.out _ _ _ ag0.out) (G_aw0.out _ _ _ aw0.out)).mono ?_
  rintro e w6 ⟨rfl, kk⟩
  replace HB := hidIt (HB.out.trans (kk.mono HB.out.size))
  replace aw0 := hidIt (aw0.out.kept kk)
  replace x0x := hidIt (x0x.out.kept kk)
  replace ag0 := hidIt (ag0.out.kept kk)
  clear kk
  have HBS_w6 : Hid (w.heap.size ≤ w6.heap.size) := hidIt HB.out.size
  have B_aw0_y0 := hidIt (aw0.out.blk (Nat.le_refl _))
  have B_x0x_y0 := hidIt (x0x.out.blk (Nat.le_refl _))
  have B_ag0_y0 := hidIt (ag0.out.blk (Nat.le_refl _))
  go_wp2_with (fail)
  refine (T0.out _ (HR0.out.kept HB.out) hm0).mono ?_
  rintro e w7 ⟨v_y0, rfl, oo, kk⟩
  have y0 := hidIt oo
  clear oo
  obtain ⟨p_y0, q_y0, ev, hc_y0, hd_y0, _⟩ := y0.out.formN HN0.out
  subst ev
  have G_y0 := hidIt (fun W b (M : List Bu.Rw) (h : Bu.Own W b (.slice p_y0 m0 q_y0) M) => show Bu.Rd W p_y0 M by obtain ⟨a, c, e, _, _, r, _⟩ := h.form; simp only [Value.slice.injEq] at e; rw [e.1]; exact r)
  have N_y0 := hidIt (fun W b (M : List Bu.Rw) (h : Bu.Own W b (.slice p_y0 m0 q_y0) M) (e : p_y0 = none) => show q_y0 = 0 by obtain ⟨a, c, e1, _, _, _, h0, _⟩ := h.form; simp only [Value.slice.injEq] at e1; rw [e1.2.2]; exact h0 (e1.1 ▸ e))
  replace HB := hidIt (HB.out.trans (kk.mono HB.out.size))
  replace aw0 := hidIt (aw0.out.kept kk)
  replace x0x := hidIt (x0x.out.kept kk)
  replace ag0 := hidIt (ag0.out.kept kk)
  clear kk
  go_wp2_with (fail)
  refine (E0.out _ p_x0x p_y0 q_x0x q_y0 (G_x0x.out _ _ _ x0x.out) (G_y0.out _ _ _ y0.out)).mono ?_
  rintro e w8 ⟨rfl, kk⟩
  replace HB := hidIt (HB.out.trans (kk.mono HB.out.size))
  replace aw0 := hidIt (aw0.out.kept kk)
  replace x0x := hidIt (x0x.out.kept kk)
  replace ag0 := hidIt (ag0.out.kept kk)
  replace y0 := hidIt (y0.out.kept kk)
  clear kk
  clear y0
  have hb_x0x : Hid (w.heap.size ≤ w3.heap.size) := HBS_w3
  go_wp2_with (fail)
  refine (M0.out _ _ _ 1 x0x.out (by decide) (by omega)).mono ?_
  rintro e w9 ⟨rfl, oo, yy⟩
  replace HB := hidIt (row_below HB.out x0x.out yy hb_x0x.out HB.out.size)
  replace aw0 : Hid (Bu.Own w9 _ _ A0) := hidIt (row_lo aw0.out x0x.out yy B_aw0_x0x.out)
  replace ag0 : Hid (Bu.Own w9 _ _ A0) := hidIt (row_hi ag0.out x0x.out yy B_x0x_ag0.out)
  clear yy oo
  clear x0x
  generalize hkx0 : 1 + 3 * m0 = kx0 at *
  have hkb0 : 1 ≤ kx0 ∧ kx0 ≤ 20000000 := by omega
  clear hkx0
  have hkn : ¬ (kx0 : Int) < 0 := by omega
  go_wp2_with (fail)
  refine (EA0.out _ p_ag0 p_aw0 q_ag0 q_aw0 (G_ag0.out _ _ _ ag0.out) (G_aw0.out _ _ _ aw0.out)).mono ?_
  rintro e w10 ⟨rfl, kk⟩
  replace HB := hidIt (HB.out.trans (kk.mono HB.out.size))
  replace aw0 := hidIt (aw0.out.kept kk)
  replace ag0 := hidIt (ag0.out.kept kk)
  clear kk
  have hb_ag0 : Hid (w.heap.size ≤ w4.heap.size) := HBS_w4
  go_wp2_with (fail)
  refine (MA0.out _ _ _ ag0.out).mono ?_
  rintro e w11 ⟨rfl, oo, yy⟩
  replace HB := hidIt (row_below HB.out ag0.out yy hb_ag0.out HB.out.size)
  replace aw0 : Hid (Bu.Own w11 _ _ A0) := hidIt (row_lo aw0.out ag0.out yy B_aw0_ag0.out)
  replace ag0 := hidIt oo
  clear oo yy
  go_wp2_with (fail)
  refine (HH0.out _ _ _ (G_ag0.out _ _ _ ag0.out)).mono ?_
  rintro e w12 ⟨rfl, kk⟩
  replace HB := hidIt (HB.out.trans (kk.mono HB.out.size))
  replace aw0 := hidIt (aw0.out.kept kk)
  replace ag0 := hidIt (ag0.out.kept kk)
  clear kk
  have HBS_w12 : Hid (w.heap.size ≤ w12.heap.size) := hidIt HB.out.size
  have B_aw0_z0 := hidIt (aw0.out.blk (Nat.le_refl _))
  have B_ag0_z0 := hidIt (ag0.out.blk (Nat.le_refl _))
  go_wp2_with (fail)
  refine (T0.out _ (HR0.out.kept HB.out) hm0).mono ?_
  rintro e w13 ⟨v_z0, rfl, oo, kk⟩
  have z0 := hidIt oo
  clear oo
  obtain ⟨p_z0, q_z0, ev, hc_z0, hd_z0, _⟩ := z0.out.formN HN0.out
  subst ev
  have G_z0 := hidIt (fun W b (M : List Bu.Rw) (h : Bu.Own W b (.slice p_z0 m0 q_z0) M) => show Bu.Rd W p_z0 M by obtain ⟨a, c, e, _, _, r, _⟩ := h.form; simp only [Value.slice.injEq] at e; rw [e.1]; exact r)
  have N_z0 := hidIt (fun W b (M : List Bu.Rw) (h : Bu.Own W b (.slice p_z0 m0 q_z0) M) (e : p_z0 = none) => show q_z0 = 0 by obtain ⟨a, c, e1, _, _, _, h0, _⟩ := h.form; simp only [Value.slice.injEq] at e1; rw [e1.2.2]; exact h0 (e1.1 ▸ e))
  replace HB := hidIt (HB.out.trans (kk.mono HB.out.size))
  replace aw0 := hidIt (aw0.out.kept kk)
  replace ag0 := hidIt (ag0.out.kept kk)
  clear kk
  have HBS_w13 : Hid (w.heap.size ≤ w13.heap.size) := hidIt HB.out.size
  have B_aw0_ah0 := hidIt (aw0.out.blk (Nat.le_refl _))
  have B_ag0_ah0 := hidIt (ag0.out.blk (Nat.le_refl _))
  have B_z0_ah0 := hidIt (z0.out.blk (Nat.le_refl _))
  go_wp2_with (fail)
  refine (CI.out _ _ _ (G_z0.out _ _ _ z0.out) (N_z0.out _ _ _ z0.out) hc_z0 hd_z0).mono ?_
  rintro e w14 ⟨v_ah0, rfl, o0, kk⟩
  have ah0 := hidIt o0
  clear o0
  obtain ⟨p_ah0, q_ah0, ev, _, _, _⟩ := ah0.out.formN HA0.out
  subst ev
  have G_ah0 := hidIt (fun W b (M : List Bu.Rw) (h : Bu.Own W b (.slice p_ah0 n0 q_ah0) M) => show Bu.Rd W p_ah0 M by obtain ⟨a, c, e, _, _, r, _⟩ := h.form; simp only [Value.slice.injEq] at e; rw [e.1]; exact r)
  replace HB := hidIt (HB.out.trans (kk.mono HB.out.size))
  replace aw0 := hidIt (aw0.out.kept kk)
  replace ag0 := hidIt (ag0.out.kept kk)
  replace z0 := hidIt (z0.out.kept kk)
  clear kk
  go_wp2_with (fail)
  refine (EA0.out _ p_ah0 p_aw0 q_ah0 q_aw0 (G_ah0.out _ _ _ ah0.out) (G_aw0.out _ _ _ aw0.out)).mono ?_
  rintro e w15 ⟨rfl, kk⟩
  replace HB := hidIt (HB.out.trans (kk.mono HB.out.size))
  replace aw0 := hidIt (aw0.out.kept kk)
  replace ag0 := hidIt (ag0.out.kept kk)
  replace z0 := hidIt (z0.out.kept kk)
  replace ah0 := hidIt (ah0.out.kept kk)
  clear kk
  go_wp2_with (fail)
  refine (HH0.out _ _ _ (G_ag0.out _ _ _ ag0.out)).mono ?_
  rintro e w16 ⟨rfl, kk⟩
  replace HB := hidIt (HB.out.trans (kk.mono HB.out.size))
  replace aw0 := hidIt (aw0.out.kept kk)
  replace ag0 := hidIt (ag0.out.kept kk)
  replace z0 := hidIt (z0.out.kept kk)
  replace ah0 := hidIt (ah0.out.kept kk)
  clear kk
  go_wp2_with (fail)
  go_ret
  exact ⟨rfl, HB.out⟩

set_option maxRecDepth 100000 in
theorem lifted (os : Os) (started : os.Started) (H : Type) (enc : TypeId × Value → H) :
    ReturnsInHanded {} Try.checked os 5 .any (Rows.fnExactDrawnSpec.pre6 enc Try.prog Try.f5 Rows.fnExactDrawnRow.domain false) (Rows.fnExactDrawnSpec.post enc Try.prog Try.f5 false true false false) := by
  refine returnsInHanded_of_change (C := Try.checked) own started (by kernel_rfl) Try.func5
    (ChangeSpec.witness6 (enc := enc) (C := Try.checked) false ⟨#[], #[.slice none 0 0, .int .i64 0, .int .i64 0], []⟩ 8 (by kernel_rfl) (by kernel_rfl) (by kernel_rfl) (by kernel_rfl)) ?_
  intro W base args ds gs before hval0 hW hcnd _
  have hval : ∀ (j : Nat) t v, Try.f5.params[j]? = some t → args[j]? = some v → Value.okWide Try.prog W .any base t v := hval0
  have hW' := hW
  obtain ⟨p, q, hA0, hV, rfl, hfz, hnd⟩ := hW
  have hA : DataW.TrodAll enc Try.prog W 0 (fun _ => true) true Try.f5.params.toList args.toList ds p := hA0
  rw [Try.params5] at hA hval
  obtain ⟨v0, vs0, d0, ds0, p0, q0, hargs, rfl, rfl, h0, r0⟩ := trodAll_cons hA
  obtain ⟨v1, vs1, d1, ds1, p1, q1, rfl, rfl, rfl, h1, r1⟩ := trodAll_cons r0
  obtain ⟨v2, vs2, d2, ds2, p2, q2, rfl, rfl, rfl, h2, r2⟩ := trodAll_cons r1
  obtain ⟨rfl, rfl, rfl⟩ := trodAll_nil r2
  obtain rfl : args = #[v0, v1, v2] := by cases args; simp_all
  obtain ⟨rfl, rfl⟩ := trodVars_none hV
  have k0 := h0
  have lt0 : ∀ x ∈ p0, x.block < W.heap.size := by obtain ⟨m, hm⟩ := k0; exact DataW.trod_lt m _ _ _ hm
  have k1 := h1
  have lt1 : ∀ x ∈ p1, x.block < W.heap.size := by obtain ⟨m, hm⟩ := k1; exact DataW.trod_lt m _ _ _ hm
  have k2 := h2
  have lt2 : ∀ x ∈ p2, x.block < W.heap.size := by obtain ⟨m, hm⟩ := k2; exact DataW.trod_lt m _ _ _ hm
  obtain ⟨a0, cap0, L0, rfl, w0⟩ := Bu.open_rows Try.underlying33 Try.underlying54 (by kernel_rfl) rfl rfl rfl (by kernel_rfl) (by kernel_rfl) (by kernel_rfl) Try.underlying2 Try.underlying2 Try.underlying2 (hval 0 33 v0 rfl rfl) h0
  obtain ⟨n1, rfl, rfl, rfl, wn1⟩ := open_int Try.underlying2 (hval 1 2 v1 rfl rfl) h1
  obtain ⟨n2, rfl, rfl, rfl, wn2⟩ := open_int Try.underlying2 (hval 2 2 v2 rfl rfl) h2
  clear hA0 hval0
  refine (walk a0 cap0 L0 n1 n2 W w0).mono fun e W' ⟨he, bel⟩ => ?_
  subst he
  exact ⟨_, rfl, _, _, _, [], _, [], hW', trodAll_mk1 (shut_bool Try.underlying4 _), (trodAll_cons_mk (Below.trod laidOut (by kernel_rfl) (of_decide_eq_true (by kernel_rfl)) k0 bel lt0) (trodAll_cons_mk (Below.trod laidOut (by kernel_rfl) (of_decide_eq_true (by kernel_rfl)) k1 bel lt1) (trodAll_cons_mk (Below.trod laidOut (by kernel_rfl) (of_decide_eq_true (by kernel_rfl)) k2 bel lt2) trodAll_mk0))), rfl, bel.frame _, fun h => by cases h⟩

theorem over : Rows.fnExactDrawnRow.holds Try.pinned (OpenSpec.ofChange Rows.fnExactDrawnSpec) :=
  OpenClaim.holds_of_wide 5 Try.f5 rfl rfl rfl rfl rfl rfl rfl ⟨rfl, rfl, rfl, rfl, rfl⟩ rfl rfl rfl rfl rfl (by kernel_rfl) Try.func5 (by kernel_rfl)
    (of_decide_eq_true (by kernel_rfl)) (by unfold Func.isWrapper; first | (rw [if_pos (by decide +kernel)]; kernel_rfl) | (rw [if_neg (by decide +kernel)]; exact ⟨rfl, rfl⟩))
    (fun os started H enc _ => lifted os started H enc)
end Go.Proofs.Ytiakongbiajlhaa.fnExactDrawn
namespace Go.Proofs.Ytiakongbiajlhaa
theorem fnExactDrawn_holds : Rows.FnExactDrawnSaid := fnExactDrawn.over
#print axioms fnExactDrawn_holds
end Go.Proofs.Ytiakongbiajlhaa
