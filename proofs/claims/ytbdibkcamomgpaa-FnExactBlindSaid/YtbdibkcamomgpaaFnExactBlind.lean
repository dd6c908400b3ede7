/-
  FnExactBlind answers true at every list of Acts, every text and every list of Rules and leaves the lists as they were: Blind of the program answers as the specification's, writes into no argument, and its answer lies in memory of its own, behind another call too. No condition.
-/
import Derived.Test.YtbdibkcamomgpaaRows
import Derived.WalkKit
import Derived.ProofKit
import Derived.OpenShut
import Derived.ShutString
import Derived.ChangeOld
import Derived.Below
import Derived.Lib.SmallJoins
import Derived.Test.YtbdibkcamomgpaaBliX
import Derived.Test.YtbdibkcamomgpaaActL
import Derived.Test.YtbdibkcamomgpaaActN
import Derived.Test.YtbdibkcamomgpaaActO
import Derived.Test.YtbdibkcamomgpaaRulL
import Derived.Test.YtbdibkcamomgpaaRulN
namespace Go.Proofs.Ytbdibkcamomgpaa.fnExactBlind
open Go.ChangeShapes Go.WideShapes Go.ChangeAt Go.RowKit Go.Joins
set_option linter.unusedVariables false

theorem own : ownKnob Try.prog.godebug = none := by kernel_rfl
theorem laidOut : laidOutB Try.prog = true := by kernel_rfl
open Go.ChangeShapes Go.WideShapes Go.ChangeAt Go.RowKit
open Ac (hidIt)

theorem row_lo {w w' : World} {b b' e e' s s' n n' : Nat} {u v : Value} {xs ys : List Value} (hu : w.ownsRow b e s u n xs) (hv : w.ownsRow b' e' s' v n' ys) (Y : Only (v.ownBlock.getD w.heap.size) w w') (hlt : ∀ g, u.ownBlock = some g → g < b') : w'.ownsRow b e s u n xs := by
  refine World.ownsRow.kept hu (row := some (v.ownBlock.getD w.heap.size)) ⟨Y.os, Y.tape, Y.output, Y.size, fun i hi hne => Y.block i hi (fun e => hne (by rw [e]))⟩ ?_
  cases hub : u.ownBlock with
  | none => exact .inl rfl
  | some g =>
    refine .inr (fun e => ?_)
    have h1 := hlt g hub
    have h2 := (World.ownsRow.lt hu g hub).2
    have e' := Option.some.inj e
    cases hvb : v.ownBlock with
    | none => rw [hvb] at e'; simp at e'; omega
    | some x => rw [hvb] at e'; have := (World.ownsRow.lt hv x hvb).1; simp at e'; omega
theorem row_hi {w w' : World} {b b' e e' s s' n n' : Nat} {u v : Value} {xs ys : List Value} (hu : w.ownsRow b e s u n xs) (hv : w.ownsRow b' e' s' v n' ys) (Y : Only (v.ownBlock.getD w.heap.size) w w') (hlt : ∀ g, v.ownBlock = some g → g < b) : w'.ownsRow b e s u n xs := by
  refine World.ownsRow.kept hu (row := some (v.ownBlock.getD w.heap.size)) ⟨Y.os, Y.tape, Y.output, Y.size, fun i hi hne => Y.block i hi (fun e => hne (by rw [e]))⟩ ?_
  cases hub : u.ownBlock with
  | none => exact .inl rfl
  | some g =>
    refine .inr (fun e => ?_)
    have h2 := World.ownsRow.lt hu g hub
    have e' := Option.some.inj e
    cases hvb : v.ownBlock with
    | none => rw [hvb] at e'; simp at e'; omega
    | some x => rw [hvb] at e'; have := hlt x hvb; simp at e'; omega
theorem row_below {W w w' : World} {b B e s n : Nat} {v : Value} {xs : List Value} (k : Below B W w) (hv : w.ownsRow b e s v n xs) (Y : Only (v.ownBlock.getD w.heap.size) w w') (hb : B ≤ b) (hs : B ≤ w.heap.size) : Below B W w' := by
  refine k.trans (Y.below ?_ hs)
  cases hvb : v.ownBlock with
  | none => simpa using hs
  | some x => have := (World.ownsRow.lt hv x hvb).1; simp; omega
set_option maxRecDepth 100000 in
set_option maxHeartbeats 32000000 in

theorem walk (a0 : Option Addr) (cap0 : Nat) (L0 : List Ac.Rw) (s1 : ByteArray) (ws1 : s1.size ≤ maxLen) (a2 : Option Addr) (cap2 : Nat) (L2 : List Ru.Rw) (w : World) (w0 : Ac.In w a0 cap0 L0) (w2 : Ru.In w a2 cap2 L2) :
    Calls Try.prog 3 #[.slice a0 L0.length cap0, .string s1, .slice a2 L2.length cap2] w fun e w' => e = .returned (.bool true) ∧ Below w.heap.size w w' := by
  have HB := hidIt (Below.refl w.heap.size w)
  have HR0 := hidIt w0.rd
  have hlen0 : L0.length ≤ 9223372036854775807 := Nat.le_trans w0.le w0.cap
  have HR2 := hidIt w2.rd
  have hlen2 : L2.length ≤ 9223372036854775807 := Nat.le_trans w2.le w2.cap
  have Z0 := hidIt (fun W l (r : Ac.Rd W a0 L0) h0 h1 => Ac.szS_any a0 cap0 L0 l W r hlen0 w0.short h0 h1)
  have T0 := hidIt (fun W (r : Ac.Rd W a0 L0) hl => Ac.toS_any a0 cap0 L0 W r hl)
  have E0 := hidIt (fun W a a' c c' (r : Ac.Rd W a L0) (r' : Ac.Rd W a' L0) => Ac.eqS_same a a' c c' L0 W r r' hlen0)
  have M0 := hidIt (fun b v W k (h : Ac.Own W b v L0) h1 h2 => Ac.markS_any b v L0 k W h h1 h2)
  have Z2 := hidIt (fun W l (r : Ru.Rd W a2 L2) h0 h1 => Ru.szS_any a2 cap2 L2 l W r hlen2 w2.short h0 h1)
  have T2 := hidIt (fun W (r : Ru.Rd W a2 L2) hl => Ru.toS_any a2 cap2 L2 W r hl)
  have E2 := hidIt (fun W a a' c c' (r : Ru.Rd W a L2) (r' : Ru.Rd W a' L2) => Ru.eqS_same a a' c c' L2 W r r' hlen2)
  have M2 := hidIt (fun b v W k (h : Ru.Own W b v L2) h1 h2 => Ru.markS_any b v L2 k W h h1 h2)
  have hs0 := w0.short
  have hs2 := w2.short
  obtain ⟨A0, hA0⟩ : ∃ A, A = Ac.blindR L2 L0 := ⟨_, rfl⟩
  have hA0l : A0.length ≤ 200 := by
    rw [hA0]
    exact Ac.blindR_len L2 L0
  have CS : Hid (∀ W, ∀ a ca, Ac.Rd W a L0 → (a = none → ca = 0) → L0.length ≤ ca → ca ≤ maxLen → ∀ b cb, Ru.Rd W b L2 → (b = none → cb = 0) → L2.length ≤ cb → cb ≤ maxLen → s1.size ≤ 1048576 → L0.length ≤ 1048576 → Calls Try.prog 7 #[.slice a L0.length ca, .string s1, .slice b L2.length cb] W fun e w' => ∃ v, e = .returned v ∧ Ac.Own w' W.heap.size v A0 ∧ Below W.heap.size W w') := hidIt (fun W a ca ra na _ _ b cb rb nb _ _ hk hl => by rw [hA0]; exact Ac.spec_Blind a b ca cb L0 L2 s1 W ra rb hlen0 hs0 hlen2 hs2)
  have CI : Hid (∀ W, ∀ a ca, Ac.Rd W a L0 → (a = none → ca = 0) → L0.length ≤ ca → ca ≤ maxLen → ∀ b cb, Ru.Rd W b L2 → (b = none → cb = 0) → L2.length ≤ cb → cb ≤ maxLen → s1.size ≤ 1048576 → L0.length ≤ 1048576 → Calls Try.prog 10 #[.slice a L0.length ca, .string s1, .slice b L2.length cb] W fun e w' => ∃ v, e = .returned v ∧ Ac.Own w' W.heap.size v A0 ∧ Below W.heap.size W w') := hidIt (fun W a ca ra na _ _ b cb rb nb _ _ hk hl => by rw [hA0]; exact Ac.impl_Blind a b ca cb L0 L2 s1 W ra rb hlen0 hs0 hlen2 hs2)
  clear hs0 hs2 hA0
  have EA0 := hidIt (fun W a a' c c' (r : Ac.Rd W a A0) (r' : Ac.Rd W a' A0) => Ac.eqS_same a a' c c' A0 W r r' (by omega))
  have cma0 := fun b v W h => Ac.markS_any b v A0 1 W h (by omega) (by omega)
  have cha0 := fun a c W h => Ac.heldS_any a c A0.length 1 W h (by omega) (by omega)
  generalize ha0 : A0.length = n0 at *
  have HA0 := hidIt ha0
  clear ha0
  generalize 1 + 12 * n0 = kg0 at cma0 cha0
  have MA0 := hidIt cma0
  have HH0 := hidIt cha0
  clear cma0 cha0
  have hkg0 : ¬ (kg0 : Int) < 0 := by omega
  have hkk0 : ((kg0 : Int) != (kg0 : Int)) = false := by simp
  generalize hn0 : L0.length = m0 at *
  have HN0 := hidIt hn0
  clear hn0
  generalize hn2 : L2.length = m2 at *
  have HN2 := hidIt hn2
  clear hn2
  clear w0
  clear w2
  go_enter Try.func3, Try.ntmps3
  by_cases hks1 : (1048576 : Int) < (s1.size : Int)
  · go_wp2_with (fail)
    go_ret
    exact ⟨rfl, HB.out⟩
  go_wp2_with (fail)
  refine (Z0.out _ _ (HR0.out.kept HB.out) (by first | decide | omega) (by first | decide | omega)).mono ?_
  rintro e w1 ⟨l0, rfl, hl0, hz0, kk⟩
  have hl0s := hidIt hl0
  replace hl0 := hl0s.out.le
  replace HB := hidIt (HB.out.trans (kk.mono HB.out.size))
  clear kk
  by_cases hneg0 : l0 < 0
  · go_wp2_with (fail)
    go_ret
    exact ⟨rfl, HB.out⟩
  have hzz0 := hz0 (by omega)
  have hm0 : m0 ≤ 1048576 := hzz0.1
  clear hz0 hzz0
  go_wp2_with (fail)
  refine (Z2.out _ _ (HR2.out.kept HB.out) (by first | decide | omega) (by first | decide | omega)).mono ?_
  rintro e w2 ⟨l2, rfl, hl2, hz2, kk⟩
  have hl2s := hidIt hl2
  replace hl2 := hl2s.out.le
  replace HB := hidIt (HB.out.trans (kk.mono HB.out.size))
  clear kk
  by_cases hneg2 : l2 < 0
  · go_wp2_with (fail)
    go_ret
    exact ⟨rfl, HB.out⟩
  have hzz2 := hz2 (by omega)
  have hm2 : m2 ≤ 1048576 := hzz2.1
  clear hz2 hzz2
  have HBS_w2 : Hid (w.heap.size ≤ w2.heap.size) := hidIt HB.out.size
  go_wp2_with (fail)
  refine (T0.out _ (HR0.out.kept HB.out) hm0).mono ?_
  rintro e w3 ⟨v_s0, rfl, oo, kk⟩
  have s0 := hidIt oo
  clear oo
  obtain ⟨p_s0, q_s0, ev, hc_s0, hd_s0, _⟩ := s0.out.formN HN0.out
  subst ev
  have G_s0 := hidIt (fun W b (M : List Ac.Rw) (h : Ac.Own W b (.slice p_s0 m0 q_s0) M) => show Ac.Rd W p_s0 M by obtain ⟨a, c, e, _, _, r, _⟩ := h.form; simp only [Value.slice.injEq] at e; rw [e.1]; exact r)
  have N_s0 := hidIt (fun W b (M : List Ac.Rw) (h : Ac.Own W b (.slice p_s0 m0 q_s0) M) (e : p_s0 = none) => show q_s0 = 0 by obtain ⟨a, c, e1, _, _, _, h0, _⟩ := h.form; simp only [Value.slice.injEq] at e1; rw [e1.2.2]; exact h0 (e1.1 ▸ e))
  replace HB := hidIt (HB.out.trans (kk.mono HB.out.size))
  clear kk
  have HBS_w3 : Hid (w.heap.size ≤ w3.heap.size) := hidIt HB.out.size
  have B_s0_s1 := hidIt (s0.out.blk (Nat.le_refl _))
  go_wp2_with (fail)
  refine (T2.out _ (HR2.out.kept HB.out) hm2).mono ?_
  rintro e w4 ⟨v_s1, rfl, oo, kk⟩
  have s1 := hidIt oo
  clear oo
  obtain ⟨p_s1, q_s1, ev, hc_s1, hd_s1, _⟩ := s1.out.formN HN2.out
  subst ev
  have G_s1 := hidIt (fun W b (M : List Ru.Rw) (h : Ru.Own W b (.slice p_s1 m2 q_s1) M) => show Ru.Rd W p_s1 M by obtain ⟨a, c, e, _, _, r, _⟩ := h.form; simp only [Value.slice.injEq] at e; rw [e.1]; exact r)
  have N_s1 := hidIt (fun W b (M : List Ru.Rw) (h : Ru.Own W b (.slice p_s1 m2 q_s1) M) (e : p_s1 = none) => show q_s1 = 0 by obtain ⟨a, c, e1, _, _, _, h0, _⟩ := h.form; simp only [Value.slice.injEq] at e1; rw [e1.2.2]; exact h0 (e1.1 ▸ e))
  replace HB := hidIt (HB.out.trans (kk.mono HB.out.size))
  replace s0 := hidIt (s0.out.kept kk)
  clear kk
  have HBS_w4 : Hid (w.heap.size ≤ w4.heap.size) := hidIt HB.out.size
  have B_s0_aw0 := hidIt (s0.out.blk (Nat.le_refl _))
  have B_s1_aw0 := hidIt (s1.out.blk (Nat.le_refl _))
  go_wp2_with (fail)
  refine (CS.out _ _ _ (G_s0.out _ _ _ s0.out) (N_s0.out _ _ _ s0.out) hc_s0 hd_s0 _ _ (G_s1.out _ _ _ s1.out) (N_s1.out _ _ _ s1.out) hc_s1 hd_s1 (by omega) (by omega)).mono ?_
  rintro e w5 ⟨v_aw0, rfl, o0, kk⟩
  have aw0 := hidIt o0
  clear o0
  obtain ⟨p_aw0, q_aw0, ev, _, _, _⟩ := aw0.out.formN HA0.out
  subst ev
  have G_aw0 := hidIt (fun W b (M : List Ac.Rw) (h : Ac.Own W b (.slice p_aw0 n0 q_aw0) M) => show Ac.Rd W p_aw0 M by obtain ⟨a, c, e, _, _, r, _⟩ := h.form; simp only [Value.slice.injEq] at e; rw [e.1]; exact r)
  replace HB := hidIt (HB.out.trans (kk.mono HB.out.size))
  replace s0 := hidIt (s0.out.kept kk)
  replace s1 := hidIt (s1.out.kept kk)
  clear kk
  clear s0
  clear s1
  have HBS_w5 : Hid (w.heap.size ≤ w5.heap.size) := hidIt HB.out.size
  have B_aw0_x0x := hidIt (aw0.out.blk (Nat.le_refl _))
  go_wp2_with (fail)
  refine (T0.out _ (HR0.out.kept HB.out) hm0).mono ?_
  rintro e w6 ⟨v_x0x, rfl, oo, kk⟩
  have x0x := hidIt oo
  clear oo
  obtain ⟨p_x0x, q_x0x, ev, hc_x0x, hd_x0x, _⟩ := x0x.out.formN HN0.out
  subst ev
  have G_x0x := hidIt (fun W b (M : List Ac.Rw) (h : Ac.Own W b (.slice p_x0x m0 q_x0x) M) => show Ac.Rd W p_x0x M by obtain ⟨a, c, e, _, _, r, _⟩ := h.form; simp only [Value.slice.injEq] at e; rw [e.1]; exact r)
  have N_x0x := hidIt (fun W b (M : List Ac.Rw) (h : Ac.Own W b (.slice p_x0x m0 q_x0x) M) (e : p_x0x = none) => show q_x0x = 0 by obtain ⟨a, c, e1, _, _, _, h0, _⟩ := h.form; simp only [Value.slice.injEq] at e1; rw [e1.2.2]; exact h0 (e1.1 ▸ e))
  replace HB := hidIt (HB.out.trans (kk.mono HB.out.size))
  replace aw0 := hidIt (aw0.out.kept kk)
  clear kk
  have HBS_w6 : Hid (w.heap.size ≤ w6.heap.size) := hidIt HB.out.size
  have B_aw0_x1x := hidIt (aw0.out.blk (Nat.le_refl _))
  have B_x0x_x1x := hidIt (x0x.out.blk (Nat.le_refl _))
  go_wp2_with (fail)
  refine (T2.out _ (HR2.out.kept HB.out) hm2).mono ?_
  rintro e w7 ⟨v_x1x, rfl, oo, kk⟩
  have x1x := hidIt oo
  clear oo
  obtain ⟨p_x1x, q_x1x, ev, hc_x1x, hd_x1x, _⟩ := x1x.out.formN HN2.out
  subst ev
  have G_x1x := hidIt (fun W b (M : List Ru.Rw) (h : Ru.Own W b (.slice p_x1x m2 q_x1x) M) => show Ru.Rd W p_x1x M by obtain ⟨a, c, e, _, _, r, _⟩ := h.form; simp only [Value.slice.injEq] at e; rw [e.1]; exact r)
  have N_x1x := hidIt (fun W b (M : List Ru.Rw) (h : Ru.Own W b (.slice p_x1x m2 q_x1x) M) (e : p_x1x = none) => show q_x1x = 0 by obtain ⟨a, c, e1, _, _, _, h0, _⟩ := h.form; simp only [Value.slice.injEq] at e1; rw [e1.2.2]; exact h0 (e1.1 ▸ e))
  replace HB := hidIt (HB.out.trans (kk.mono HB.out.size))
  replace aw0 := hidIt (aw0.out.kept kk)
  replace x0x := hidIt (x0x.out.kept kk)
  clear kk
  have HBS_w7 : Hid (w.heap.size ≤ w7.heap.size) := hidIt HB.out.size
  have B_aw0_ag0 := hidIt (aw0.out.blk (Nat.le_refl _))
  have B_x0x_ag0 := hidIt (x0x.out.blk (Nat.le_refl _))
  have B_x1x_ag0 := hidIt (x1x.out.blk (Nat.le_refl _))
  go_wp2_with (fail)
  refine (CI.out _ _ _ (G_x0x.out _ _ _ x0x.out) (N_x0x.out _ _ _ x0x.out) hc_x0x hd_x0x _ _ (G_x1x.out _ _ _ x1x.out) (N_x1x.out _ _ _ x1x.out) hc_x1x hd_x1x (by omega) (by omega)).mono ?_
  rintro e w8 ⟨v_ag0, rfl, o0, kk⟩
  have ag0 := hidIt o0
  clear o0
  obtain ⟨p_ag0, q_ag0, ev, _, _, _⟩ := ag0.out.formN HA0.out
  subst ev
  have G_ag0 := hidIt (fun W b (M : List Ac.Rw) (h : Ac.Own W b (.slice p_ag0 n0 q_ag0) M) => show Ac.Rd W p_ag0 M by obtain ⟨a, c, e, _, _, r, _⟩ := h.form; simp only [Value.slice.injEq] at e; rw [e.1]; exact r)
  replace HB := hidIt (HB.out.trans (kk.mono HB.out.size))
  replace aw0 := hidIt (aw0.out.kept kk)
  replace x0x := hidIt (x0x.out.kept kk)
  replace x1x := hidIt (x1x.out.kept kk)
  clear kk
  go_wp2_with (fail)
  refine (EA0.out _ p_ag0 p_aw0 q_ag0 q_aw0 (G_ag0.out _ _ _ ag0.out) (G_aw0.out _ _ _ aw0.out)).mono ?_
  rintro e w9 ⟨rfl, kk⟩
  replace HB := hidIt (HB.out.trans (kk.mono HB.out.size))
  replace aw0 := hidIt (aw0.out.kept kk)
  replace x0x := hidIt (x0x.out.kept kk)
  replace x1x := hidIt (x1x.out.kept kk)
  replace ag0 := hidIt (ag0.out.kept kk)
  clear kk
  have HBS_w9 : Hid (w.heap.size ≤ w9.heap.size) := hidIt HB.out.size
  have B_aw0_y0 := hidIt (aw0.out.blk (Nat.le_refl _))
  have B_x0x_y0 := hidIt (x0x.out.blk (Nat.le_refl _))
  have B_x1x_y0 := hidIt (x1x.out.blk (Nat.le_refl _))
  have B_ag0_y0 := hidIt (ag0.out.blk (Nat.le_refl _))
  go_wp2_with (fail)
  refine (T0.out _ (HR0.out.kept HB.out) hm0).mono ?_
  rintro e w10 ⟨v_y0, rfl, oo, kk⟩
  have y0 := hidIt oo
  clear oo
  obtain ⟨p_y0, q_y0, ev, hc_y0, hd_y0, _⟩ := y0.out.formN HN0.out
  subst ev
  have G_y0 := hidIt (fun W b (M : List Ac.Rw) (h : Ac.Own W b (.slice p_y0 m0 q_y0) M) => show Ac.Rd W p_y0 M by obtain ⟨a, c, e, _, _, r, _⟩ := h.form; simp only [Value.slice.injEq] at e; rw [e.1]; exact r)
  have N_y0 := hidIt (fun W b (M : List Ac.Rw) (h : Ac.Own W b (.slice p_y0 m0 q_y0) M) (e : p_y0 = none) => show q_y0 = 0 by obtain ⟨a, c, e1, _, _, _, h0, _⟩ := h.form; simp only [Value.slice.injEq] at e1; rw [e1.2.2]; exact h0 (e1.1 ▸ e))
  replace HB := hidIt (HB.out.trans (kk.mono HB.out.size))
  replace aw0 := hidIt (aw0.out.kept kk)
  replace x0x := hidIt (x0x.out.kept kk)
  replace x1x := hidIt (x1x.out.kept kk)
  replace ag0 := hidIt (ag0.out.kept kk)
  clear kk
  go_wp2_with (fail)
  refine (E0.out _ p_x0x p_y0 q_x0x q_y0 (G_x0x.out _ _ _ x0x.out) (G_y0.out _ _ _ y0.out)).mono ?_
  rintro e w11 ⟨rfl, kk⟩
  replace HB := hidIt (HB.out.trans (kk.mono HB.out.size))
  replace aw0 := hidIt (aw0.out.kept kk)
  replace x0x := hidIt (x0x.out.kept kk)
  replace x1x := hidIt (x1x.out.kept kk)
  replace ag0 := hidIt (ag0.out.kept kk)
  replace y0 := hidIt (y0.out.kept kk)
  clear kk
  clear y0
  have HBS_w11 : Hid (w.heap.size ≤ w11.heap.size) := hidIt HB.out.size
  have B_aw0_y1 := hidIt (aw0.out.blk (Nat.le_refl _))
  have B_x0x_y1 := hidIt (x0x.out.blk (Nat.le_refl _))
  have B_x1x_y1 := hidIt (x1x.out.blk (Nat.le_refl _))
  have B_ag0_y1 := hidIt (ag0.out.blk (Nat.le_refl _))
  go_wp2_with (fail)
  refine (T2.out _ (HR2.out.kept HB.out) hm2).mono ?_
  rintro e w12 ⟨v_y1, rfl, oo, kk⟩
  have y1 := hidIt oo
  clear oo
  obtain ⟨p_y1, q_y1, ev, hc_y1, hd_y1, _⟩ := y1.out.formN HN2.out
  subst ev
  have G_y1 := hidIt (fun W b (M : List Ru.Rw) (h : Ru.Own W b (.slice p_y1 m2 q_y1) M) => show Ru.Rd W p_y1 M by obtain ⟨a, c, e, _, _, r, _⟩ := h.form; simp only [Value.slice.injEq] at e; rw [e.1]; exact r)
  have N_y1 := hidIt (fun W b (M : List Ru.Rw) (h : Ru.Own W b (.slice p_y1 m2 q_y1) M) (e : p_y1 = none) => show q_y1 = 0 by obtain ⟨a, c, e1, _, _, _, h0, _⟩ := h.form; simp only [Value.slice.injEq] at e1; rw [e1.2.2]; exact h0 (e1.1 ▸ e))
  replace HB := hidIt (HB.out.trans (kk.mono HB.out.size))
  replace aw0 := hidIt (aw0.out.kept kk)
  replace x0x := hidIt (x0x.out.kept kk)
  replace x1x := hidIt (x1x.out.kept kk)
  replace ag0 := hidIt (ag0.out.kept kk)
  clear kk
  go_wp2_with (fail)
  refine (E2.out _ p_x1x p_y1 q_x1x q_y1 (G_x1x.out _ _ _ x1x.out) (G_y1.out _ _ _ y1.out)).mono ?_
  rintro e w13 ⟨rfl, kk⟩
  replace HB := hidIt (HB.out.trans (kk.mono HB.out.size))
  replace aw0 := hidIt (aw0.out.kept kk)
  replace x0x := hidIt (x0x.out.kept kk)
  replace x1x := hidIt (x1x.out.kept kk)
  replace ag0 := hidIt (ag0.out.kept kk)
  replace y1 := hidIt (y1.out.kept kk)
  clear kk
  clear y1
  have hb_x0x : Hid (w.heap.size ≤ w5.heap.size) := HBS_w5
  go_wp2_with (fail)
  refine (M0.out _ _ _ 1 x0x.out (by decide) (by omega)).mono ?_
  rintro e w14 ⟨rfl, oo, yy⟩
  replace HB := hidIt (row_below HB.out x0x.out yy hb_x0x.out HB.out.size)
  replace aw0 : Hid (Ac.Own w14 _ _ A0) := hidIt (row_lo aw0.out x0x.out yy B_aw0_x0x.out)
  replace x1x : Hid (Ru.Own w14 _ _ L2) := hidIt (row_hi x1x.out x0x.out yy B_x0x_x1x.out)
  replace ag0 : Hid (Ac.Own w14 _ _ A0) := hidIt (row_hi ag0.out x0x.out yy B_x0x_ag0.out)
  clear yy oo
  clear x0x
  generalize hkx0 : 1 + 12 * m0 = kx0 at *
  have hkb0 : 1 ≤ kx0 ∧ kx0 ≤ 20000000 := by omega
  clear hkx0
  have hb_x1x : Hid (w.heap.size ≤ w6.heap.size) := HBS_w6
  go_wp2_with (fail)
  refine (M2.out _ _ _ kx0 x1x.out (by omega) (by omega)).mono ?_
  rintro e w15 ⟨rfl, oo, yy⟩
  replace HB := hidIt (row_below HB.out x1x.out yy hb_x1x.out HB.out.size)
  replace aw0 : Hid (Ac.Own w15 _ _ A0) := hidIt (row_lo aw0.out x1x.out yy B_aw0_x1x.out)
  replace ag0 : Hid (Ac.Own w15 _ _ A0) := hidIt (row_hi ag0.out x1x.out yy B_x1x_ag0.out)
  clear yy oo
  clear x1x
  generalize hkx1 : kx0 + 3 * m2 = kx1 at *
  have hkb1 : 1 ≤ kx1 ∧ kx1 ≤ 40000000 := by omega
  clear hkx1
  have hkn : ¬ (kx1 : Int) < 0 := by omega
  go_wp2_with (fail)
  refine (EA0.out _ p_ag0 p_aw0 q_ag0 q_aw0 (G_ag0.out _ _ _ ag0.out) (G_aw0.out _ _ _ aw0.out)).mono ?_
  rintro e w16 ⟨rfl, kk⟩
  replace HB := hidIt (HB.out.trans (kk.mono HB.out.size))
  replace aw0 := hidIt (aw0.out.kept kk)
  replace ag0 := hidIt (ag0.out.kept kk)
  clear kk
  have hb_ag0 : Hid (w.heap.size ≤ w7.heap.size) := HBS_w7
  go_wp2_with (fail)
  refine (MA0.out _ _ _ ag0.out).mono ?_
  rintro e w17 ⟨rfl, oo, yy⟩
  replace HB := hidIt (row_below HB.out ag0.out yy hb_ag0.out HB.out.size)
  replace aw0 : Hid (Ac.Own w17 _ _ A0) := hidIt (row_lo aw0.out ag0.out yy B_aw0_ag0.out)
  replace ag0 := hidIt oo
  clear oo yy
  go_wp2_with (fail)
  refine (HH0.out _ _ _ (G_ag0.out _ _ _ ag0.out)).mono ?_
  rintro e w18 ⟨rfl, kk⟩
  replace HB := hidIt (HB.out.trans (kk.mono HB.out.size))
  replace aw0 := hidIt (aw0.out.kept kk)
  replace ag0 := hidIt (ag0.out.kept kk)
  clear kk
  have HBS_w18 : Hid (w.heap.size ≤ w18.heap.size) := hidIt HB.out.size
  have B_aw0_z0 := hidIt (aw0.out.blk (Nat.le_refl _))
  have B_ag0_z0 := hidIt (ag0.out.blk (Nat.le_refl _))
  go_wp2_with (fail)
  refine (T0.out _ (HR0.out.kept HB.out) hm0).mono ?_
  rintro e w19 ⟨v_z0, rfl, oo, kk⟩
  have z0 := hidIt oo
  clear oo
  obtain ⟨p_z0, q_z0, ev, hc_z0, hd_z0, _⟩ := z0.out.formN HN0.out
  subst ev
  have G_z0 := hidIt (fun W b (M : List Ac.Rw) (h : Ac.Own W b (.slice p_z0 m0 q_z0) M) => show Ac.Rd W p_z0 M by obtain ⟨a, c, e, _, _, r, _⟩ := h.form; simp only [Value.slice.injEq] at e; rw [e.1]; exact r)
  have N_z0 := hidIt (fun W b (M : List Ac.Rw) (h : Ac.Own W b (.slice p_z0 m0 q_z0) M) (e : p_z0 = none) => show q_z0 = 0 by obtain ⟨a, c, e1, _, _, _, h0, _⟩ := h.form; simp only [Value.slice.injEq] at e1; rw [e1.2.2]; exact h0 (e1.1 ▸ e))
  replace HB := hidIt (HB.out.trans (kk.mono HB.out.size))
  replace aw0 := hidIt (aw0.out.kept kk)
  replace ag0 := hidIt (ag0.out.kept kk)
  clear kk
  have HBS_w19 : Hid (w.heap.size ≤ w19.heap.size) := hidIt HB.out.size
  have B_aw0_z1 := hidIt (aw0.out.blk (Nat.le_refl _))
  have B_ag0_z1 := hidIt (ag0.out.blk (Nat.le_refl _))
  have B_z0_z1 := hidIt (z0.out.blk (Nat.le_refl _))
  go_wp2_with (fail)
  refine (T2.out _ (HR2.out.kept HB.out) hm2).mono ?_
  rintro e w20 ⟨v_z1, rfl, oo, kk⟩
  have z1 := hidIt oo
  clear oo
  obtain ⟨p_z1, q_z1, ev, hc_z1, hd_z1, _⟩ := z1.out.formN HN2.out
  subst ev
  have G_z1 := hidIt (fun W b (M : List Ru.Rw) (h : Ru.Own W b (.slice p_z1 m2 q_z1) M) => show Ru.Rd W p_z1 M by obtain ⟨a, c, e, _, _, r, _⟩ := h.form; simp only [Value.slice.injEq] at e; rw [e.1]; exact r)
  have N_z1 := hidIt (fun W b (M : List Ru.Rw) (h : Ru.Own W b (.slice p_z1 m2 q_z1) M) (e : p_z1 = none) => show q_z1 = 0 by obtain ⟨a, c, e1, _, _, _, h0, _⟩ := h.form; simp only [Value.slice.injEq] at e1; rw [e1.2.2]; exact h0 (e1.1 ▸ e))
  replace HB := hidIt (HB.out.trans (kk.mono HB.out.size))
  replace aw0 := hidIt (aw0.out.kept kk)
  replace ag0 := hidIt (ag0.out.kept kk)
  replace z0 := hidIt (z0.out.kept kk)
  clear kk
  have HBS_w20 : Hid (w.heap.size ≤ w20.heap.size) := hidIt HB.out.size
  have B_aw0_ah0 := hidIt (aw0.out.blk (Nat.le_refl _))
  have B_ag0_ah0 := hidIt (ag0.out.blk (Nat.le_refl _))
  have B_z0_ah0 := hidIt (z0.out.blk (Nat.le_refl _))
  have B_z1_ah0 := hidIt (z1.out.blk (Nat.le_refl _))
  go_wp2_with (fail)
  refine (CI.out _ _ _ (G_z0.out _ _ _ z0.out) (N_z0.out _ _ _ z0.out) hc_z0 hd_z0 _ _ (G_z1.out _ _ _ z1.out) (N_z1.out _ _ _ z1.out) hc_z1 hd_z1 (by omega) (by omega)).mono ?_
  rintro e w21 ⟨v_ah0, rfl, o0, kk⟩
  have ah0 := hidIt o0
  clear o0
  obtain ⟨p_ah0, q_ah0, ev, _, _, _⟩ := ah0.out.formN HA0.out
  subst ev
  have G_ah0 := hidIt (fun W b (M : List Ac.Rw) (h : Ac.Own W b (.slice p_ah0 n0 q_ah0) M) => show Ac.Rd W p_ah0 M by obtain ⟨a, c, e, _, _, r, _⟩ := h.form; simp only [Value.slice.injEq] at e; rw [e.1]; exact r)
  replace HB := hidIt (HB.out.trans (kk.mono HB.out.size))
  replace aw0 := hidIt (aw0.out.kept kk)
  replace ag0 := hidIt (ag0.out.kept kk)
  replace z0 := hidIt (z0.out.kept kk)
  replace z1 := hidIt (z1.out.kept kk)
  clear kk
  go_wp2_with (fail)
  refine (EA0.out _ p_ah0 p_aw0 q_ah0 q_aw0 (G_ah0.out _ _ _ ah0.out) (G_aw0.out _ _ _ aw0.out)).mono ?_
  rintro e w22 ⟨rfl, kk⟩
  replace HB := hidIt (HB.out.trans (kk.mono HB.out.size))
  replace aw0 := hidIt (aw0.out.kept kk)
  replace ag0 := hidIt (ag0.out.kept kk)
  replace z0 := hidIt (z0.out.kept kk)
  replace z1 := hidIt (z1.out.kept kk)
  replace ah0 := hidIt (ah0.out.kept kk)
  clear kk
  go_wp2_with (fail)
  refine (HH0.out _ _ _ (G_ag0.out _ _ _ ag0.out)).mono ?_
  rintro e w23 ⟨rfl, kk⟩
  replace HB := hidIt (HB.out.trans (kk.mono HB.out.size))
  replace aw0 := hidIt (aw0.out.kept kk)
  replace ag0 := hidIt (ag0.out.kept kk)
  replace z0 := hidIt (z0.out.kept kk)
  replace z1 := hidIt (z1.out.kept kk)
  replace ah0 := hidIt (ah0.out.kept kk)
  clear kk
  go_wp2_with (fail)
  go_ret
  exact ⟨rfl, HB.out⟩

set_option maxRecDepth 100000 in
theorem lifted (os : Os) (started : os.Started) (H : Type) (enc : TypeId × Value → H) :
    ReturnsInHanded {} Try.checked os 3 .any (Rows.fnExactBlindSpec.pre6 enc Try.prog Try.f3 Rows.fnExactBlindRow.domain false) (Rows.fnExactBlindSpec.post enc Try.prog Try.f3 false true false false) := by
  refine returnsInHanded_of_change (C := Try.checked) own started (by kernel_rfl) Try.func3
    (ChangeSpec.witness6 (enc := enc) (C := Try.checked) false ⟨#[], #[.slice none 0 0, .string ByteArray.empty, .slice none 0 0], []⟩ 8 (by kernel_rfl) (by kernel_rfl) (by kernel_rfl) (by kernel_rfl)) ?_
  intro W base args ds gs before hval0 hW hcnd _
  have hval : ∀ (j : Nat) t v, Try.f3.params[j]? = some t → args[j]? = some v → Value.okWide Try.prog W .any base t v := hval0
  have hW' := hW
  obtain ⟨p, q, hA0, hV, rfl, hfz, hnd⟩ := hW
  have hA : DataW.TrodAll enc Try.prog W 0 (fun _ => true) true Try.f3.params.toList args.toList ds p := hA0
  rw [Try.params3] at hA hval
  obtain ⟨v0, vs0, d0, ds0, p0, q0, hargs, rfl, rfl, h0, r0⟩ := trodAll_cons hA
  obtain ⟨v1, vs1, d1, ds1, p1, q1, rfl, rfl, rfl, h1, r1⟩ := trodAll_cons r0
  obtain ⟨v2, vs2, d2, ds2, p2, q2, rfl, rfl, rfl, h2, r2⟩ := trodAll_cons r1
  obtain ⟨rfl, rfl, rfl⟩ := trodAll_nil r2
  obtain rfl : args = #[v0, v1, v2] := by cases args; simp_all
  obtain ⟨rfl, rfl⟩ := trodVars_none hV
  have k0 := h0
  have lt0 : ∀ x ∈ p0, x.block < W.heap.size := by obtain ⟨m, hm⟩ := k0; exact DataW.trod_lt m _ _ _ hm
  have k1 := h1
  have lt1 : ∀ x ∈ p1, x.block < W.heap.size := by obtain ⟨m, hm⟩ := k1; exact DataW.trod_lt m _ _ _ hm
  have k2 := h2
  have lt2 : ∀ x ∈ p2, x.block < W.heap.size := by obtain ⟨m, hm⟩ := k2; exact DataW.trod_lt m _ _ _ hm
  obtain ⟨a0, cap0, L0, rfl, w0⟩ := Ac.open_acts (hval 0 22 v0 rfl rfl) h0
  obtain ⟨s1, rfl, rfl, rfl, ws1⟩ := Go.ChangeMaps.open_string Try.underlying9 (hval 1 9 v1 rfl rfl) h1
  obtain ⟨a2, cap2, L2, rfl, w2⟩ := Ru.open_rows Try.underlying23 Try.underlying45 (by kernel_rfl) rfl rfl rfl (by kernel_rfl) (by kernel_rfl) (by kernel_rfl) Try.underlying9 Try.underlying4 Try.underlying4 (hval 2 23 v2 rfl rfl) h2
  clear hA0 hval0
  refine (walk a0 cap0 L0 s1 ws1 a2 cap2 L2 W w0 w2).mono fun e W' ⟨he, bel⟩ => ?_
  subst he
  exact ⟨_, rfl, _, _, _, [], _, [], hW', trodAll_mk1 (shut_bool Try.underlying4 _), (trodAll_cons_mk (Below.trod laidOut (by kernel_rfl) (of_decide_eq_true (by kernel_rfl)) k0 bel lt0) (trodAll_cons_mk (Below.trod laidOut (by kernel_rfl) (of_decide_eq_true (by kernel_rfl)) k1 bel lt1) (trodAll_cons_mk (Below.trod laidOut (by kernel_rfl) (of_decide_eq_true (by kernel_rfl)) k2 bel lt2) trodAll_mk0))), rfl, bel.frame _, fun h => by cases h⟩

theorem over : Rows.fnExactBlindRow.holds Try.pinned (OpenSpec.ofChange Rows.fnExactBlindSpec) :=
  OpenClaim.holds_of_wide 3 Try.f3 rfl rfl rfl rfl rfl rfl rfl ⟨rfl, rfl, rfl, rfl, rfl⟩ rfl rfl rfl rfl rfl (by kernel_rfl) Try.func3 (by kernel_rfl)
    (of_decide_eq_true (by kernel_rfl)) (by unfold Func.isWrapper; first | (rw [if_pos (by decide +kernel)]; kernel_rfl) | (rw [if_neg (by decide +kernel)]; exact ⟨rfl, rfl⟩))
    (fun os started H enc _ => lifted os started H enc)
end Go.Proofs.Ytbdibkcamomgpaa.fnExactBlind
namespace Go.Proofs.Ytbdibkcamomgpaa
theorem fnExactBlind_holds : Rows.FnExactBlindSaid := fnExactBlind.over
#print axioms fnExactBlind_holds
end Go.Proofs.Ytbdibkcamomgpaa
