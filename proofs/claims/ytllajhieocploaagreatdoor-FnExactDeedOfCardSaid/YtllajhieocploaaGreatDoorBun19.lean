/-
  NodeOk of the program. (Written by wip/mkNod.py.)
  DeedOf of the program. (Written by wip/mkDed.py.)
-/
import Derived.Test.YtllajhieocploaaGreatDoorBun18
import Derived.Test.YtllajhieocploaaGreatDoorBun15
import Derived.Test.YtllajhieocploaaGreatDoorBun14
import Derived.Test.YtllajhieocploaaGreatDoorBun7
import Derived.Test.YtllajhieocploaaGreatDoorBun16
import Derived.Test.YtllajhieocploaaGreatDoorBun13
namespace Go.Proofs.YtllajhieocploaaGreatDoor.Nd
open Go.ChangeShapes Go.WideShapes Go.ChangeAt Go.RowKit
open Go.Proofs.YtllajhieocploaaGreatDoor.Vv (Sl sv hidIt)
set_option linter.unusedVariables false
set_option maxRecDepth 100000 in
set_option maxHeartbeats 16000000 in
theorem impl_NodeOk (x : Nw) (e m b g : Sl) (w : World) (h : RdN w x e m b g) (hs : ShortN x) (ht : Sg.Tab w) :
    Calls Tryz.prog 8 #[nv x e m b g] w fun en w' => en = .returned (.bool (okN x)) ∧ Below w.heap.size w w' := by
  have hE := h.e
  have hM := h.m
  obtain ⟨bk, mm, ph, mn, ol, nw, tm, bu, lg, ap⟩ := x
  obtain ⟨e0, e1, e2⟩ := e
  obtain ⟨t0, t1, t2⟩ := m
  obtain ⟨b0, b1, b2⟩ := b
  obtain ⟨g0, g1, g2⟩ := g
  obtain ⟨⟨z1, rE, nE, lE, cE⟩, ⟨z2, rM, nM, lM, cM⟩, ⟨z3, rB, nB, lB, cB⟩, ⟨z4, rG, lG, cG⟩⟩ := h
  simp only at z1 rE nE lE cE z2 rM nM lM cM z3 rB nB lB cB z4 rG lG cG
  obtain ⟨sE, sG, sA⟩ := hs
  simp only at sE sG sA
  simp only at hE hM
  have C1 := hidIt (fun W (k : Rp.RdE W (e0, e1, e2) bk) (k' : Rp.RdM W (t0, t1, t2) mm) => Rp.impl_replicaOk (e0, e1, e2) (t0, t1, t2) (bk, mm) W k k' sE (by show bk.length ≤ _; omega) (by show mm.length ≤ _; omega))
  have C3 : Hid (∀ W, Calls Tryz.prog 30 #[.agg #[.int .i64 ph, .int .i64 mn, .int .i64 ol, .int .i64 nw, .int .i64 tm]] W fun en w' => en = .returned (.bool (Ro.rollOk ph mn ol nw tm)) ∧ Below W.heap.size W w') := hidIt (fun W => (Ro.impl_RollOk ph mn ol nw tm W).mono (fun en w' ⟨a, c⟩ => ⟨a, by rw [c]; exact ((Below.refl _ _).alloc (Nat.le_refl _) _).alloc (by simp) _⟩))
  have C4 := hidIt (fun W (r : Bu.Rd W b0 bu) => Bu.impl_BucketsOk b0 b2 bu W r (by omega))
  have C5 := hidIt (fun W (r : Lg.Rd W g0 lg) (t : Sg.Tab W) => Lg.impl_LogOk g0 g2 lg W r (by omega) t)
  have C6 := hidIt (fun W => impl_hasLabels ap W)
  have HT := hidIt (fun W (k : Below w.heap.size w W) => ht.kept k)
  have HOK : Hid (okN ⟨bk, mm, ph, mn, ol, nw, tm, bu, lg, ap⟩ = (Rp.okR (bk, mm) && (Ro.rollOk ph mn ol nw tm && (Bu.okB bu && (Lg.okL lg && apexB ap))))) := hidIt (by unfold okN Rp.okR; simp only [Bool.and_assoc])
  have HE := hidIt hE
  have HM := hidIt hM
  have RB := hidIt rB
  have RG := hidIt rG
  clear hE hM rE rM rB rG sE sG sA ht
  subst z1 z2 z3 z4
  simp only [sv] at C1
  simp only [nv, nc, sv]
  generalize okN ⟨bk, mm, ph, mn, ol, nw, tm, bu, lg, ap⟩ = r at HOK ⊢
  generalize Rp.okR (bk, mm) = k1 at C1 HOK
  generalize Ro.rollOk ph mn ol nw tm = k3 at C3 HOK
  generalize Bu.okB bu = k4 at C4 HOK
  generalize Lg.okL lg = k5 at C5 HOK
  generalize apexB ap = k6 at C6 HOK
  generalize bk.length = m1 at *
  generalize mm.length = m2 at *
  generalize bu.length = m3 at *
  generalize lg.length = m4 at *
  cases k1 with
  | false =>
    have er : r = false := by rw [HOK.out]; rfl
    subst er
    have BX := hidIt (Bo.Box.new w #[.slice e0 m1 e2, .slice t0 m2 t2, .int .i64 ph, .int .i64 mn, .int .i64 ol, .int .i64 nw, .int .i64 tm, .slice b0 m3 b2, .slice g0 m4 g2, .string ap] 42)
    have HB := hidIt ((Below.refl w.heap.size w).alloc (Nat.le_refl _) (.cells #[.slice e0 m1 e2, .slice t0 m2 t2, .int .i64 ph, .int .i64 mn, .int .i64 ol, .int .i64 nw, .int .i64 tm, .slice b0 m3 b2, .slice g0 m4 g2, .string ap] 42))
    have d0 := BX.out.c 0 (v := .slice e0 m1 e2) rfl
    have d1 := BX.out.c 1 (v := .slice t0 m2 t2) rfl
    go_enter Tryz.func8, Tryz.ntmps8
    go_wp2_with (fail)
    refine (C1.out _ (HE.out.kept HB.out) (HM.out.kept HB.out)).mono ?_
    rintro en w1 ⟨rfl, kk⟩
    replace HB := hidIt (on HB.out kk)
    replace BX := hidIt (BX.out.kept kk)
    clear kk d0 d1
    go_wp2_with (fail)
    go_ret
    exact ⟨rfl, HB.out⟩
  | true =>
    cases k3 with
    | false =>
      have er : r = false := by rw [HOK.out]; rfl
      subst er
      have BX := hidIt (Bo.Box.new w #[.slice e0 m1 e2, .slice t0 m2 t2, .int .i64 ph, .int .i64 mn, .int .i64 ol, .int .i64 nw, .int .i64 tm, .slice b0 m3 b2, .slice g0 m4 g2, .string ap] 42)
      have HB := hidIt ((Below.refl w.heap.size w).alloc (Nat.le_refl _) (.cells #[.slice e0 m1 e2, .slice t0 m2 t2, .int .i64 ph, .int .i64 mn, .int .i64 ol, .int .i64 nw, .int .i64 tm, .slice b0 m3 b2, .slice g0 m4 g2, .string ap] 42))
      have d0 := BX.out.c 0 (v := .slice e0 m1 e2) rfl
      have d1 := BX.out.c 1 (v := .slice t0 m2 t2) rfl
      go_enter Tryz.func8, Tryz.ntmps8
      go_wp2_with (fail)
      refine (C1.out _ (HE.out.kept HB.out) (HM.out.kept HB.out)).mono ?_
      rintro en w1 ⟨rfl, kk⟩
      replace HB := hidIt (on HB.out kk)
      replace BX := hidIt (BX.out.kept kk)
      clear kk d0 d1
      have d2 := BX.out.c 2 (v := .int .i64 ph) rfl
      have d3 := BX.out.c 3 (v := .int .i64 mn) rfl
      have d4 := BX.out.c 4 (v := .int .i64 ol) rfl
      have d5 := BX.out.c 5 (v := .int .i64 nw) rfl
      have d6 := BX.out.c 6 (v := .int .i64 tm) rfl
      go_wp2_with (fail)
      refine (C3.out _).mono ?_
      rintro en w2 ⟨rfl, kk⟩
      replace HB := hidIt (on HB.out kk)
      replace BX := hidIt (BX.out.kept kk)
      clear kk d2 d3 d4 d5 d6
      go_wp2_with (fail)
      go_ret
      exact ⟨rfl, HB.out⟩
    | true =>
      cases k4 with
      | false =>
        have er : r = false := by rw [HOK.out]; rfl
        subst er
        have BX := hidIt (Bo.Box.new w #[.slice e0 m1 e2, .slice t0 m2 t2, .int .i64 ph, .int .i64 mn, .int .i64 ol, .int .i64 nw, .int .i64 tm, .slice b0 m3 b2, .slice g0 m4 g2, .string ap] 42)
        have HB := hidIt ((Below.refl w.heap.size w).alloc (Nat.le_refl _) (.cells #[.slice e0 m1 e2, .slice t0 m2 t2, .int .i64 ph, .int .i64 mn, .int .i64 ol, .int .i64 nw, .int .i64 tm, .slice b0 m3 b2, .slice g0 m4 g2, .string ap] 42))
        have d0 := BX.out.c 0 (v := .slice e0 m1 e2) rfl
        have d1 := BX.out.c 1 (v := .slice t0 m2 t2) rfl
        go_enter Tryz.func8, Tryz.ntmps8
        go_wp2_with (fail)
        refine (C1.out _ (HE.out.kept HB.out) (HM.out.kept HB.out)).mono ?_
        rintro en w1 ⟨rfl, kk⟩
        replace HB := hidIt (on HB.out kk)
        replace BX := hidIt (BX.out.kept kk)
        clear kk d0 d1
        have d2 := BX.out.c 2 (v := .int .i64 ph) rfl
        have d3 := BX.out.c 3 (v := .int .i64 mn) rfl
        have d4 := BX.out.c 4 (v := .int .i64 ol) rfl
        have d5 := BX.out.c 5 (v := .int .i64 nw) rfl
        have d6 := BX.out.c 6 (v := .int .i64 tm) rfl
        go_wp2_with (fail)
        refine (C3.out _).mono ?_
        rintro en w2 ⟨rfl, kk⟩
        replace HB := hidIt (on HB.out kk)
        replace BX := hidIt (BX.out.kept kk)
        clear kk d2 d3 d4 d5 d6
        have d7 := BX.out.c 7 (v := .slice b0 m3 b2) rfl
        go_wp2_with (fail)
        refine (C4.out _ (RB.out.kept HB.out)).mono ?_
        rintro en w3 ⟨rfl, kk⟩
        replace HB := hidIt (on HB.out kk)
        replace BX := hidIt (BX.out.kept kk)
        clear kk d7
        go_wp2_with (fail)
        go_ret
        exact ⟨rfl, HB.out⟩
      | true =>
        cases k5 with
        | false =>
          have er : r = false := by rw [HOK.out]; rfl
          subst er
          have BX := hidIt (Bo.Box.new w #[.slice e0 m1 e2, .slice t0 m2 t2, .int .i64 ph, .int .i64 mn, .int .i64 ol, .int .i64 nw, .int .i64 tm, .slice b0 m3 b2, .slice g0 m4 g2, .string ap] 42)
          have HB := hidIt ((Below.refl w.heap.size w).alloc (Nat.le_refl _) (.cells #[.slice e0 m1 e2, .slice t0 m2 t2, .int .i64 ph, .int .i64 mn, .int .i64 ol, .int .i64 nw, .int .i64 tm, .slice b0 m3 b2, .slice g0 m4 g2, .string ap] 42))
          have d0 := BX.out.c 0 (v := .slice e0 m1 e2) rfl
          have d1 := BX.out.c 1 (v := .slice t0 m2 t2) rfl
          go_enter Tryz.func8, Tryz.ntmps8
          go_wp2_with (fail)
          refine (C1.out _ (HE.out.kept HB.out) (HM.out.kept HB.out)).mono ?_
          rintro en w1 ⟨rfl, kk⟩
          replace HB := hidIt (on HB.out kk)
          replace BX := hidIt (BX.out.kept kk)
          clear kk d0 d1
          have d2 := BX.out.c 2 (v := .int .i64 ph) rfl
          have d3 := BX.out.c 3 (v := .int .i64 mn) rfl
          have d4 := BX.out.c 4 (v := .int .i64 ol) rfl
          have d5 := BX.out.c 5 (v := .int .i64 nw) rfl
          have d6 := BX.out.c 6 (v := .int .i64 tm) rfl
          go_wp2_with (fail)
          refine (C3.out _).mono ?_
          rintro en w2 ⟨rfl, kk⟩
          replace HB := hidIt (on HB.out kk)
          replace BX := hidIt (BX.out.kept kk)
          clear kk d2 d3 d4 d5 d6
          have d7 := BX.out.c 7 (v := .slice b0 m3 b2) rfl
          go_wp2_with (fail)
          refine (C4.out _ (RB.out.kept HB.out)).mono ?_
          rintro en w3 ⟨rfl, kk⟩
          replace HB := hidIt (on HB.out kk)
          replace BX := hidIt (BX.out.kept kk)
          clear kk d7
          have d8 := BX.out.c 8 (v := .slice g0 m4 g2) rfl
          go_wp2_with (fail)
          refine (C5.out _ (RG.out.kept HB.out) (HT.out _ HB.out)).mono ?_
          rintro en w4 ⟨rfl, kk⟩
          replace HB := hidIt (on HB.out kk)
          replace BX := hidIt (BX.out.kept kk)
          clear kk d8
          go_wp2_with (fail)
          go_ret
          exact ⟨rfl, HB.out⟩
        | true =>
          cases k6 with
          | false =>
            have er : r = false := by rw [HOK.out]; rfl
            subst er
            have BX := hidIt (Bo.Box.new w #[.slice e0 m1 e2, .slice t0 m2 t2, .int .i64 ph, .int .i64 mn, .int .i64 ol, .int .i64 nw, .int .i64 tm, .slice b0 m3 b2, .slice g0 m4 g2, .string ap] 42)
            have HB := hidIt ((Below.refl w.heap.size w).alloc (Nat.le_refl _) (.cells #[.slice e0 m1 e2, .slice t0 m2 t2, .int .i64 ph, .int .i64 mn, .int .i64 ol, .int .i64 nw, .int .i64 tm, .slice b0 m3 b2, .slice g0 m4 g2, .string ap] 42))
            have d0 := BX.out.c 0 (v := .slice e0 m1 e2) rfl
            have d1 := BX.out.c 1 (v := .slice t0 m2 t2) rfl
            go_enter Tryz.func8, Tryz.ntmps8
            go_wp2_with (fail)
            refine (C1.out _ (HE.out.kept HB.out) (HM.out.kept HB.out)).mono ?_
            rintro en w1 ⟨rfl, kk⟩
            replace HB := hidIt (on HB.out kk)
            replace BX := hidIt (BX.out.kept kk)
            clear kk d0 d1
            have d2 := BX.out.c 2 (v := .int .i64 ph) rfl
            have d3 := BX.out.c 3 (v := .int .i64 mn) rfl
            have d4 := BX.out.c 4 (v := .int .i64 ol) rfl
            have d5 := BX.out.c 5 (v := .int .i64 nw) rfl
            have d6 := BX.out.c 6 (v := .int .i64 tm) rfl
            go_wp2_with (fail)
            refine (C3.out _).mono ?_
            rintro en w2 ⟨rfl, kk⟩
            replace HB := hidIt (on HB.out kk)
            replace BX := hidIt (BX.out.kept kk)
            clear kk d2 d3 d4 d5 d6
            have d7 := BX.out.c 7 (v := .slice b0 m3 b2) rfl
            go_wp2_with (fail)
            refine (C4.out _ (RB.out.kept HB.out)).mono ?_
            rintro en w3 ⟨rfl, kk⟩
            replace HB := hidIt (on HB.out kk)
            replace BX := hidIt (BX.out.kept kk)
            clear kk d7
            have d8 := BX.out.c 8 (v := .slice g0 m4 g2) rfl
            go_wp2_with (fail)
            refine (C5.out _ (RG.out.kept HB.out) (HT.out _ HB.out)).mono ?_
            rintro en w4 ⟨rfl, kk⟩
            replace HB := hidIt (on HB.out kk)
            replace BX := hidIt (BX.out.kept kk)
            clear kk d8
            have d9 := BX.out.c 9 (v := .string ap) rfl
            go_wp2_with (fail)
            refine (C6.out _).mono ?_
            rintro en w5 ⟨rfl, kk⟩
            replace HB := hidIt (on HB.out kk)
            replace BX := hidIt (BX.out.kept kk)
            clear kk d9
            go_wp2_with (fail)
            go_ret
            exact ⟨rfl, HB.out⟩
          | true =>
            have er : r = true := by rw [HOK.out]; rfl
            subst er
            have BX := hidIt (Bo.Box.new w #[.slice e0 m1 e2, .slice t0 m2 t2, .int .i64 ph, .int .i64 mn, .int .i64 ol, .int .i64 nw, .int .i64 tm, .slice b0 m3 b2, .slice g0 m4 g2, .string ap] 42)
            have HB := hidIt ((Below.refl w.heap.size w).alloc (Nat.le_refl _) (.cells #[.slice e0 m1 e2, .slice t0 m2 t2, .int .i64 ph, .int .i64 mn, .int .i64 ol, .int .i64 nw, .int .i64 tm, .slice b0 m3 b2, .slice g0 m4 g2, .string ap] 42))
            have d0 := BX.out.c 0 (v := .slice e0 m1 e2) rfl
            have d1 := BX.out.c 1 (v := .slice t0 m2 t2) rfl
            go_enter Tryz.func8, Tryz.ntmps8
            go_wp2_with (fail)
            refine (C1.out _ (HE.out.kept HB.out) (HM.out.kept HB.out)).mono ?_
            rintro en w1 ⟨rfl, kk⟩
            replace HB := hidIt (on HB.out kk)
            replace BX := hidIt (BX.out.kept kk)
            clear kk d0 d1
            have d2 := BX.out.c 2 (v := .int .i64 ph) rfl
            have d3 := BX.out.c 3 (v := .int .i64 mn) rfl
            have d4 := BX.out.c 4 (v := .int .i64 ol) rfl
            have d5 := BX.out.c 5 (v := .int .i64 nw) rfl
            have d6 := BX.out.c 6 (v := .int .i64 tm) rfl
            go_wp2_with (fail)
            refine (C3.out _).mono ?_
            rintro en w2 ⟨rfl, kk⟩
            replace HB := hidIt (on HB.out kk)
            replace BX := hidIt (BX.out.kept kk)
            clear kk d2 d3 d4 d5 d6
            have d7 := BX.out.c 7 (v := .slice b0 m3 b2) rfl
            go_wp2_with (fail)
            refine (C4.out _ (RB.out.kept HB.out)).mono ?_
            rintro en w3 ⟨rfl, kk⟩
            replace HB := hidIt (on HB.out kk)
            replace BX := hidIt (BX.out.kept kk)
            clear kk d7
            have d8 := BX.out.c 8 (v := .slice g0 m4 g2) rfl
            go_wp2_with (fail)
            refine (C5.out _ (RG.out.kept HB.out) (HT.out _ HB.out)).mono ?_
            rintro en w4 ⟨rfl, kk⟩
            replace HB := hidIt (on HB.out kk)
            replace BX := hidIt (BX.out.kept kk)
            clear kk d8
            have d9 := BX.out.c 9 (v := .string ap) rfl
            go_wp2_with (fail)
            refine (C6.out _).mono ?_
            rintro en w5 ⟨rfl, kk⟩
            replace HB := hidIt (on HB.out kk)
            replace BX := hidIt (BX.out.kept kk)
            clear kk d9
            go_wp2_with (fail)
            go_ret
            exact ⟨rfl, HB.out⟩
end Go.Proofs.YtllajhieocploaaGreatDoor.Nd
namespace Go.Proofs.YtllajhieocploaaGreatDoor.Nd
open Go.ChangeShapes Go.WideShapes Go.ChangeAt Go.RowKit
open Go.Proofs.YtllajhieocploaaGreatDoor.Vv (Sl sv hidIt)
open Go.Proofs.YtllajhieocploaaGreatDoor.Rg (upd waits wp_region_inv op_at)
set_option linter.unusedVariables false
structure RDi (nb : Nat) (ap tx : ByteArray) (mn u K1 K2 U R1 R2 T : Int) (ka : Option Addr) (kn kc : Nat) (w0 : World) (L : Nat → Bool) (u7 u8 u21 u22 u23 u24 u25 u26 u27 u28 u29 u30 u31 u32 u33 u34 : Value) (W : World) : Prop where
  low : Below w0.heap.size w0 W
  fin : True
  A : L 14 = true → ∃ g, u7 = .pointer (some ⟨g, 0, none⟩) ∧ w0.heap.size ≤ g ∧ (L 15 = false → Bo.Box W g #[.int .i64 0, .int .i64 0, .int .i64 0, .int .i64 0, .int .i64 0, .int .i64 0]) ∧ (L 15 = true → Bo.Box W g #[.int .i64 K1, .int .i64 K2, .int .i64 U, .int .i64 R1, .int .i64 R2, .int .i64 T])
  d15 : L 15 = true → L 14 = true
  k0 : L 0 = true → u22 = .pointer (some ⟨nb, 2, none⟩)
  k1 : L 1 = true → u23 = .pointer (some ⟨nb, 3, none⟩)
  k2 : L 2 = true → u24 = .int .i64 mn
  k3 : L 3 = true → u25 = .pointer (some ⟨nb, 9, none⟩)
  k4 : L 4 = true → u26 = .string ap
  k5 : L 5 = true → u27 = .string (ap ++ ⟨#[32]⟩)
  k6 : L 6 = true → u28 = .slice ka kn kc
  k7 : L 7 = true → u29 = .string tx
  k8 : L 8 = true → u30 = .string (ap ++ ⟨#[32]⟩ ++ tx)
  k9 : L 9 = true → u31 = .int .i64 u
  k10 : L 10 = true → u32 = .tuple #[.agg #[.int .i64 K1, .int .i64 K2, .int .i64 U, .int .i64 R1, .int .i64 R2, .int .i64 T], .bool true]
  k11 : L 11 = true → u21 = .tuple #[.agg #[.int .i64 K1, .int .i64 K2, .int .i64 U, .int .i64 R1, .int .i64 R2, .int .i64 T], .bool true]
  k12 : L 12 = true → u33 = .agg #[.int .i64 K1, .int .i64 K2, .int .i64 U, .int .i64 R1, .int .i64 R2, .int .i64 T]
  k13 : L 13 = true → u34 = .bool true
  k16 : L 16 = true → u8 = .bool true
def KDi (nb : Nat) (ap tx : ByteArray) (mn u K1 K2 U R1 R2 T : Int) (ka : Option Addr) (kn kc : Nat) (w0 : World) (y0 y1 y2 y3 y4 y5 y6 y9 y10 y11 y12 y13 y14 y15 y16 y17 y18 y19 y20 y35 y36 y37 y38 y39 : Value) (L : Nat → Bool) (a : Act) (W : World) : Prop := ∃ u7 u8 u21 u22 u23 u24 u25 u26 u27 u28 u29 u30 u31 u32 u33 u34 : Value, a = ⟨(y0 :: y1 :: y2 :: y3 :: y4 :: y5 :: y6 :: u7 :: u8 :: y9 :: y10 :: y11 :: y12 :: y13 :: y14 :: y15 :: y16 :: y17 :: y18 :: y19 :: y20 :: u21 :: u22 :: u23 :: u24 :: u25 :: u26 :: u27 :: u28 :: u29 :: u30 :: u31 :: u32 :: u33 :: u34 :: y35 :: y36 :: y37 :: y38 :: y39 :: []).toArray, []⟩ ∧ RDi nb ap tx mn u K1 K2 U R1 R2 T ka kn kc w0 L u7 u8 u21 u22 u23 u24 u25 u26 u27 u28 u29 u30 u31 u32 u33 u34 W
theorem RDi.kept {nb : Nat} {ap tx : ByteArray} {mn u K1 K2 U R1 R2 T : Int} {ka : Option Addr} {kn kc : Nat} {w0 : World} {L : Nat → Bool} {u7 u8 u21 u22 u23 u24 u25 u26 u27 u28 u29 u30 u31 u32 u33 u34 : Value} {W W' : World} (R : RDi nb ap tx mn u K1 K2 U R1 R2 T ka kn kc w0 L u7 u8 u21 u22 u23 u24 u25 u26 u27 u28 u29 u30 u31 u32 u33 u34 W) (k : Below W.heap.size W W') : RDi nb ap tx mn u K1 K2 U R1 R2 T ka kn kc w0 L u7 u8 u21 u22 u23 u24 u25 u26 u27 u28 u29 u30 u31 u32 u33 u34 W' :=
  ⟨(R.low.trans (k.mono R.low.size)), R.fin, (fun a => by obtain ⟨g, e, hg, b1, b2⟩ := R.A a; exact ⟨g, e, hg, fun q => (b1 q).kept k, fun q => (b2 q).kept k⟩), R.d15, R.k0, R.k1, R.k2, R.k3, R.k4, R.k5, R.k6, R.k7, R.k8, R.k9, R.k10, R.k11, R.k12, R.k13, R.k16⟩
theorem impl_parts (x : Nw) (u : Int) (eN eM : Addr) (h : okD x u = true) : ∃ tx : ByteArray, tx.size ≤ 200 ∧ (x.apex).size ≤ 60 ∧ x.apex = zD x u ∧
    (∀ W, Calls Tryz.prog 41 #[.agg #[.int .i64 x.ph, .int .i64 x.mn, .int .i64 x.ol, .int .i64 x.nw, .int .i64 x.tm]] W fun en w' => ∃ v, en = .returned v ∧ Pt.Own w' W.heap.size v (kD x u) ∧ Below W.heap.size W w') ∧
    (∀ a c W, Pt.Rd W a (kD x u) → Sg.Tab W → (Se.At W 1 eN) → (Se.At W 0 eM) → Calls Tryz.prog 43 #[.slice a (kD x u).length c] W fun en w' => en = .returned (.string tx) ∧ Below W.heap.size W w') ∧
    (∀ W, Sg.Tab W → Calls Tryz.prog 42 #[.int .i64 x.mn, .string (x.apex ++ ⟨#[32]⟩ ++ tx), .int .i64 u] W fun en w' => en = .returned (.tuple #[Dd.svt (qD x u), .bool true]) ∧ Below W.heap.size W w') := by
  obtain ⟨hr, ha, n, v, en, ev, hn, hv, hs, ht⟩ := okD_nat h
  obtain ⟨k1, k2, k3⟩ := ded_yes h
  have hk := keys_ser hr
  have eT : Dd.keysT (keysN x) = Dd.ktx (keysN x) := by rw [Dd.keysT, if_pos hk]
  have hsz : (Dd.ktx (keysN x)).size ≤ 200 := by
    have := Dd.keysT_size (keysN x)
    rw [eT] at this
    omega
  have hl4 : (keysN x).length ≤ 4 := (Dd.keys_each hk).1
  refine ⟨Dd.ktx (keysN x), hsz, ha, k2.symm, ?_, ?_, ?_⟩
  · intro W
    rw [k1]
    exact Ro.impl_Served x.ph x.mn x.ol x.nw x.tm W
  · intro a c W hR hT hN hM
    rw [k1] at hR ⊢
    rw [← eT]
    exact Dd.impl_KeysText a c (keysN x) eN eM W hR hT hN hM (by omega)
  · intro W hT
    rw [k3]
    have hts : (x.apex ++ ⟨#[32]⟩ ++ Dd.ktx (keysN x)).size ≤ 4611686018427370000 := by
      rw [ByteArray.size_append, ByteArray.size_append]
      have : (⟨#[32]⟩ : ByteArray).size = 1 := rfl
      omega
    have z := Dd.impl_SealOf x.mn (x.apex ++ ⟨#[32]⟩ ++ Dd.ktx (keysN x)) u W hT hts
    have e2 : (Dd.sealR x.mn (x.apex ++ ⟨#[32]⟩ ++ Dd.ktx (keysN x)) u).2 = true := by rw [en, ev, Dd.sealR_yes hs ht]
    rw [e2] at z
    exact z
set_option maxRecDepth 100000 in
set_option maxHeartbeats 16000000 in
theorem impl_DeedOf (x : Nw) (e m b g : Sl) (u : Int) (eN eM : Addr) (w : World) (h : RdN w x e m b g) (hs : ShortN x) (ht : Sg.Tab w) (hN : Se.At w 1 eN) (hM : Se.At w 0 eM) :
    Calls Tryz.prog 11 #[nv x e m b g, .int .i64 u] w fun en w' => DedP w (kD x u) (zD x u) (qD x u) (okD x u) en w' := by
  have C1 := hidIt (fun W (r : RdN W x e m b g) (t : Sg.Tab W) => impl_NodeOk x e m b g W r hs t)
  have C2 := hidIt (fun W => Ro.impl_timeOk u W)
  have HT := hidIt ht
  have HN := hidIt hN
  have HM := hidIt hM
  clear ht hN hM
  have HR := hidIt h
  have HOK : Hid (okD x u = (okN x && Ro.timB u)) := hidIt rfl
  have N1 : Hid ((okN x && Ro.timB u) = false → kD x u = [] ∧ zD x u = ⟨#[]⟩ ∧ qD x u = (0, 0, 0, 0, 0, 0)) := hidIt (fun h => ded_no h)
  have C3 : Hid ((okN x && Ro.timB u) = true → ∃ tx : ByteArray, tx.size ≤ 200 ∧ (x.apex).size ≤ 60 ∧ x.apex = zD x u ∧
    (∀ W, Calls Tryz.prog 41 #[.agg #[.int .i64 x.ph, .int .i64 x.mn, .int .i64 x.ol, .int .i64 x.nw, .int .i64 x.tm]] W fun en w' => ∃ v, en = .returned v ∧ Pt.Own w' W.heap.size v (kD x u) ∧ Below W.heap.size W w') ∧
    (∀ a c W, Pt.Rd W a (kD x u) → Sg.Tab W → (Se.At W 1 eN) → (Se.At W 0 eM) → Calls Tryz.prog 43 #[.slice a (kD x u).length c] W fun en w' => en = .returned (.string tx) ∧ Below W.heap.size W w') ∧
    (∀ W, Sg.Tab W → Calls Tryz.prog 42 #[.int .i64 x.mn, .string (x.apex ++ ⟨#[32]⟩ ++ tx), .int .i64 u] W fun en w' => en = .returned (.tuple #[Dd.svt (qD x u), .bool true]) ∧ Below W.heap.size W w')) := hidIt (fun h => impl_parts x u eN eM h)
  rw [HOK.out]
  clear h HOK
  generalize okN x = k1 at C1 N1 C3 ⊢
  generalize Ro.timB u = k2 at C2 N1 C3 ⊢
  generalize kD x u = L at N1 C3 ⊢
  generalize zD x u = z at N1 C3 ⊢
  generalize qD x u = q at N1 C3 ⊢
  obtain ⟨bk, mm, ph, mn, ol, nw, tm, bu, lg, ap⟩ := x
  obtain ⟨e0, e1, e2⟩ := e
  obtain ⟨t0, t1, t2⟩ := m
  obtain ⟨b0, b1, b2⟩ := b
  obtain ⟨g0, g1, g2⟩ := g
  simp only [nv, nc, sv] at C1 C3 ⊢
  have BN : Hid (Bo.Box ((w.alloc (.cells #[.slice e0 e1 e2, .slice t0 t1 t2, .int .i64 ph, .int .i64 mn, .int .i64 ol, .int .i64 nw, .int .i64 tm, .slice b0 b1 b2, .slice g0 g1 g2, .string ap] 42)).alloc (.cells #[.string ⟨#[]⟩, .slice none 0 0, .int .i64 0, .int .i64 0, .int .i64 0, .int .i64 0, .int .i64 0, .int .i64 0] 54)) w.heap.size #[.slice e0 e1 e2, .slice t0 t1 t2, .int .i64 ph, .int .i64 mn, .int .i64 ol, .int .i64 nw, .int .i64 tm, .slice b0 b1 b2, .slice g0 g1 g2, .string ap]) := hidIt ((Bo.Box.new w _ _).alloc _)
  have BO : Hid (Bo.Box ((w.alloc (.cells #[.slice e0 e1 e2, .slice t0 t1 t2, .int .i64 ph, .int .i64 mn, .int .i64 ol, .int .i64 nw, .int .i64 tm, .slice b0 b1 b2, .slice g0 g1 g2, .string ap] 42)).alloc (.cells #[.string ⟨#[]⟩, .slice none 0 0, .int .i64 0, .int .i64 0, .int .i64 0, .int .i64 0, .int .i64 0, .int .i64 0] 54)) (w.heap.size + 1) #[.string ⟨#[]⟩, .slice none 0 0, .int .i64 0, .int .i64 0, .int .i64 0, .int .i64 0, .int .i64 0, .int .i64 0]) := hidIt (Bo.Box.newAt (by simp))
  have HB : Hid (Below w.heap.size w ((w.alloc (.cells #[.slice e0 e1 e2, .slice t0 t1 t2, .int .i64 ph, .int .i64 mn, .int .i64 ol, .int .i64 nw, .int .i64 tm, .slice b0 b1 b2, .slice g0 g1 g2, .string ap] 42)).alloc (.cells #[.string ⟨#[]⟩, .slice none 0 0, .int .i64 0, .int .i64 0, .int .i64 0, .int .i64 0, .int .i64 0, .int .i64 0] 54))) := hidIt (((Below.refl w.heap.size w).alloc (Nat.le_refl _) _).alloc (by simp) _)
  have hbd : w.heap.size ≤ w.heap.size + 1 := by omega
  have c0 := BN.out.c 0 (v := .slice e0 e1 e2) rfl
  have c1 := BN.out.c 1 (v := .slice t0 t1 t2) rfl
  have c2 := BN.out.c 2 (v := .int .i64 ph) rfl
  have c3 := BN.out.c 3 (v := .int .i64 mn) rfl
  have c4 := BN.out.c 4 (v := .int .i64 ol) rfl
  have c5 := BN.out.c 5 (v := .int .i64 nw) rfl
  have c6 := BN.out.c 6 (v := .int .i64 tm) rfl
  have c7 := BN.out.c 7 (v := .slice b0 b1 b2) rfl
  have c8 := BN.out.c 8 (v := .slice g0 g1 g2) rfl
  have c9 := BN.out.c 9 (v := .string ap) rfl
  go_enter Tryz.func11, Tryz.ntmps11
  go_wp2_with (fail)
  refine (C1.out _ (HR.out.kept HB.out) (HT.out.kept HB.out)).mono ?_
  rintro en w1 ⟨rfl, k⟩
  replace BN := hidIt (BN.out.kept k)
  replace BO := hidIt (BO.out.kept k)
  replace HB := hidIt (HB.out.trans (k.mono HB.out.size))
  clear k c0 c1 c2 c3 c4 c5 c6 c7 c8 c9 C1
  cases k1 with
  | false =>
    obtain ⟨rfl, rfl, rfl⟩ := N1.out rfl
    have c0 := BO.out.c 0 (v := .string ⟨#[]⟩) rfl
    have c1 := BO.out.c 1 (v := .slice none 0 0) rfl
    have c2 := BO.out.c 2 (v := .int .i64 0) rfl
    have c3 := BO.out.c 3 (v := .int .i64 0) rfl
    have c4 := BO.out.c 4 (v := .int .i64 0) rfl
    have c5 := BO.out.c 5 (v := .int .i64 0) rfl
    have c6 := BO.out.c 6 (v := .int .i64 0) rfl
    have c7 := BO.out.c 7 (v := .int .i64 0) rfl
    have f0 := BO.out.fr 0
    have f1 := BO.out.fr 1
    have f2 := BO.out.fr 2
    have f3 := BO.out.fr 3
    have f4 := BO.out.fr 4
    have f5 := BO.out.fr 5
    have f6 := BO.out.fr 6
    have f7 := BO.out.fr 7
    have BZ := hidIt (((((((((BO.out).put (c' := #[.string ⟨#[]⟩, .slice none 0 0, .int .i64 0, .int .i64 0, .int .i64 0, .int .i64 0, .int .i64 0, .int .i64 0]) 0 (.string ⟨#[]⟩) (by simp) rfl).put (c' := #[.string ⟨#[]⟩, .slice none 0 0, .int .i64 0, .int .i64 0, .int .i64 0, .int .i64 0, .int .i64 0, .int .i64 0]) 1 (.slice none 0 0) (by simp) rfl).put (c' := #[.string ⟨#[]⟩, .slice none 0 0, .int .i64 0, .int .i64 0, .int .i64 0, .int .i64 0, .int .i64 0, .int .i64 0]) 2 (.int .i64 0) (by simp) rfl).put (c' := #[.string ⟨#[]⟩, .slice none 0 0, .int .i64 0, .int .i64 0, .int .i64 0, .int .i64 0, .int .i64 0, .int .i64 0]) 3 (.int .i64 0) (by simp) rfl).put (c' := #[.string ⟨#[]⟩, .slice none 0 0, .int .i64 0, .int .i64 0, .int .i64 0, .int .i64 0, .int .i64 0, .int .i64 0]) 4 (.int .i64 0) (by simp) rfl).put (c' := #[.string ⟨#[]⟩, .slice none 0 0, .int .i64 0, .int .i64 0, .int .i64 0, .int .i64 0, .int .i64 0, .int .i64 0]) 5 (.int .i64 0) (by simp) rfl).put (c' := #[.string ⟨#[]⟩, .slice none 0 0, .int .i64 0, .int .i64 0, .int .i64 0, .int .i64 0, .int .i64 0, .int .i64 0]) 6 (.int .i64 0) (by simp) rfl).put (c' := #[.string ⟨#[]⟩, .slice none 0 0, .int .i64 0, .int .i64 0, .int .i64 0, .int .i64 0, .int .i64 0, .int .i64 0]) 7 (.int .i64 0) (by simp) rfl)
    have HZ := hidIt (((((((((HB.out).setCell (p := ⟨w.heap.size + 1, 0, none⟩) hbd (.string ⟨#[]⟩)).setCell (p := ⟨w.heap.size + 1, 1, none⟩) hbd (.slice none 0 0)).setCell (p := ⟨w.heap.size + 1, 2, none⟩) hbd (.int .i64 0)).setCell (p := ⟨w.heap.size + 1, 3, none⟩) hbd (.int .i64 0)).setCell (p := ⟨w.heap.size + 1, 4, none⟩) hbd (.int .i64 0)).setCell (p := ⟨w.heap.size + 1, 5, none⟩) hbd (.int .i64 0)).setCell (p := ⟨w.heap.size + 1, 6, none⟩) hbd (.int .i64 0)).setCell (p := ⟨w.heap.size + 1, 7, none⟩) hbd (.int .i64 0))
    clear BN BO HB C3 N1
    go_wp2_with (fail)
    generalize ((((((((w1).setCell ⟨w.heap.size + 1, 0, none⟩ (.string ⟨#[]⟩)).setCell ⟨w.heap.size + 1, 1, none⟩ (.slice none 0 0)).setCell ⟨w.heap.size + 1, 2, none⟩ (.int .i64 0)).setCell ⟨w.heap.size + 1, 3, none⟩ (.int .i64 0)).setCell ⟨w.heap.size + 1, 4, none⟩ (.int .i64 0)).setCell ⟨w.heap.size + 1, 5, none⟩ (.int .i64 0)).setCell ⟨w.heap.size + 1, 6, none⟩ (.int .i64 0)).setCell ⟨w.heap.size + 1, 7, none⟩ (.int .i64 0) = wz at BZ HZ ⊢
    clear c0 f0 c1 f1 c2 f2 c3 f3 c4 f4 c5 f5 c6 f6 c7 f7
    have x0 := BZ.out.c 0 (v := .string ⟨#[]⟩) rfl
    have x1 := BZ.out.c 1 (v := .slice none 0 0) rfl
    have x2 := BZ.out.c 2 (v := .int .i64 0) rfl
    have x3 := BZ.out.c 3 (v := .int .i64 0) rfl
    have x4 := BZ.out.c 4 (v := .int .i64 0) rfl
    have x5 := BZ.out.c 5 (v := .int .i64 0) rfl
    have x6 := BZ.out.c 6 (v := .int .i64 0) rfl
    have x7 := BZ.out.c 7 (v := .int .i64 0) rfl
    refine bodyPost_ret (v := .tuple #[.agg #[.string ⟨#[]⟩, .slice none 0 0, .int .i64 0, .int .i64 0, .int .i64 0, .int .i64 0, .int .i64 0, .int .i64 0], .bool false]) (by simp [results, Tryz.results11, go_sem, x0, x1, x2, x3, x4, x5, x6, x7]) rfl ?_
    exact DedP.of (a := none) (c := 0) rfl (own_nil _ _) HZ.out
  | true =>
    go_wp2_with (fail)
    refine (C2.out _).mono ?_
    rintro en w1' ⟨rfl, ew⟩
    have ew2 := ew.symm
    subst ew2
    clear ew
    cases k2 with
    | false =>
      obtain ⟨rfl, rfl, rfl⟩ := N1.out rfl
      have c0 := BO.out.c 0 (v := .string ⟨#[]⟩) rfl
      have c1 := BO.out.c 1 (v := .slice none 0 0) rfl
      have c2 := BO.out.c 2 (v := .int .i64 0) rfl
      have c3 := BO.out.c 3 (v := .int .i64 0) rfl
      have c4 := BO.out.c 4 (v := .int .i64 0) rfl
      have c5 := BO.out.c 5 (v := .int .i64 0) rfl
      have c6 := BO.out.c 6 (v := .int .i64 0) rfl
      have c7 := BO.out.c 7 (v := .int .i64 0) rfl
      have f0 := BO.out.fr 0
      have f1 := BO.out.fr 1
      have f2 := BO.out.fr 2
      have f3 := BO.out.fr 3
      have f4 := BO.out.fr 4
      have f5 := BO.out.fr 5
      have f6 := BO.out.fr 6
      have f7 := BO.out.fr 7
      have BZ := hidIt (((((((((BO.out).put (c' := #[.string ⟨#[]⟩, .slice none 0 0, .int .i64 0, .int .i64 0, .int .i64 0, .int .i64 0, .int .i64 0, .int .i64 0]) 0 (.string ⟨#[]⟩) (by simp) rfl).put (c' := #[.string ⟨#[]⟩, .slice none 0 0, .int .i64 0, .int .i64 0, .int .i64 0, .int .i64 0, .int .i64 0, .int .i64 0]) 1 (.slice none 0 0) (by simp) rfl).put (c' := #[.string ⟨#[]⟩, .slice none 0 0, .int .i64 0, .int .i64 0, .int .i64 0, .int .i64 0, .int .i64 0, .int .i64 0]) 2 (.int .i64 0) (by simp) rfl).put (c' := #[.string ⟨#[]⟩, .slice none 0 0, .int .i64 0, .int .i64 0, .int .i64 0, .int .i64 0, .int .i64 0, .int .i64 0]) 3 (.int .i64 0) (by simp) rfl).put (c' := #[.string ⟨#[]⟩, .slice none 0 0, .int .i64 0, .int .i64 0, .int .i64 0, .int .i64 0, .int .i64 0, .int .i64 0]) 4 (.int .i64 0) (by simp) rfl).put (c' := #[.string ⟨#[]⟩, .slice none 0 0, .int .i64 0, .int .i64 0, .int .i64 0, .int .i64 0, .int .i64 0, .int .i64 0]) 5 (.int .i64 0) (by simp) rfl).put (c' := #[.string ⟨#[]⟩, .slice none 0 0, .int .i64 0, .int .i64 0, .int .i64 0, .int .i64 0, .int .i64 0, .int .i64 0]) 6 (.int .i64 0) (by simp) rfl).put (c' := #[.string ⟨#[]⟩, .slice none 0 0, .int .i64 0, .int .i64 0, .int .i64 0, .int .i64 0, .int .i64 0, .int .i64 0]) 7 (.int .i64 0) (by simp) rfl)
      have HZ := hidIt (((((((((HB.out).setCell (p := ⟨w.heap.size + 1, 0, none⟩) hbd (.string ⟨#[]⟩)).setCell (p := ⟨w.heap.size + 1, 1, none⟩) hbd (.slice none 0 0)).setCell (p := ⟨w.heap.size + 1, 2, none⟩) hbd (.int .i64 0)).setCell (p := ⟨w.heap.size + 1, 3, none⟩) hbd (.int .i64 0)).setCell (p := ⟨w.heap.size + 1, 4, none⟩) hbd (.int .i64 0)).setCell (p := ⟨w.heap.size + 1, 5, none⟩) hbd (.int .i64 0)).setCell (p := ⟨w.heap.size + 1, 6, none⟩) hbd (.int .i64 0)).setCell (p := ⟨w.heap.size + 1, 7, none⟩) hbd (.int .i64 0))
      clear BN BO HB C3 N1
      go_wp2_with (fail)
      generalize ((((((((w1).setCell ⟨w.heap.size + 1, 0, none⟩ (.string ⟨#[]⟩)).setCell ⟨w.heap.size + 1, 1, none⟩ (.slice none 0 0)).setCell ⟨w.heap.size + 1, 2, none⟩ (.int .i64 0)).setCell ⟨w.heap.size + 1, 3, none⟩ (.int .i64 0)).setCell ⟨w.heap.size + 1, 4, none⟩ (.int .i64 0)).setCell ⟨w.heap.size + 1, 5, none⟩ (.int .i64 0)).setCell ⟨w.heap.size + 1, 6, none⟩ (.int .i64 0)).setCell ⟨w.heap.size + 1, 7, none⟩ (.int .i64 0) = wz at BZ HZ ⊢
      clear c0 f0 c1 f1 c2 f2 c3 f3 c4 f4 c5 f5 c6 f6 c7 f7
      have x0 := BZ.out.c 0 (v := .string ⟨#[]⟩) rfl
      have x1 := BZ.out.c 1 (v := .slice none 0 0) rfl
      have x2 := BZ.out.c 2 (v := .int .i64 0) rfl
      have x3 := BZ.out.c 3 (v := .int .i64 0) rfl
      have x4 := BZ.out.c 4 (v := .int .i64 0) rfl
      have x5 := BZ.out.c 5 (v := .int .i64 0) rfl
      have x6 := BZ.out.c 6 (v := .int .i64 0) rfl
      have x7 := BZ.out.c 7 (v := .int .i64 0) rfl
      refine bodyPost_ret (v := .tuple #[.agg #[.string ⟨#[]⟩, .slice none 0 0, .int .i64 0, .int .i64 0, .int .i64 0, .int .i64 0, .int .i64 0, .int .i64 0], .bool false]) (by simp [results, Tryz.results11, go_sem, x0, x1, x2, x3, x4, x5, x6, x7]) rfl ?_
      exact DedP.of (a := none) (c := 0) rfl (own_nil _ _) HZ.out
    | true =>
      have HL1 := hidIt BO.out.lt
      obtain ⟨tx, htx, hap, hz, cS, cT, cL⟩ := C3.out rfl
      subst hz
      obtain ⟨K1, K2, U, R1, R2, T⟩ := q
      simp only [Dd.svt, Dd.sv, Dd.sc] at cL
      have CS := hidIt cS
      have CT := hidIt cT
      have CL := hidIt cL
      clear C3 N1 C2 cS cT cL
      have d2 := BN.out.c 2 (v := .int .i64 ph) rfl
      have d3 := BN.out.c 3 (v := .int .i64 mn) rfl
      have d4 := BN.out.c 4 (v := .int .i64 ol) rfl
      have d5 := BN.out.c 5 (v := .int .i64 nw) rfl
      have d6 := BN.out.c 6 (v := .int .i64 tm) rfl
      go_wp2_with (fail)
      refine (CS.out _).mono ?_
      rintro en w2 ⟨v, rfl, oK, k⟩
      obtain ⟨ka, kc, ev, _, _, rK, _⟩ := oK.form
      replace BN := hidIt (BN.out.kept k)
      replace BO := hidIt (BO.out.kept k)
      replace HB := hidIt (HB.out.trans (k.mono HB.out.size))
      have OK := hidIt oK
      have RK0 := hidIt rK
      clear k oK rK d2 d3 d4 d5 d6 CS
      subst ev
      generalize hkn : L.length = kn at *
      have HKN := hidIt hkn
      clear hkn
      have C3c := hidIt (fun W (kb : Below w2.drew.heap.size w2.drew W) => (BN.out.drew.kept kb).c 3 (v := .int .i64 mn) rfl)
      have C9c := hidIt (fun W (kb : Below w2.drew.heap.size w2.drew W) => (BN.out.drew.kept kb).c 9 (v := .string ap) rfl)
      have RK := hidIt (fun W (kb : Below w2.drew.heap.size w2.drew W) => RK0.out.drew.kept kb)
      have HTB := hidIt (fun W (kb : Below w2.drew.heap.size w2.drew W) => HT.out.kept (HB.out.drew.trans (kb.mono HB.out.drew.size)))
      have HNB := hidIt (fun W (kb : Below w2.drew.heap.size w2.drew W) => HN.out.kept (HB.out.drew.trans (kb.mono HB.out.drew.size)))
      have HMB := hidIt (fun W (kb : Below w2.drew.heap.size w2.drew W) => HM.out.kept (HB.out.drew.trans (kb.mono HB.out.drew.size)))
      have q0 : (⟨#[32]⟩ : ByteArray).size = 1 := rfl
      have q2 : ¬ 9223372036854775807 < ap.size + 1 := by omega
      have q3 : ¬ 9223372036854775807 < ap.size + 1 + tx.size := by omega
      go_wp2_with (fail)
      refine wp_region_inv (by kernel_rfl) (by kernel_rfl) (KDi w.heap.size ap tx mn u K1 K2 U R1 R2 T ka kn kc w2.drew _ _ _ _ _ _ _ _ _ _ _ _ _ _ _ _ _ _ _ _ _ _ _ _) ⟨_, _, _, _, _, _, _, _, _, _, _, _, _, _, _, _, (⟨rfl, ⟨(Below.refl _ _), trivial, (fun q => by cases q), (fun q => by cases q), (fun q => by cases q), (fun q => by cases q), (fun q => by cases q), (fun q => by cases q), (fun q => by cases q), (fun q => by cases q), (fun q => by cases q), (fun q => by cases q), (fun q => by cases q), (fun q => by cases q), (fun q => by cases q), (fun q => by cases q), (fun q => by cases q), (fun q => by cases q), (fun q => by cases q)⟩⟩)⟩ ?_ ?_
      case refine_1 =>
        intro Lb a' W j hj hI hL hD
        have hcases : j = 0 ∨ j = 1 ∨ j = 2 ∨ j = 3 ∨ j = 4 ∨ j = 5 ∨ j = 6 ∨ j = 7 ∨ j = 8 ∨ j = 9 ∨ j = 10 ∨ j = 11 ∨ j = 12 ∨ j = 13 ∨ j = 14 ∨ j = 15 ∨ j = 16 := by simp at hj; omega
        clear hj
        obtain ⟨u7, u8, u21, u22, u23, u24, u25, u26, u27, u28, u29, u30, u31, u32, u33, u34, rfl, R⟩ := hI
        rcases hcases with rfl | rfl | rfl | rfl | rfl | rfl | rfl | rfl | rfl | rfl | rfl | rfl | rfl | rfl | rfl | rfl | rfl
        · skip
          refine op_at rfl (fun K hK => ?_)
          go_simp
          refine hK _ _ ?_
          exact ⟨_, _, _, _, _, _, _, _, _, _, _, _, _, _, _, _, rfl, ⟨R.low, R.fin, R.A, R.d15, (fun _ => rfl), R.k1, R.k2, R.k3, R.k4, R.k5, R.k6, R.k7, R.k8, R.k9, R.k10, R.k11, R.k12, R.k13, R.k16⟩⟩
        · skip
          have e0 := R.k0 (hD 0 (by kernel_rfl))
          subst e0
          refine op_at rfl (fun K hK => ?_)
          go_simp
          refine hK _ _ ?_
          exact ⟨_, _, _, _, _, _, _, _, _, _, _, _, _, _, _, _, rfl, ⟨R.low, R.fin, R.A, R.d15, R.k0, (fun _ => rfl), R.k2, R.k3, R.k4, R.k5, R.k6, R.k7, R.k8, R.k9, R.k10, R.k11, R.k12, R.k13, R.k16⟩⟩
        · skip
          have e1 := R.k1 (hD 1 (by kernel_rfl))
          subst e1
          have kb := R.low
          have cc := C3c.out W kb
          refine op_at rfl (fun K hK => ?_)
          go_simp
          refine hK _ _ ?_
          exact ⟨_, _, _, _, _, _, _, _, _, _, _, _, _, _, _, _, rfl, ⟨R.low, R.fin, R.A, R.d15, R.k0, R.k1, (fun _ => rfl), R.k3, R.k4, R.k5, R.k6, R.k7, R.k8, R.k9, R.k10, R.k11, R.k12, R.k13, R.k16⟩⟩
        · skip
          refine op_at rfl (fun K hK => ?_)
          go_simp
          refine hK _ _ ?_
          exact ⟨_, _, _, _, _, _, _, _, _, _, _, _, _, _, _, _, rfl, ⟨R.low, R.fin, R.A, R.d15, R.k0, R.k1, R.k2, (fun _ => rfl), R.k4, R.k5, R.k6, R.k7, R.k8, R.k9, R.k10, R.k11, R.k12, R.k13, R.k16⟩⟩
        · skip
          have e3 := R.k3 (hD 3 (by kernel_rfl))
          subst e3
          have kb := R.low
          have cc := C9c.out W kb
          refine op_at rfl (fun K hK => ?_)
          go_simp
          refine hK _ _ ?_
          exact ⟨_, _, _, _, _, _, _, _, _, _, _, _, _, _, _, _, rfl, ⟨R.low, R.fin, R.A, R.d15, R.k0, R.k1, R.k2, R.k3, (fun _ => rfl), R.k5, R.k6, R.k7, R.k8, R.k9, R.k10, R.k11, R.k12, R.k13, R.k16⟩⟩
        · skip
          have e4 := R.k4 (hD 4 (by kernel_rfl))
          subst e4
          refine op_at rfl (fun K hK => ?_)
          go_simp
          refine hK _ _ ?_
          exact ⟨_, _, _, _, _, _, _, _, _, _, _, _, _, _, _, _, rfl, ⟨R.low, R.fin, R.A, R.d15, R.k0, R.k1, R.k2, R.k3, R.k4, (fun _ => rfl), R.k6, R.k7, R.k8, R.k9, R.k10, R.k11, R.k12, R.k13, R.k16⟩⟩
        · skip
          refine op_at rfl (fun K hK => ?_)
          go_simp
          refine hK _ _ ?_
          exact ⟨_, _, _, _, _, _, _, _, _, _, _, _, _, _, _, _, rfl, ⟨R.low, R.fin, R.A, R.d15, R.k0, R.k1, R.k2, R.k3, R.k4, R.k5, (fun _ => rfl), R.k7, R.k8, R.k9, R.k10, R.k11, R.k12, R.k13, R.k16⟩⟩
        · skip
          have e6 := R.k6 (hD 6 (by kernel_rfl))
          subst e6
          have kb := R.low
          refine op_at rfl (fun K hK => ?_)
          go_simp
          refine (CT.out ka kc W (RK.out W kb) (HTB.out W kb) (HNB.out W kb) (HMB.out W kb)).mono ?_
          rintro e W1 ⟨rfl, k1⟩
          have R := R.kept k1
          clear kb
          go_simp
          refine hK _ _ ?_
          exact ⟨_, _, _, _, _, _, _, _, _, _, _, _, _, _, _, _, rfl, ⟨R.low, R.fin, R.A, R.d15, R.k0, R.k1, R.k2, R.k3, R.k4, R.k5, R.k6, (fun _ => rfl), R.k8, R.k9, R.k10, R.k11, R.k12, R.k13, R.k16⟩⟩
        · skip
          have e5 := R.k5 (hD 5 (by kernel_rfl))
          subst e5
          have e7 := R.k7 (hD 7 (by kernel_rfl))
          subst e7
          refine op_at rfl (fun K hK => ?_)
          go_simp
          refine hK _ _ ?_
          exact ⟨_, _, _, _, _, _, _, _, _, _, _, _, _, _, _, _, rfl, ⟨R.low, R.fin, R.A, R.d15, R.k0, R.k1, R.k2, R.k3, R.k4, R.k5, R.k6, R.k7, (fun _ => rfl), R.k9, R.k10, R.k11, R.k12, R.k13, R.k16⟩⟩
        · skip
          refine op_at rfl (fun K hK => ?_)
          go_simp
          refine hK _ _ ?_
          exact ⟨_, _, _, _, _, _, _, _, _, _, _, _, _, _, _, _, rfl, ⟨R.low, R.fin, R.A, R.d15, R.k0, R.k1, R.k2, R.k3, R.k4, R.k5, R.k6, R.k7, R.k8, (fun _ => rfl), R.k10, R.k11, R.k12, R.k13, R.k16⟩⟩
        · skip
          have e2 := R.k2 (hD 2 (by kernel_rfl))
          subst e2
          have e8 := R.k8 (hD 8 (by kernel_rfl))
          subst e8
          have e9 := R.k9 (hD 9 (by kernel_rfl))
          subst e9
          have kb := R.low
          refine op_at rfl (fun K hK => ?_)
          go_simp
          refine (CL.out W (HTB.out W kb)).mono ?_
          rintro e W1 ⟨rfl, k1⟩
          have R := R.kept k1
          clear kb
          go_simp
          refine hK _ _ ?_
          exact ⟨_, _, _, _, _, _, _, _, _, _, _, _, _, _, _, _, rfl, ⟨R.low, R.fin, R.A, R.d15, R.k0, R.k1, R.k2, R.k3, R.k4, R.k5, R.k6, R.k7, R.k8, R.k9, (fun _ => rfl), R.k11, R.k12, R.k13, R.k16⟩⟩
        · skip
          have e10 := R.k10 (hD 10 (by kernel_rfl))
          subst e10
          refine op_at rfl (fun K hK => ?_)
          go_simp
          refine hK _ _ ?_
          exact ⟨_, _, _, _, _, _, _, _, _, _, _, _, _, _, _, _, rfl, ⟨R.low, R.fin, R.A, R.d15, R.k0, R.k1, R.k2, R.k3, R.k4, R.k5, R.k6, R.k7, R.k8, R.k9, R.k10, (fun _ => rfl), R.k12, R.k13, R.k16⟩⟩
        · skip
          have e11 := R.k11 (hD 11 (by kernel_rfl))
          subst e11
          refine op_at rfl (fun K hK => ?_)
          go_simp
          refine hK _ _ ?_
          exact ⟨_, _, _, _, _, _, _, _, _, _, _, _, _, _, _, _, rfl, ⟨R.low, R.fin, R.A, R.d15, R.k0, R.k1, R.k2, R.k3, R.k4, R.k5, R.k6, R.k7, R.k8, R.k9, R.k10, R.k11, (fun _ => rfl), R.k13, R.k16⟩⟩
        · skip
          have e11 := R.k11 (hD 11 (by kernel_rfl))
          subst e11
          refine op_at rfl (fun K hK => ?_)
          go_simp
          refine hK _ _ ?_
          exact ⟨_, _, _, _, _, _, _, _, _, _, _, _, _, _, _, _, rfl, ⟨R.low, R.fin, R.A, R.d15, R.k0, R.k1, R.k2, R.k3, R.k4, R.k5, R.k6, R.k7, R.k8, R.k9, R.k10, R.k11, R.k12, (fun _ => rfl), R.k16⟩⟩
        · skip
          have n15 : Lb 15 = false := by
            cases q : Lb 15 with
            | false => rfl
            | true => have z := R.d15 q; rw [hL] at z; cases z
          have kb := R.low
          have R := R.kept ((Below.refl W.heap.size W).alloc (Nat.le_refl _) (.cells #[.int .i64 0, .int .i64 0, .int .i64 0, .int .i64 0, .int .i64 0, .int .i64 0] 52))
          refine op_at rfl (fun K hK => ?_)
          go_simp
          refine hK _ _ ?_
          exact ⟨_, _, _, _, _, _, _, _, _, _, _, _, _, _, _, _, rfl, ⟨R.low, R.fin, (fun _ => ⟨W.heap.size, rfl, kb.size, fun _ => Bo.Box.new W _ _, fun q => by have q2 : Lb 15 = true := q; rw [n15] at q2; cases q2⟩), (fun _ => rfl), R.k0, R.k1, R.k2, R.k3, R.k4, R.k5, R.k6, R.k7, R.k8, R.k9, R.k10, R.k11, R.k12, R.k13, R.k16⟩⟩
        · skip
          have e12 := R.k12 (hD 12 (by kernel_rfl))
          subst e12
          have kb := R.low
          obtain ⟨g, eg, hg, b1, b2⟩ := R.A (hD 14 (by kernel_rfl))
          subst eg
          have bx := b1 hL
          have c0 := bx.c 0 (v := .int .i64 0) rfl
          have f0 := bx.fr 0
          have c1 := bx.c 1 (v := .int .i64 0) rfl
          have f1 := bx.fr 1
          have c2 := bx.c 2 (v := .int .i64 0) rfl
          have f2 := bx.fr 2
          have c3 := bx.c 3 (v := .int .i64 0) rfl
          have f3 := bx.fr 3
          have c4 := bx.c 4 (v := .int .i64 0) rfl
          have f4 := bx.fr 4
          have c5 := bx.c 5 (v := .int .i64 0) rfl
          have f5 := bx.fr 5
          have KZ : Below w2.drew.heap.size w2.drew (((((((W).setCell ⟨g, 0, none⟩ (.int .i64 K1)).setCell ⟨g, 1, none⟩ (.int .i64 K2)).setCell ⟨g, 2, none⟩ (.int .i64 U)).setCell ⟨g, 3, none⟩ (.int .i64 R1)).setCell ⟨g, 4, none⟩ (.int .i64 R2)).setCell ⟨g, 5, none⟩ (.int .i64 T)) := ((((((kb).setCell (p := ⟨g, 0, none⟩) hg (.int .i64 K1)).setCell (p := ⟨g, 1, none⟩) hg (.int .i64 K2)).setCell (p := ⟨g, 2, none⟩) hg (.int .i64 U)).setCell (p := ⟨g, 3, none⟩) hg (.int .i64 R1)).setCell (p := ⟨g, 4, none⟩) hg (.int .i64 R2)).setCell (p := ⟨g, 5, none⟩) hg (.int .i64 T)
          have BZ : Bo.Box (((((((W).setCell ⟨g, 0, none⟩ (.int .i64 K1)).setCell ⟨g, 1, none⟩ (.int .i64 K2)).setCell ⟨g, 2, none⟩ (.int .i64 U)).setCell ⟨g, 3, none⟩ (.int .i64 R1)).setCell ⟨g, 4, none⟩ (.int .i64 R2)).setCell ⟨g, 5, none⟩ (.int .i64 T)) g #[.int .i64 K1, .int .i64 K2, .int .i64 U, .int .i64 R1, .int .i64 R2, .int .i64 T] := ((((((bx).put (c' := #[.int .i64 K1, .int .i64 0, .int .i64 0, .int .i64 0, .int .i64 0, .int .i64 0]) 0 (.int .i64 K1) (by simp) rfl).put (c' := #[.int .i64 K1, .int .i64 K2, .int .i64 0, .int .i64 0, .int .i64 0, .int .i64 0]) 1 (.int .i64 K2) (by simp) rfl).put (c' := #[.int .i64 K1, .int .i64 K2, .int .i64 U, .int .i64 0, .int .i64 0, .int .i64 0]) 2 (.int .i64 U) (by simp) rfl).put (c' := #[.int .i64 K1, .int .i64 K2, .int .i64 U, .int .i64 R1, .int .i64 0, .int .i64 0]) 3 (.int .i64 R1) (by simp) rfl).put (c' := #[.int .i64 K1, .int .i64 K2, .int .i64 U, .int .i64 R1, .int .i64 R2, .int .i64 0]) 4 (.int .i64 R2) (by simp) rfl).put (c' := #[.int .i64 K1, .int .i64 K2, .int .i64 U, .int .i64 R1, .int .i64 R2, .int .i64 T]) 5 (.int .i64 T) (by simp) rfl
          refine op_at rfl (fun K hK => ?_)
          go_simp
          refine hK _ _ ?_
          exact ⟨_, _, _, _, _, _, _, _, _, _, _, _, _, _, _, _, rfl, ⟨KZ, R.fin, (fun _ => ⟨g, rfl, hg, (fun q => by cases q), (fun _ => BZ)⟩), (fun _ => hD 14 (by kernel_rfl)), R.k0, R.k1, R.k2, R.k3, R.k4, R.k5, R.k6, R.k7, R.k8, R.k9, R.k10, R.k11, R.k12, R.k13, R.k16⟩⟩
        · skip
          have e13 := R.k13 (hD 13 (by kernel_rfl))
          subst e13
          refine op_at rfl (fun K hK => ?_)
          go_simp
          refine hK _ _ ?_
          exact ⟨_, _, _, _, _, _, _, _, _, _, _, _, _, _, _, _, rfl, ⟨R.low, R.fin, R.A, R.d15, R.k0, R.k1, R.k2, R.k3, R.k4, R.k5, R.k6, R.k7, R.k8, R.k9, R.k10, R.k11, R.k12, R.k13, (fun _ => rfl)⟩⟩
      case refine_2 =>
        intro Lb a' W hI hall
        obtain ⟨u7, u8, u21, u22, u23, u24, u25, u26, u27, u28, u29, u30, u31, u32, u33, u34, rfl, R⟩ := hI
        obtain ⟨g, eg, hg, _, b2⟩ := R.A (hall 14)
        have bs := b2 (hall 15)
        have kb := R.low
        subst eg
        clear R hall b2
        have BNW := hidIt (BN.out.drew.kept kb)
        have BOW := hidIt (BO.out.drew.kept kb)
        have HBW := hidIt (HB.out.drew.trans (kb.mono HB.out.drew.size))
        have oW : Pt.Own W w1.heap.size (.slice ka kn kc) L := Pt.Own.kept (w := w2.drew) OK.out kb
        have n9 := BNW.out.c 9 (v := .string ap) rfl
        have s0 := bs.c 0 (v := .int .i64 K1) rfl
        have s1 := bs.c 1 (v := .int .i64 K2) rfl
        have s2 := bs.c 2 (v := .int .i64 U) rfl
        have s3 := bs.c 3 (v := .int .i64 R1) rfl
        have s4 := bs.c 4 (v := .int .i64 R2) rfl
        have s5 := bs.c 5 (v := .int .i64 T) rfl
        have c0 := BOW.out.c 0 (v := .string ⟨#[]⟩) rfl
        have c1 := BOW.out.c 1 (v := .slice none 0 0) rfl
        have c2 := BOW.out.c 2 (v := .int .i64 0) rfl
        have c3 := BOW.out.c 3 (v := .int .i64 0) rfl
        have c4 := BOW.out.c 4 (v := .int .i64 0) rfl
        have c5 := BOW.out.c 5 (v := .int .i64 0) rfl
        have c6 := BOW.out.c 6 (v := .int .i64 0) rfl
        have c7 := BOW.out.c 7 (v := .int .i64 0) rfl
        have f0 := BOW.out.fr 0
        have f1 := BOW.out.fr 1
        have f2 := BOW.out.fr 2
        have f3 := BOW.out.fr 3
        have f4 := BOW.out.fr 4
        have f5 := BOW.out.fr 5
        have f6 := BOW.out.fr 6
        have f7 := BOW.out.fr 7
        have BZ := hidIt (((((((((BOW.out).put (c' := #[.string ap, .slice none 0 0, .int .i64 0, .int .i64 0, .int .i64 0, .int .i64 0, .int .i64 0, .int .i64 0]) 0 (.string ap) (by simp) rfl).put (c' := #[.string ap, .slice ka kn kc, .int .i64 0, .int .i64 0, .int .i64 0, .int .i64 0, .int .i64 0, .int .i64 0]) 1 (.slice ka kn kc) (by simp) rfl).put (c' := #[.string ap, .slice ka kn kc, .int .i64 K1, .int .i64 0, .int .i64 0, .int .i64 0, .int .i64 0, .int .i64 0]) 2 (.int .i64 K1) (by simp) rfl).put (c' := #[.string ap, .slice ka kn kc, .int .i64 K1, .int .i64 K2, .int .i64 0, .int .i64 0, .int .i64 0, .int .i64 0]) 3 (.int .i64 K2) (by simp) rfl).put (c' := #[.string ap, .slice ka kn kc, .int .i64 K1, .int .i64 K2, .int .i64 U, .int .i64 0, .int .i64 0, .int .i64 0]) 4 (.int .i64 U) (by simp) rfl).put (c' := #[.string ap, .slice ka kn kc, .int .i64 K1, .int .i64 K2, .int .i64 U, .int .i64 R1, .int .i64 0, .int .i64 0]) 5 (.int .i64 R1) (by simp) rfl).put (c' := #[.string ap, .slice ka kn kc, .int .i64 K1, .int .i64 K2, .int .i64 U, .int .i64 R1, .int .i64 R2, .int .i64 0]) 6 (.int .i64 R2) (by simp) rfl).put (c' := #[.string ap, .slice ka kn kc, .int .i64 K1, .int .i64 K2, .int .i64 U, .int .i64 R1, .int .i64 R2, .int .i64 T]) 7 (.int .i64 T) (by simp) rfl)
        have HZ := hidIt (((((((((HBW.out).setCell (p := ⟨w.heap.size + 1, 0, none⟩) hbd (.string ap)).setCell (p := ⟨w.heap.size + 1, 1, none⟩) hbd (.slice ka kn kc)).setCell (p := ⟨w.heap.size + 1, 2, none⟩) hbd (.int .i64 K1)).setCell (p := ⟨w.heap.size + 1, 3, none⟩) hbd (.int .i64 K2)).setCell (p := ⟨w.heap.size + 1, 4, none⟩) hbd (.int .i64 U)).setCell (p := ⟨w.heap.size + 1, 5, none⟩) hbd (.int .i64 R1)).setCell (p := ⟨w.heap.size + 1, 6, none⟩) hbd (.int .i64 R2)).setCell (p := ⟨w.heap.size + 1, 7, none⟩) hbd (.int .i64 T))
        have O1 : Hid (Only (w.heap.size + 1) W (((((((((W).setCell ⟨w.heap.size + 1, 0, none⟩ (.string ap)).setCell ⟨w.heap.size + 1, 1, none⟩ (.slice ka kn kc)).setCell ⟨w.heap.size + 1, 2, none⟩ (.int .i64 K1)).setCell ⟨w.heap.size + 1, 3, none⟩ (.int .i64 K2)).setCell ⟨w.heap.size + 1, 4, none⟩ (.int .i64 U)).setCell ⟨w.heap.size + 1, 5, none⟩ (.int .i64 R1)).setCell ⟨w.heap.size + 1, 6, none⟩ (.int .i64 R2)).setCell ⟨w.heap.size + 1, 7, none⟩ (.int .i64 T))) := hidIt ((((((((((Only.refl (w.heap.size + 1) W)).setCell 0 (.string ap)).setCell 1 (.slice ka kn kc)).setCell 2 (.int .i64 K1)).setCell 3 (.int .i64 K2)).setCell 4 (.int .i64 U)).setCell 5 (.int .i64 R1)).setCell 6 (.int .i64 R2)).setCell 7 (.int .i64 T))
        have OW := hidIt oW
        clear bs kb oW BNW BOW HBW C3c C9c RK HTB HNB HMB CT CL
        go_wp2_with (fail)
        generalize ((((((((W).setCell ⟨w.heap.size + 1, 0, none⟩ (.string ap)).setCell ⟨w.heap.size + 1, 1, none⟩ (.slice ka kn kc)).setCell ⟨w.heap.size + 1, 2, none⟩ (.int .i64 K1)).setCell ⟨w.heap.size + 1, 3, none⟩ (.int .i64 K2)).setCell ⟨w.heap.size + 1, 4, none⟩ (.int .i64 U)).setCell ⟨w.heap.size + 1, 5, none⟩ (.int .i64 R1)).setCell ⟨w.heap.size + 1, 6, none⟩ (.int .i64 R2)).setCell ⟨w.heap.size + 1, 7, none⟩ (.int .i64 T) = wz at BZ HZ O1 ⊢
        clear c0 f0 c1 f1 c2 f2 c3 f3 c4 f4 c5 f5 c6 f6 c7 f7 s0 s1 s2 s3 s4 s5 n9
        have x0 := BZ.out.c 0 (v := .string ap) rfl
        have x1 := BZ.out.c 1 (v := .slice ka kn kc) rfl
        have x2 := BZ.out.c 2 (v := .int .i64 K1) rfl
        have x3 := BZ.out.c 3 (v := .int .i64 K2) rfl
        have x4 := BZ.out.c 4 (v := .int .i64 U) rfl
        have x5 := BZ.out.c 5 (v := .int .i64 R1) rfl
        have x6 := BZ.out.c 6 (v := .int .i64 R2) rfl
        have x7 := BZ.out.c 7 (v := .int .i64 T) rfl
        have hb1 := HL1.out
        have oz : Pt.Own wz w1.heap.size (.slice ka kn kc) L := row_lowD OW.out hb1 O1.out
        have HOZ := hidIt (oz.mono (Nat.le_trans hbd (Nat.le_of_lt hb1)))
        clear oz
        refine bodyPost_ret (v := .tuple #[.agg #[.string ap, .slice ka kn kc, .int .i64 K1, .int .i64 K2, .int .i64 U, .int .i64 R1, .int .i64 R2, .int .i64 T], .bool true]) (by simp [results, Tryz.results11, go_sem, x0, x1, x2, x3, x4, x5, x6, x7]) rfl ?_
        have e1 := HKN.out
        subst e1
        exact DedP.of (a := ka) (c := kc) rfl HOZ.out HZ.out
end Go.Proofs.YtllajhieocploaaGreatDoor.Nd
