/-
  The program's replicaOk.
  NodeOk of the program. (Written by wip/mkNod.py.)
-/
import Derived.Test.YtllajhieocploaaGreatDoorBun4
import Derived.Test.YtllajhieocploaaGreatDoorBun1
import Derived.Test.YtllajhieocploaaGreatDoorBun3
import Derived.Test.YtllajhieocploaaGreatDoorBun5
import Derived.Test.YtllajhieocploaaGreatDoorApxX
namespace Go.Proofs.YtllajhieocploaaGreatDoor.Rp
open Go.ChangeShapes Go.WideShapes Go.ChangeAt Go.RowKit
open Go.Proofs.YtllajhieocploaaGreatDoor.Vv (Sl sv hidIt)
set_option linter.unusedVariables false
set_option maxRecDepth 100000 in
set_option maxHeartbeats 4000000 in
theorem impl_replicaOk (s t : Sl) (r : Rep) (w : World) (hE : RdE w s r.1) (hM : RdM w t r.2) (hs : En.shortR r.1) (h1 : r.1.length ≤ 9223372036854775807) (h2 : r.2.length ≤ 9223372036854775807) :
    Calls Tryz.prog 29 #[.agg #[sv s, sv t]] w fun e w' => e = .returned (.bool (okR r)) ∧ Below w.heap.size w w' := by
  obtain ⟨s0, s1, s2⟩ := s
  obtain ⟨t0, t1, t2⟩ := t
  obtain ⟨e1, r1, _, _, _⟩ := hE
  obtain ⟨e2, r2, _, _, _⟩ := hM
  simp only at e1 r1 e2 r2
  have C1 := hidIt (fun W (k : En.Rd W s0 r.1) => En.impl_BookOk s0 s2 r.1 W k h1 hs)
  have C2 := hidIt (fun W (k : Mm.Rd W t0 r.2) => Mm.impl_MembersOk t0 t2 r.2 W k h2)
  rw [← e1] at C1
  rw [← e2] at C2
  have HOK : Hid (okR r = (Bk.okBk (En.toB r.1) && Mk.okBk (Mm.toB r.2))) := hidIt rfl
  generalize Bk.okBk (En.toB r.1) = k1 at C1 HOK
  generalize Mk.okBk (Mm.toB r.2) = k2 at C2 HOK
  generalize okR r = k at HOK ⊢
  have HB := hidIt ((Below.refl w.heap.size w).alloc (Nat.le_refl _) (.cells #[.slice s0 s1 s2, .slice t0 t1 t2] 37))
  have H1 := hidIt (r1.kept HB.out)
  have H2 := hidIt (r2.kept HB.out)
  have BX := hidIt (Bo.Box.new w #[.slice s0 s1 s2, .slice t0 t1 t2] 37)
  clear r1 r2 e1 e2 hs
  simp only [sv]
  cases k1 with
  | false =>
    have er := HOK.out
    simp only [Bool.false_and] at er
    subst er
    go_enter Tryz.func29, Tryz.ntmps29
    go_wp2_with (fail)
    refine (C1.out _ H1.out).mono ?_
    rintro e w1 ⟨rfl, k⟩
    have HB1 := hidIt (on HB.out k)
    clear k
    go_wp2_with (fail)
    go_ret
    exact ⟨rfl, HB1.out⟩
  | true =>
    have er := HOK.out
    simp only [Bool.true_and] at er
    subst er
    go_enter Tryz.func29, Tryz.ntmps29
    go_wp2_with (fail)
    refine (C1.out _ H1.out).mono ?_
    rintro e w1 ⟨rfl, k1⟩
    have HB1 := hidIt (on HB.out k1)
    have BX1 := hidIt (BX.out.kept k1)
    have c1 := BX1.out.c 1 rfl
    have H3 := hidIt (H2.out.kept k1)
    clear k1
    go_wp2_with (fail)
    refine (C2.out _ H3.out).mono ?_
    rintro e w2 ⟨rfl, k2⟩
    have HB2 := hidIt (on HB1.out k2)
    clear k2
    go_wp2_with (fail)
    go_ret
    exact ⟨rfl, HB2.out⟩
end Go.Proofs.YtllajhieocploaaGreatDoor.Rp
namespace Go.Proofs.YtllajhieocploaaGreatDoor.Nd
open Go.ChangeShapes Go.WideShapes Go.ChangeAt Go.RowKit
open Go.Proofs.YtllajhieocploaaGreatDoor.Vv (Sl sv hidIt)
set_option linter.unusedVariables false
set_option maxRecDepth 100000 in
set_option maxHeartbeats 16000000 in
theorem impl_NodeOk (x : Nw) (e m b g : Sl) (w : World) (h : RdN w x e m b g) (hs : ShortN x) (ht : Sg.Tab w) :
    Calls Tryz.prog 8 #[nv x e m b g] w fun en w' => en = .returned (.bool (okN x)) ∧ Below w.heap.size w w' := by
  have hE := h.e
  have hM := h.m
  obtain ⟨bk, mm, ph, mn, ol, nw, tm, bu, lg, ap⟩ := x
  obtain ⟨e0, e1, e2⟩ := e
  obtain ⟨t0, t1, t2⟩ := m
  obtain ⟨b0, b1, b2⟩ := b
  obtain ⟨g0, g1, g2⟩ := g
  obtain ⟨⟨z1, rE, nE, lE, cE⟩, ⟨z2, rM, nM, lM, cM⟩, ⟨z3, rB, nB, lB, cB⟩, ⟨z4, rG, lG, cG⟩⟩ := h
  simp only at z1 rE nE lE cE z2 rM nM lM cM z3 rB nB lB cB z4 rG lG cG
  obtain ⟨sE, sG, sA⟩ := hs
  simp only at sE sG sA
  simp only at hE hM
  have C1 := hidIt (fun W (k : Rp.RdE W (e0, e1, e2) bk) (k' : Rp.RdM W (t0, t1, t2) mm) => Rp.impl_replicaOk (e0, e1, e2) (t0, t1, t2) (bk, mm) W k k' sE (by show bk.length ≤ _; omega) (by show mm.length ≤ _; omega))
  have C3 : Hid (∀ W, Calls Tryz.prog 30 #[.agg #[.int .i64 ph, .int .i64 mn, .int .i64 ol, .int .i64 nw, .int .i64 tm]] W fun en w' => en = .returned (.bool (Ro.rollOk ph mn ol nw tm)) ∧ Below W.heap.size W w') := hidIt (fun W => (Ro.impl_RollOk ph mn ol nw tm W).mono (fun en w' ⟨a, c⟩ => ⟨a, by rw [c]; exact ((Below.refl _ _).alloc (Nat.le_refl _) _).alloc (by simp) _⟩))
  have C4 := hidIt (fun W (r : Bu.Rd W b0 bu) => Bu.impl_BucketsOk b0 b2 bu W r (by omega))
  have C5 := hidIt (fun W (r : Lg.Rd W g0 lg) (t : Sg.Tab W) => Lg.impl_LogOk g0 g2 lg W r (by omega) t)
  have C6 := hidIt (fun W => impl_hasLabels ap W)
  have HT := hidIt (fun W (k : Below w.heap.size w W) => ht.kept k)
  have HOK : Hid (okN ⟨bk, mm, ph, mn, ol, nw, tm, bu, lg, ap⟩ = (Rp.okR (bk, mm) && (Ro.rollOk ph mn ol nw tm && (Bu.okB bu && (Lg.okL lg && apexB ap))))) := hidIt (by unfold okN Rp.okR; simp only [Bool.and_assoc])
  have HE := hidIt hE
  have HM := hidIt hM
  have RB := hidIt rB
  have RG := hidIt rG
  clear hE hM rE rM rB rG sE sG sA ht
  subst z1 z2 z3 z4
  simp only [sv] at C1
  simp only [nv, nc, sv]
  generalize okN ⟨bk, mm, ph, mn, ol, nw, tm, bu, lg, ap⟩ = r at HOK ⊢
  generalize Rp.okR (bk, mm) = k1 at C1 HOK
  generalize Ro.rollOk ph mn ol nw tm = k3 at C3 HOK
  generalize Bu.okB bu = k4 at C4 HOK
  generalize Lg.okL lg = k5 at C5 HOK
  generalize apexB ap = k6 at C6 HOK
  generalize bk.length = m1 at *
  generalize mm.length = m2 at *
  generalize bu.length = m3 at *
  generalize lg.length = m4 at *
  cases k1 with
  | false =>
    have er : r = false := by rw [HOK.out]; rfl
    subst er
    have BX := hidIt (Bo.Box.new w #[.slice e0 m1 e2, .slice t0 m2 t2, .int .i64 ph, .int .i64 mn, .int .i64 ol, .int .i64 nw, .int .i64 tm, .slice b0 m3 b2, .slice g0 m4 g2, .string ap] 42)
    have HB := hidIt ((Below.refl w.heap.size w).alloc (Nat.le_refl _) (.cells #[.slice e0 m1 e2, .slice t0 m2 t2, .int .i64 ph, .int .i64 mn, .int .i64 ol, .int .i64 nw, .int .i64 tm, .slice b0 m3 b2, .slice g0 m4 g2, .string ap] 42))
    have d0 := BX.out.c 0 (v := .slice e0 m1 e2) rfl
    have d1 := BX.out.c 1 (v := .slice t0 m2 t2) rfl
    go_enter Tryz.func8, Tryz.ntmps8
    go_wp2_with (fail)
    refine (C1.out _ (HE.out.kept HB.out) (HM.out.kept HB.out)).mono ?_
    rintro en w1 ⟨rfl, kk⟩
    replace HB := hidIt (on HB.out kk)
    replace BX := hidIt (BX.out.kept kk)
    clear kk d0 d1
    go_wp2_with (fail)
    go_ret
    exact ⟨rfl, HB.out⟩
  | true =>
    cases k3 with
    | false =>
      have er : r = false := by rw [HOK.out]; rfl
      subst er
      have BX := hidIt (Bo.Box.new w #[.slice e0 m1 e2, .slice t0 m2 t2, .int .i64 ph, .int .i64 mn, .int .i64 ol, .int .i64 nw, .int .i64 tm, .slice b0 m3 b2, .slice g0 m4 g2, .string ap] 42)
      have HB := hidIt ((Below.refl w.heap.size w).alloc (Nat.le_refl _) (.cells #[.slice e0 m1 e2, .slice t0 m2 t2, .int .i64 ph, .int .i64 mn, .int .i64 ol, .int .i64 nw, .int .i64 tm, .slice b0 m3 b2, .slice g0 m4 g2, .string ap] 42))
      have d0 := BX.out.c 0 (v := .slice e0 m1 e2) rfl
      have d1 := BX.out.c 1 (v := .slice t0 m2 t2) rfl
      go_enter Tryz.func8, Tryz.ntmps8
      go_wp2_with (fail)
      refine (C1.out _ (HE.out.kept HB.out) (HM.out.kept HB.out)).mono ?_
      rintro en w1 ⟨rfl, kk⟩
      replace HB := hidIt (on HB.out kk)
      replace BX := hidIt (BX.out.kept kk)
      clear kk d0 d1
      have d2 := BX.out.c 2 (v := .int .i64 ph) rfl
      have d3 := BX.out.c 3 (v := .int .i64 mn) rfl
      have d4 := BX.out.c 4 (v := .int .i64 ol) rfl
      have d5 := BX.out.c 5 (v := .int .i64 nw) rfl
      have d6 := BX.out.c 6 (v := .int .i64 tm) rfl
      go_wp2_with (fail)
      refine (C3.out _).mono ?_
      rintro en w2 ⟨rfl, kk⟩
      replace HB := hidIt (on HB.out kk)
      replace BX := hidIt (BX.out.kept kk)
      clear kk d2 d3 d4 d5 d6
      go_wp2_with (fail)
      go_ret
      exact ⟨rfl, HB.out⟩
    | true =>
      cases k4 with
      | false =>
        have er : r = false := by rw [HOK.out]; rfl
        subst er
        have BX := hidIt (Bo.Box.new w #[.slice e0 m1 e2, .slice t0 m2 t2, .int .i64 ph, .int .i64 mn, .int .i64 ol, .int .i64 nw, .int .i64 tm, .slice b0 m3 b2, .slice g0 m4 g2, .string ap] 42)
        have HB := hidIt ((Below.refl w.heap.size w).alloc (Nat.le_refl _) (.cells #[.slice e0 m1 e2, .slice t0 m2 t2, .int .i64 ph, .int .i64 mn, .int .i64 ol, .int .i64 nw, .int .i64 tm, .slice b0 m3 b2, .slice g0 m4 g2, .string ap] 42))
        have d0 := BX.out.c 0 (v := .slice e0 m1 e2) rfl
        have d1 := BX.out.c 1 (v := .slice t0 m2 t2) rfl
        go_enter Tryz.func8, Tryz.ntmps8
        go_wp2_with (fail)
        refine (C1.out _ (HE.out.kept HB.out) (HM.out.kept HB.out)).mono ?_
        rintro en w1 ⟨rfl, kk⟩
        replace HB := hidIt (on HB.out kk)
        replace BX := hidIt (BX.out.kept kk)
        clear kk d0 d1
        have d2 := BX.out.c 2 (v := .int .i64 ph) rfl
        have d3 := BX.out.c 3 (v := .int .i64 mn) rfl
        have d4 := BX.out.c 4 (v := .int .i64 ol) rfl
        have d5 := BX.out.c 5 (v := .int .i64 nw) rfl
        have d6 := BX.out.c 6 (v := .int .i64 tm) rfl
        go_wp2_with (fail)
        refine (C3.out _).mono ?_
        rintro en w2 ⟨rfl, kk⟩
        replace HB := hidIt (on HB.out kk)
        replace BX := hidIt (BX.out.kept kk)
        clear kk d2 d3 d4 d5 d6
        have d7 := BX.out.c 7 (v := .slice b0 m3 b2) rfl
        go_wp2_with (fail)
        refine (C4.out _ (RB.out.kept HB.out)).mono ?_
        rintro en w3 ⟨rfl, kk⟩
        replace HB := hidIt (on HB.out kk)
        replace BX := hidIt (BX.out.kept kk)
        clear kk d7
        go_wp2_with (fail)
        go_ret
        exact ⟨rfl, HB.out⟩
      | true =>
        cases k5 with
        | false =>
          have er : r = false := by rw [HOK.out]; rfl
          subst er
          have BX := hidIt (Bo.Box.new w #[.slice e0 m1 e2, .slice t0 m2 t2, .int .i64 ph, .int .i64 mn, .int .i64 ol, .int .i64 nw, .int .i64 tm, .slice b0 m3 b2, .slice g0 m4 g2, .string ap] 42)
          have HB := hidIt ((Below.refl w.heap.size w).alloc (Nat.le_refl _) (.cells #[.slice e0 m1 e2, .slice t0 m2 t2, .int .i64 ph, .int .i64 mn, .int .i64 ol, .int .i64 nw, .int .i64 tm, .slice b0 m3 b2, .slice g0 m4 g2, .string ap] 42))
          have d0 := BX.out.c 0 (v := .slice e0 m1 e2) rfl
          have d1 := BX.out.c 1 (v := .slice t0 m2 t2) rfl
          go_enter Tryz.func8, Tryz.ntmps8
          go_wp2_with (fail)
          refine (C1.out _ (HE.out.kept HB.out) (HM.out.kept HB.out)).mono ?_
          rintro en w1 ⟨rfl, kk⟩
          replace HB := hidIt (on HB.out kk)
          replace BX := hidIt (BX.out.kept kk)
          clear kk d0 d1
          have d2 := BX.out.c 2 (v := .int .i64 ph) rfl
          have d3 := BX.out.c 3 (v := .int .i64 mn) rfl
          have d4 := BX.out.c 4 (v := .int .i64 ol) rfl
          have d5 := BX.out.c 5 (v := .int .i64 nw) rfl
          have d6 := BX.out.c 6 (v := .int .i64 tm) rfl
          go_wp2_with (fail)
          refine (C3.out _).mono ?_
          rintro en w2 ⟨rfl, kk⟩
          replace HB := hidIt (on HB.out kk)
          replace BX := hidIt (BX.out.kept kk)
          clear kk d2 d3 d4 d5 d6
          have d7 := BX.out.c 7 (v := .slice b0 m3 b2) rfl
          go_wp2_with (fail)
          refine (C4.out _ (RB.out.kept HB.out)).mono ?_
          rintro en w3 ⟨rfl, kk⟩
          replace HB := hidIt (on HB.out kk)
          replace BX := hidIt (BX.out.kept kk)
          clear kk d7
          have d8 := BX.out.c 8 (v := .slice g0 m4 g2) rfl
          go_wp2_with (fail)
          refine (C5.out _ (RG.out.kept HB.out) (HT.out _ HB.out)).mono ?_
          rintro en w4 ⟨rfl, kk⟩
          replace HB := hidIt (on HB.out kk)
          replace BX := hidIt (BX.out.kept kk)
          clear kk d8
          go_wp2_with (fail)
          go_ret
          exact ⟨rfl, HB.out⟩
        | true =>
          cases k6 with
          | false =>
            have er : r = false := by rw [HOK.out]; rfl
            subst er
            have BX := hidIt (Bo.Box.new w #[.slice e0 m1 e2, .slice t0 m2 t2, .int .i64 ph, .int .i64 mn, .int .i64 ol, .int .i64 nw, .int .i64 tm, .slice b0 m3 b2, .slice g0 m4 g2, .string ap] 42)
            have HB := hidIt ((Below.refl w.heap.size w).alloc (Nat.le_refl _) (.cells #[.slice e0 m1 e2, .slice t0 m2 t2, .int .i64 ph, .int .i64 mn, .int .i64 ol, .int .i64 nw, .int .i64 tm, .slice b0 m3 b2, .slice g0 m4 g2, .string ap] 42))
            have d0 := BX.out.c 0 (v := .slice e0 m1 e2) rfl
            have d1 := BX.out.c 1 (v := .slice t0 m2 t2) rfl
            go_enter Tryz.func8, Tryz.ntmps8
            go_wp2_with (fail)
            refine (C1.out _ (HE.out.kept HB.out) (HM.out.kept HB.out)).mono ?_
            rintro en w1 ⟨rfl, kk⟩
            replace HB := hidIt (on HB.out kk)
            replace BX := hidIt (BX.out.kept kk)
            clear kk d0 d1
            have d2 := BX.out.c 2 (v := .int .i64 ph) rfl
            have d3 := BX.out.c 3 (v := .int .i64 mn) rfl
            have d4 := BX.out.c 4 (v := .int .i64 ol) rfl
            have d5 := BX.out.c 5 (v := .int .i64 nw) rfl
            have d6 := BX.out.c 6 (v := .int .i64 tm) rfl
            go_wp2_with (fail)
            refine (C3.out _).mono ?_
            rintro en w2 ⟨rfl, kk⟩
            replace HB := hidIt (on HB.out kk)
            replace BX := hidIt (BX.out.kept kk)
            clear kk d2 d3 d4 d5 d6
            have d7 := BX.out.c 7 (v := .slice b0 m3 b2) rfl
            go_wp2_with (fail)
            refine (C4.out _ (RB.out.kept HB.out)).mono ?_
            rintro en w3 ⟨rfl, kk⟩
            replace HB := hidIt (on HB.out kk)
            replace BX := hidIt (BX.out.kept kk)
            clear kk d7
            have d8 := BX.out.c 8 (v := .slice g0 m4 g2) rfl
            go_wp2_with (fail)
            refine (C5.out _ (RG.out.kept HB.out) (HT.out _ HB.out)).mono ?_
            rintro en w4 ⟨rfl, kk⟩
            replace HB := hidIt (on HB.out kk)
            replace BX := hidIt (BX.out.kept kk)
            clear kk d8
            have d9 := BX.out.c 9 (v := .string ap) rfl
            go_wp2_with (fail)
            refine (C6.out _).mono ?_
            rintro en w5 ⟨rfl, kk⟩
            replace HB := hidIt (on HB.out kk)
            replace BX := hidIt (BX.out.kept kk)
            clear kk d9
            go_wp2_with (fail)
            go_ret
            exact ⟨rfl, HB.out⟩
          | true =>
            have er : r = true := by rw [HOK.out]; rfl
            subst er
            have BX := hidIt (Bo.Box.new w #[.slice e0 m1 e2, .slice t0 m2 t2, .int .i64 ph, .int .i64 mn, .int .i64 ol, .int .i64 nw, .int .i64 tm, .slice b0 m3 b2, .slice g0 m4 g2, .string ap] 42)
            have HB := hidIt ((Below.refl w.heap.size w).alloc (Nat.le_refl _) (.cells #[.slice e0 m1 e2, .slice t0 m2 t2, .int .i64 ph, .int .i64 mn, .int .i64 ol, .int .i64 nw, .int .i64 tm, .slice b0 m3 b2, .slice g0 m4 g2, .string ap] 42))
            have d0 := BX.out.c 0 (v := .slice e0 m1 e2) rfl
            have d1 := BX.out.c 1 (v := .slice t0 m2 t2) rfl
            go_enter Tryz.func8, Tryz.ntmps8
            go_wp2_with (fail)
            refine (C1.out _ (HE.out.kept HB.out) (HM.out.kept HB.out)).mono ?_
            rintro en w1 ⟨rfl, kk⟩
            replace HB := hidIt (on HB.out kk)
            replace BX := hidIt (BX.out.kept kk)
            clear kk d0 d1
            have d2 := BX.out.c 2 (v := .int .i64 ph) rfl
            have d3 := BX.out.c 3 (v := .int .i64 mn) rfl
            have d4 := BX.out.c 4 (v := .int .i64 ol) rfl
            have d5 := BX.out.c 5 (v := .int .i64 nw) rfl
            have d6 := BX.out.c 6 (v := .int .i64 tm) rfl
            go_wp2_with (fail)
            refine (C3.out _).mono ?_
            rintro en w2 ⟨rfl, kk⟩
            replace HB := hidIt (on HB.out kk)
            replace BX := hidIt (BX.out.kept kk)
            clear kk d2 d3 d4 d5 d6
            have d7 := BX.out.c 7 (v := .slice b0 m3 b2) rfl
            go_wp2_with (fail)
            refine (C4.out _ (RB.out.kept HB.out)).mono ?_
            rintro en w3 ⟨rfl, kk⟩
            replace HB := hidIt (on HB.out kk)
            replace BX := hidIt (BX.out.kept kk)
            clear kk d7
            have d8 := BX.out.c 8 (v := .slice g0 m4 g2) rfl
            go_wp2_with (fail)
            refine (C5.out _ (RG.out.kept HB.out) (HT.out _ HB.out)).mono ?_
            rintro en w4 ⟨rfl, kk⟩
            replace HB := hidIt (on HB.out kk)
            replace BX := hidIt (BX.out.kept kk)
            clear kk d8
            have d9 := BX.out.c 9 (v := .string ap) rfl
            go_wp2_with (fail)
            refine (C6.out _).mono ?_
            rintro en w5 ⟨rfl, kk⟩
            replace HB := hidIt (on HB.out kk)
            replace BX := hidIt (BX.out.kept kk)
            clear kk d9
            go_wp2_with (fail)
            go_ret
            exact ⟨rfl, HB.out⟩
end Go.Proofs.YtllajhieocploaaGreatDoor.Nd
