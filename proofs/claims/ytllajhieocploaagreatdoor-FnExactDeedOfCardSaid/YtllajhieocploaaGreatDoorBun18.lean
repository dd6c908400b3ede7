/-
  A Node that came in. (Written by wip/mkNod.py.)
  NodeOk of the specification. (Written by wip/mkNod.py.)
  A Deed of a Node, in plain words; l17Deed and DeedOf of the specification. (Written by wip/mkDed.py.)
  toNode of the laws: a copy of a Node. (Written by wip/mkNod.py.)
  The program's replicaOk.
-/
import Derived.Test.YtllajhieocploaaGreatDoorBun17
import Derived.Test.YtllajhieocploaaGreatDoorBun4
import Derived.OpenShut
import Derived.Test.YtllajhieocploaaGreatDoorBun9
import Derived.Test.YtllajhieocploaaGreatDoorBun12
import Derived.Test.YtllajhieocploaaGreatDoorBun8
import Derived.Test.YtllajhieocploaaGreatDoorNameT
import Derived.Test.YtllajhieocploaaGreatDoorBun13
import Derived.Test.YtllajhieocploaaGreatDoorBun16
import Derived.Test.YtllajhieocploaaGreatDoorBun14
import Derived.Test.YtllajhieocploaaGreatDoorBun10
namespace Go.Proofs.YtllajhieocploaaGreatDoor.Nd
open Go.ChangeShapes Go.WideShapes Go.ChangeAt Go.RowKit
open Go.Proofs.YtllajhieocploaaGreatDoor.Vv (Sl sv hidIt)
set_option linter.unusedVariables false
/-- A Node that came in: what its lists read as; no text is longer than a text may be. -/
structure In (w : World) (x : Nw) (e m b g : Sl) : Prop where
  rd : RdN w x e m b g
  short : ShortN x
theorem array10 {cs : Array Value} (h : cs.size = 10) : ∃ a b c d e f g i j k, cs = #[a, b, c, d, e, f, g, i, j, k] := by
  obtain ⟨l⟩ := cs
  match l, h with
  | [a, b, c, d, e, f, g, i, j, k], _ => exact ⟨a, b, c, d, e, f, g, i, j, k, rfl⟩
theorem cellsN : Tryz.prog.cellsOf 31 = 10 := by kernel_rfl
theorem cellsR : Tryz.prog.cellsOf 25 = 2 := by kernel_rfl
theorem cellsRo : Tryz.prog.cellsOf 27 = 5 := by kernel_rfl
theorem cellsB : Tryz.prog.cellsOf 28 = 1 := by kernel_rfl
theorem cellsG : Tryz.prog.cellsOf 29 = 1 := by kernel_rfl
theorem cellsT : Tryz.prog.cellsOf 9 = 1 := by kernel_rfl
theorem cellsE : Tryz.prog.cellsOf 22 = 1 := by kernel_rfl
theorem cellsM : Tryz.prog.cellsOf 23 = 1 := by kernel_rfl
theorem cellsI : Tryz.prog.cellsOf 2 = 1 := by kernel_rfl
set_option maxRecDepth 100000 in
theorem open_roll_in {H : Type} {enc : TypeId × Value → H} {w : World} {base : Nat} {spare : Nat → Bool} {held : Bool} {fuel : Nat} {c0 c1 c2 c3 c4 : Value} {y : DataW H × List MemPlace} (hf : DataW.trod enc Tryz.prog w base spare held fuel 27 [c0, c1, c2, c3, c4] = some y) :
    ∃ q0 q1 q2 q3 q4 : Int, c0 = .int .i64 q0 ∧ c1 = .int .i64 q1 ∧ c2 = .int .i64 q2 ∧ c3 = .int .i64 q3 ∧ c4 = .int .i64 q4 := by
  obtain ⟨xs, k, hk, hxy, _, hxl, hf'⟩ := DataW.trod_struct Tryz.underlying27 hf
  match xs, hxl with
  | [y5, y6, y7, y8, y9], _ =>
    have g0 := hf' 0 _ rfl
    have g1 := hf' 1 _ rfl
    have g2 := hf' 2 _ rfl
    have g3 := hf' 3 _ rfl
    have g4 := hf' 4 _ rfl
    simp [cellsI] at g0 g1 g2 g3 g4
    obtain ⟨q0, e0, _, _⟩ := DataW.trod_int Tryz.underlying2 g0
    obtain ⟨q1, e1, _, _⟩ := DataW.trod_int Tryz.underlying2 g1
    obtain ⟨q2, e2, _, _⟩ := DataW.trod_int Tryz.underlying2 g2
    obtain ⟨q3, e3, _, _⟩ := DataW.trod_int Tryz.underlying2 g3
    obtain ⟨q4, e4, _, _⟩ := DataW.trod_int Tryz.underlying2 g4
    simp at e0 e1 e2 e3 e4
    exact ⟨q0, q1, q2, q3, q4, e0, e1, e2, e3, e4⟩
set_option maxRecDepth 100000 in
theorem open_node_in {H : Type} {enc : TypeId × Value → H} {w : World} {base : Nat} {spare : Nat → Bool} {held : Bool} {fuel : Nat} {c0 c1 c2 c3 c4 c5 c6 c7 c8 c9 : Value} {y : DataW H × List MemPlace} (hf : DataW.trod enc Tryz.prog w base spare held fuel 31 [c0, c1, c2, c3, c4, c5, c6, c7, c8, c9] = some y) :
    ∃ (x : Nw) (e m b g : Sl), (.agg #[c0, c1, c2, c3, c4, c5, c6, c7, c8, c9] : Value) = nv x e m b g ∧ In w x e m b g := by
  obtain ⟨xs, k, hk, hxy, _, hxl, hf'⟩ := DataW.trod_struct Tryz.underlying31 hf
  match xs, hxl with
  | [y5, y6, y7, y8, y9], _ =>
    have g0 := hf' 0 _ rfl
    have g1 := hf' 1 _ rfl
    have g2 := hf' 2 _ rfl
    have g3 := hf' 3 _ rfl
    have g4 := hf' 4 _ rfl
    simp [cellsR, cellsRo, cellsB, cellsG, cellsT] at g0 g1 g2 g3 g4
    obtain ⟨y0, y1, n, _, _, r0, r1⟩ := trod_struct2 Tryz.underlying25 g0
    simp [cellsE, cellsM] at r0 r1
    obtain ⟨a0, k0, L0, e0, I0⟩ := En.open_cells Tryz.underlying22 Tryz.underlying138 (by kernel_rfl) rfl rfl rfl rfl rfl (by kernel_rfl) (by kernel_rfl) (by kernel_rfl) (by kernel_rfl) (by kernel_rfl) Tryz.underlying9 Tryz.underlying9 Tryz.underlying2 Tryz.underlying2 Tryz.underlying4 r0
    obtain ⟨a1, k1, L1, e1, I1⟩ := Mm.open_cells Tryz.underlying23 Tryz.underlying145 (by kernel_rfl) rfl rfl rfl (by kernel_rfl) (by kernel_rfl) (by kernel_rfl) Tryz.underlying2 Tryz.underlying2 Tryz.underlying2 r1
    obtain ⟨q0, q1, q2, q3, q4, rfl, rfl, rfl, rfl, rfl⟩ := open_roll_in g1
    obtain ⟨a2, k2, L2, e2, I2⟩ := Bu.open_cells Tryz.underlying28 Tryz.underlying109 (by kernel_rfl) rfl rfl rfl (by kernel_rfl) (by kernel_rfl) (by kernel_rfl) Tryz.underlying2 Tryz.underlying2 Tryz.underlying2 g2
    obtain ⟨a3, k3, L3, e3, I3⟩ := Lg.open_lines_in g3
    obtain ⟨s, e4, _, hs⟩ := DataW.trod_string Tryz.underlying9 g4
    have e4' : c9 = .string s := by simpa using e4
    subst e0 e1 e2 e3 e4'
    exact ⟨⟨L0, L1, q0, q1, q2, q3, q4, L2, L3, s⟩, (a0, L0.length, k0), (a1, L1.length, k1), (a2, L2.length, k2), (a3, L3.length, k3), rfl, ⟨⟨rfl, I0.rd, I0.na, I0.le, I0.cap⟩, ⟨rfl, I1.rd, I1.na, I1.le, I1.cap⟩, ⟨rfl, I2.rd, I2.na, I2.le, I2.cap⟩, ⟨rfl, I3.rd, I3.le, I3.cap⟩⟩, ⟨I0.short, I3.short, hs⟩⟩
set_option maxRecDepth 100000 in
theorem open_node {H : Type} {enc : TypeId × Value → H} {w : World} {r : Reach} {b0 base : Nat} {spare : Nat → Bool} {held : Bool} {v : Value} {d : DataW H} {p : List MemPlace} (hv : Value.okWide Tryz.prog w r b0 31 v) (h : DataW.Trod enc Tryz.prog w base spare held 31 v d p) :
    ∃ (x : Nw) (e m b g : Sl), v = nv x e m b g ∧ In w x e m b g := by
  obtain ⟨cs, rfl, hsz⟩ := okWide_struct Tryz.underlying31 hv
  obtain ⟨c0, c1, c2, c3, c4, c5, c6, c7, c8, c9, rfl⟩ := array10 (hsz.trans cellsN)
  obtain ⟨fuel, hf⟩ := h
  exact open_node_in (by simpa [Value.cells] using hf)
end Go.Proofs.YtllajhieocploaaGreatDoor.Nd
namespace Go.Proofs.YtllajhieocploaaGreatDoor.Nd
open Go.ChangeShapes Go.WideShapes Go.ChangeAt Go.RowKit
open Go.Proofs.YtllajhieocploaaGreatDoor.Vv (Sl sv hidIt)
set_option linter.unusedVariables false
set_option maxRecDepth 100000 in
set_option maxHeartbeats 16000000 in
theorem spec_NodeOk (x : Nw) (e m b g : Sl) (w : World) (h : RdN w x e m b g) (hs : ShortN x) :
    Calls Tryz.prog 6 #[nv x e m b g] w fun en w' => en = .returned (.bool (okN x)) ∧ Below w.heap.size w w' := by
  obtain ⟨bk, mm, ph, mn, ol, nw, tm, bu, lg, ap⟩ := x
  obtain ⟨e0, e1, e2⟩ := e
  obtain ⟨t0, t1, t2⟩ := m
  obtain ⟨b0, b1, b2⟩ := b
  obtain ⟨g0, g1, g2⟩ := g
  obtain ⟨⟨z1, rE, nE, lE, cE⟩, ⟨z2, rM, nM, lM, cM⟩, ⟨z3, rB, nB, lB, cB⟩, ⟨z4, rG, lG, cG⟩⟩ := h
  simp only at z1 rE nE lE cE z2 rM nM lM cM z3 rB nB lB cB z4 rG lG cG
  obtain ⟨sE, sG, sA⟩ := hs
  simp only at sE sG sA
  have C1 := hidIt (fun W (r : En.Rd W e0 bk) => En.spec_BookOk e0 e2 bk W r (by omega) sE)
  have C2 := hidIt (fun W (r : Mm.Rd W t0 mm) => Mm.spec_MembersOk t0 t2 mm W r (by omega))
  have C3 : Hid (∀ W, Calls Tryz.prog 21 #[.agg #[.int .i64 ph, .int .i64 mn, .int .i64 ol, .int .i64 nw, .int .i64 tm]] W fun en w' => en = .returned (.bool (Ro.rollOk ph mn ol nw tm)) ∧ Below W.heap.size W w') := hidIt (fun W => (Ro.spec_RollOk ph mn ol nw tm W).mono (fun en w' ⟨a, c⟩ => ⟨a, by rw [c]; exact (Below.refl _ _).alloc (Nat.le_refl _) _⟩))
  have C4 := hidIt (fun W (r : Bu.Rd W b0 bu) => Bu.spec_BucketsOk b0 b2 bu W r (by omega))
  have C5 := hidIt (fun W (r : Lg.Rd W g0 lg) => Lg.spec_LogOk g0 g2 lg W r)
  have C6 := hidIt (fun W => spec_l17Apex ap W)
  have HOK : Hid (okN ⟨bk, mm, ph, mn, ol, nw, tm, bu, lg, ap⟩ = (Bk.okBk (En.toB bk) && (Mk.okBk (Mm.toB mm) && (Ro.rollOk ph mn ol nw tm && (Bu.okB bu && (Lg.okL lg && apexB ap)))))) := hidIt rfl
  have RE := hidIt rE
  have RM := hidIt rM
  have RB := hidIt rB
  have RG := hidIt rG
  clear rE rM rB rG sE sG sA
  subst z1 z2 z3 z4
  simp only [nv, nc, sv]
  generalize okN ⟨bk, mm, ph, mn, ol, nw, tm, bu, lg, ap⟩ = r at HOK ⊢
  generalize Bk.okBk (En.toB bk) = k1 at C1 HOK
  generalize Mk.okBk (Mm.toB mm) = k2 at C2 HOK
  generalize Ro.rollOk ph mn ol nw tm = k3 at C3 HOK
  generalize Bu.okB bu = k4 at C4 HOK
  generalize Lg.okL lg = k5 at C5 HOK
  generalize apexB ap = k6 at C6 HOK
  generalize bk.length = m1 at *
  generalize mm.length = m2 at *
  generalize bu.length = m3 at *
  generalize lg.length = m4 at *
  cases k1 with
  | false =>
    have er : r = false := by rw [HOK.out]; rfl
    subst er
    have BX := hidIt (Bo.Box.new w #[.slice e0 m1 e2, .slice t0 m2 t2, .int .i64 ph, .int .i64 mn, .int .i64 ol, .int .i64 nw, .int .i64 tm, .slice b0 m3 b2, .slice g0 m4 g2, .string ap] 42)
    have HB := hidIt ((Below.refl w.heap.size w).alloc (Nat.le_refl _) (.cells #[.slice e0 m1 e2, .slice t0 m2 t2, .int .i64 ph, .int .i64 mn, .int .i64 ol, .int .i64 nw, .int .i64 tm, .slice b0 m3 b2, .slice g0 m4 g2, .string ap] 42))
    have d0 := BX.out.c 0 (v := .slice e0 m1 e2) rfl
    go_enter Tryz.func6, Tryz.ntmps6
    go_wp2_with (fail)
    refine (C1.out _ (RE.out.kept HB.out)).mono ?_
    rintro en w1 ⟨rfl, kk⟩
    replace HB := hidIt (on HB.out kk)
    replace BX := hidIt (BX.out.kept kk)
    clear kk d0
    go_wp2_with (fail)
    go_ret
    exact ⟨rfl, HB.out⟩
  | true =>
    cases k2 with
    | false =>
      have er : r = false := by rw [HOK.out]; rfl
      subst er
      have BX := hidIt (Bo.Box.new w #[.slice e0 m1 e2, .slice t0 m2 t2, .int .i64 ph, .int .i64 mn, .int .i64 ol, .int .i64 nw, .int .i64 tm, .slice b0 m3 b2, .slice g0 m4 g2, .string ap] 42)
      have HB := hidIt ((Below.refl w.heap.size w).alloc (Nat.le_refl _) (.cells #[.slice e0 m1 e2, .slice t0 m2 t2, .int .i64 ph, .int .i64 mn, .int .i64 ol, .int .i64 nw, .int .i64 tm, .slice b0 m3 b2, .slice g0 m4 g2, .string ap] 42))
      have d0 := BX.out.c 0 (v := .slice e0 m1 e2) rfl
      go_enter Tryz.func6, Tryz.ntmps6
      go_wp2_with (fail)
      refine (C1.out _ (RE.out.kept HB.out)).mono ?_
      rintro en w1 ⟨rfl, kk⟩
      replace HB := hidIt (on HB.out kk)
      replace BX := hidIt (BX.out.kept kk)
      clear kk d0
      have d1 := BX.out.c 1 (v := .slice t0 m2 t2) rfl
      go_wp2_with (fail)
      refine (C2.out _ (RM.out.kept HB.out)).mono ?_
      rintro en w2 ⟨rfl, kk⟩
      replace HB := hidIt (on HB.out kk)
      replace BX := hidIt (BX.out.kept kk)
      clear kk d1
      go_wp2_with (fail)
      go_ret
      exact ⟨rfl, HB.out⟩
    | true =>
      cases k3 with
      | false =>
        have er : r = false := by rw [HOK.out]; rfl
        subst er
        have BX := hidIt (Bo.Box.new w #[.slice e0 m1 e2, .slice t0 m2 t2, .int .i64 ph, .int .i64 mn, .int .i64 ol, .int .i64 nw, .int .i64 tm, .slice b0 m3 b2, .slice g0 m4 g2, .string ap] 42)
        have HB := hidIt ((Below.refl w.heap.size w).alloc (Nat.le_refl _) (.cells #[.slice e0 m1 e2, .slice t0 m2 t2, .int .i64 ph, .int .i64 mn, .int .i64 ol, .int .i64 nw, .int .i64 tm, .slice b0 m3 b2, .slice g0 m4 g2, .string ap] 42))
        have d0 := BX.out.c 0 (v := .slice e0 m1 e2) rfl
        go_enter Tryz.func6, Tryz.ntmps6
        go_wp2_with (fail)
        refine (C1.out _ (RE.out.kept HB.out)).mono ?_
        rintro en w1 ⟨rfl, kk⟩
        replace HB := hidIt (on HB.out kk)
        replace BX := hidIt (BX.out.kept kk)
        clear kk d0
        have d1 := BX.out.c 1 (v := .slice t0 m2 t2) rfl
        go_wp2_with (fail)
        refine (C2.out _ (RM.out.kept HB.out)).mono ?_
        rintro en w2 ⟨rfl, kk⟩
        replace HB := hidIt (on HB.out kk)
        replace BX := hidIt (BX.out.kept kk)
        clear kk d1
        have d2 := BX.out.c 2 (v := .int .i64 ph) rfl
        have d3 := BX.out.c 3 (v := .int .i64 mn) rfl
        have d4 := BX.out.c 4 (v := .int .i64 ol) rfl
        have d5 := BX.out.c 5 (v := .int .i64 nw) rfl
        have d6 := BX.out.c 6 (v := .int .i64 tm) rfl
        go_wp2_with (fail)
        refine (C3.out _).mono ?_
        rintro en w3 ⟨rfl, kk⟩
        replace HB := hidIt (on HB.out kk)
        replace BX := hidIt (BX.out.kept kk)
        clear kk d2 d3 d4 d5 d6
        go_wp2_with (fail)
        go_ret
        exact ⟨rfl, HB.out⟩
      | true =>
        cases k4 with
        | false =>
          have er : r = false := by rw [HOK.out]; rfl
          subst er
          have BX := hidIt (Bo.Box.new w #[.slice e0 m1 e2, .slice t0 m2 t2, .int .i64 ph, .int .i64 mn, .int .i64 ol, .int .i64 nw, .int .i64 tm, .slice b0 m3 b2, .slice g0 m4 g2, .string ap] 42)
          have HB := hidIt ((Below.refl w.heap.size w).alloc (Nat.le_refl _) (.cells #[.slice e0 m1 e2, .slice t0 m2 t2, .int .i64 ph, .int .i64 mn, .int .i64 ol, .int .i64 nw, .int .i64 tm, .slice b0 m3 b2, .slice g0 m4 g2, .string ap] 42))
          have d0 := BX.out.c 0 (v := .slice e0 m1 e2) rfl
          go_enter Tryz.func6, Tryz.ntmps6
          go_wp2_with (fail)
          refine (C1.out _ (RE.out.kept HB.out)).mono ?_
          rintro en w1 ⟨rfl, kk⟩
          replace HB := hidIt (on HB.out kk)
          replace BX := hidIt (BX.out.kept kk)
          clear kk d0
          have d1 := BX.out.c 1 (v := .slice t0 m2 t2) rfl
          go_wp2_with (fail)
          refine (C2.out _ (RM.out.kept HB.out)).mono ?_
          rintro en w2 ⟨rfl, kk⟩
          replace HB := hidIt (on HB.out kk)
          replace BX := hidIt (BX.out.kept kk)
          clear kk d1
          have d2 := BX.out.c 2 (v := .int .i64 ph) rfl
          have d3 := BX.out.c 3 (v := .int .i64 mn) rfl
          have d4 := BX.out.c 4 (v := .int .i64 ol) rfl
          have d5 := BX.out.c 5 (v := .int .i64 nw) rfl
          have d6 := BX.out.c 6 (v := .int .i64 tm) rfl
          go_wp2_with (fail)
          refine (C3.out _).mono ?_
          rintro en w3 ⟨rfl, kk⟩
          replace HB := hidIt (on HB.out kk)
          replace BX := hidIt (BX.out.kept kk)
          clear kk d2 d3 d4 d5 d6
          have d7 := BX.out.c 7 (v := .slice b0 m3 b2) rfl
          go_wp2_with (fail)
          refine (C4.out _ (RB.out.kept HB.out)).mono ?_
          rintro en w4 ⟨rfl, kk⟩
          replace HB := hidIt (on HB.out kk)
          replace BX := hidIt (BX.out.kept kk)
          clear kk d7
          go_wp2_with (fail)
          go_ret
          exact ⟨rfl, HB.out⟩
        | true =>
          cases k5 with
          | false =>
            have er : r = false := by rw [HOK.out]; rfl
            subst er
            have BX := hidIt (Bo.Box.new w #[.slice e0 m1 e2, .slice t0 m2 t2, .int .i64 ph, .int .i64 mn, .int .i64 ol, .int .i64 nw, .int .i64 tm, .slice b0 m3 b2, .slice g0 m4 g2, .string ap] 42)
            have HB := hidIt ((Below.refl w.heap.size w).alloc (Nat.le_refl _) (.cells #[.slice e0 m1 e2, .slice t0 m2 t2, .int .i64 ph, .int .i64 mn, .int .i64 ol, .int .i64 nw, .int .i64 tm, .slice b0 m3 b2, .slice g0 m4 g2, .string ap] 42))
            have d0 := BX.out.c 0 (v := .slice e0 m1 e2) rfl
            go_enter Tryz.func6, Tryz.ntmps6
            go_wp2_with (fail)
            refine (C1.out _ (RE.out.kept HB.out)).mono ?_
            rintro en w1 ⟨rfl, kk⟩
            replace HB := hidIt (on HB.out kk)
            replace BX := hidIt (BX.out.kept kk)
            clear kk d0
            have d1 := BX.out.c 1 (v := .slice t0 m2 t2) rfl
            go_wp2_with (fail)
            refine (C2.out _ (RM.out.kept HB.out)).mono ?_
            rintro en w2 ⟨rfl, kk⟩
            replace HB := hidIt (on HB.out kk)
            replace BX := hidIt (BX.out.kept kk)
            clear kk d1
            have d2 := BX.out.c 2 (v := .int .i64 ph) rfl
            have d3 := BX.out.c 3 (v := .int .i64 mn) rfl
            have d4 := BX.out.c 4 (v := .int .i64 ol) rfl
            have d5 := BX.out.c 5 (v := .int .i64 nw) rfl
            have d6 := BX.out.c 6 (v := .int .i64 tm) rfl
            go_wp2_with (fail)
            refine (C3.out _).mono ?_
            rintro en w3 ⟨rfl, kk⟩
            replace HB := hidIt (on HB.out kk)
            replace BX := hidIt (BX.out.kept kk)
            clear kk d2 d3 d4 d5 d6
            have d7 := BX.out.c 7 (v := .slice b0 m3 b2) rfl
            go_wp2_with (fail)
            refine (C4.out _ (RB.out.kept HB.out)).mono ?_
            rintro en w4 ⟨rfl, kk⟩
            replace HB := hidIt (on HB.out kk)
            replace BX := hidIt (BX.out.kept kk)
            clear kk d7
            have d8 := BX.out.c 8 (v := .slice g0 m4 g2) rfl
            go_wp2_with (fail)
            refine (C5.out _ (RG.out.kept HB.out)).mono ?_
            rintro en w5 ⟨rfl, kk⟩
            replace HB := hidIt (on HB.out kk)
            replace BX := hidIt (BX.out.kept kk)
            clear kk d8
            go_wp2_with (fail)
            go_ret
            exact ⟨rfl, HB.out⟩
          | true =>
            cases k6 with
            | false =>
              have er : r = false := by rw [HOK.out]; rfl
              subst er
              have BX := hidIt (Bo.Box.new w #[.slice e0 m1 e2, .slice t0 m2 t2, .int .i64 ph, .int .i64 mn, .int .i64 ol, .int .i64 nw, .int .i64 tm, .slice b0 m3 b2, .slice g0 m4 g2, .string ap] 42)
              have HB := hidIt ((Below.refl w.heap.size w).alloc (Nat.le_refl _) (.cells #[.slice e0 m1 e2, .slice t0 m2 t2, .int .i64 ph, .int .i64 mn, .int .i64 ol, .int .i64 nw, .int .i64 tm, .slice b0 m3 b2, .slice g0 m4 g2, .string ap] 42))
              have d0 := BX.out.c 0 (v := .slice e0 m1 e2) rfl
              go_enter Tryz.func6, Tryz.ntmps6
              go_wp2_with (fail)
              refine (C1.out _ (RE.out.kept HB.out)).mono ?_
              rintro en w1 ⟨rfl, kk⟩
              replace HB := hidIt (on HB.out kk)
              replace BX := hidIt (BX.out.kept kk)
              clear kk d0
              have d1 := BX.out.c 1 (v := .slice t0 m2 t2) rfl
              go_wp2_with (fail)
              refine (C2.out _ (RM.out.kept HB.out)).mono ?_
              rintro en w2 ⟨rfl, kk⟩
              replace HB := hidIt (on HB.out kk)
              replace BX := hidIt (BX.out.kept kk)
              clear kk d1
              have d2 := BX.out.c 2 (v := .int .i64 ph) rfl
              have d3 := BX.out.c 3 (v := .int .i64 mn) rfl
              have d4 := BX.out.c 4 (v := .int .i64 ol) rfl
              have d5 := BX.out.c 5 (v := .int .i64 nw) rfl
              have d6 := BX.out.c 6 (v := .int .i64 tm) rfl
              go_wp2_with (fail)
              refine (C3.out _).mono ?_
              rintro en w3 ⟨rfl, kk⟩
              replace HB := hidIt (on HB.out kk)
              replace BX := hidIt (BX.out.kept kk)
              clear kk d2 d3 d4 d5 d6
              have d7 := BX.out.c 7 (v := .slice b0 m3 b2) rfl
              go_wp2_with (fail)
              refine (C4.out _ (RB.out.kept HB.out)).mono ?_
              rintro en w4 ⟨rfl, kk⟩
              replace HB := hidIt (on HB.out kk)
              replace BX := hidIt (BX.out.kept kk)
              clear kk d7
              have d8 := BX.out.c 8 (v := .slice g0 m4 g2) rfl
              go_wp2_with (fail)
              refine (C5.out _ (RG.out.kept HB.out)).mono ?_
              rintro en w5 ⟨rfl, kk⟩
              replace HB := hidIt (on HB.out kk)
              replace BX := hidIt (BX.out.kept kk)
              clear kk d8
              have d9 := BX.out.c 9 (v := .string ap) rfl
              go_wp2_with (fail)
              refine (C6.out _).mono ?_
              rintro en w6 ⟨rfl, kk⟩
              replace HB := hidIt (on HB.out kk)
              replace BX := hidIt (BX.out.kept kk)
              clear kk d9
              go_wp2_with (fail)
              go_ret
              exact ⟨rfl, HB.out⟩
            | true =>
              have er : r = true := by rw [HOK.out]; rfl
              subst er
              have BX := hidIt (Bo.Box.new w #[.slice e0 m1 e2, .slice t0 m2 t2, .int .i64 ph, .int .i64 mn, .int .i64 ol, .int .i64 nw, .int .i64 tm, .slice b0 m3 b2, .slice g0 m4 g2, .string ap] 42)
              have HB := hidIt ((Below.refl w.heap.size w).alloc (Nat.le_refl _) (.cells #[.slice e0 m1 e2, .slice t0 m2 t2, .int .i64 ph, .int .i64 mn, .int .i64 ol, .int .i64 nw, .int .i64 tm, .slice b0 m3 b2, .slice g0 m4 g2, .string ap] 42))
              have d0 := BX.out.c 0 (v := .slice e0 m1 e2) rfl
              go_enter Tryz.func6, Tryz.ntmps6
              go_wp2_with (fail)
              refine (C1.out _ (RE.out.kept HB.out)).mono ?_
              rintro en w1 ⟨rfl, kk⟩
              replace HB := hidIt (on HB.out kk)
              replace BX := hidIt (BX.out.kept kk)
              clear kk d0
              have d1 := BX.out.c 1 (v := .slice t0 m2 t2) rfl
              go_wp2_with (fail)
              refine (C2.out _ (RM.out.kept HB.out)).mono ?_
              rintro en w2 ⟨rfl, kk⟩
              replace HB := hidIt (on HB.out kk)
              replace BX := hidIt (BX.out.kept kk)
              clear kk d1
              have d2 := BX.out.c 2 (v := .int .i64 ph) rfl
              have d3 := BX.out.c 3 (v := .int .i64 mn) rfl
              have d4 := BX.out.c 4 (v := .int .i64 ol) rfl
              have d5 := BX.out.c 5 (v := .int .i64 nw) rfl
              have d6 := BX.out.c 6 (v := .int .i64 tm) rfl
              go_wp2_with (fail)
              refine (C3.out _).mono ?_
              rintro en w3 ⟨rfl, kk⟩
              replace HB := hidIt (on HB.out kk)
              replace BX := hidIt (BX.out.kept kk)
              clear kk d2 d3 d4 d5 d6
              have d7 := BX.out.c 7 (v := .slice b0 m3 b2) rfl
              go_wp2_with (fail)
              refine (C4.out _ (RB.out.kept HB.out)).mono ?_
              rintro en w4 ⟨rfl, kk⟩
              replace HB := hidIt (on HB.out kk)
              replace BX := hidIt (BX.out.kept kk)
              clear kk d7
              have d8 := BX.out.c 8 (v := .slice g0 m4 g2) rfl
              go_wp2_with (fail)
              refine (C5.out _ (RG.out.kept HB.out)).mono ?_
              rintro en w5 ⟨rfl, kk⟩
              replace HB := hidIt (on HB.out kk)
              replace BX := hidIt (BX.out.kept kk)
              clear kk d8
              have d9 := BX.out.c 9 (v := .string ap) rfl
              go_wp2_with (fail)
              refine (C6.out _).mono ?_
              rintro en w6 ⟨rfl, kk⟩
              replace HB := hidIt (on HB.out kk)
              replace BX := hidIt (BX.out.kept kk)
              clear kk d9
              go_wp2_with (fail)
              go_ret
              exact ⟨rfl, HB.out⟩
end Go.Proofs.YtllajhieocploaaGreatDoor.Nd
namespace Go.Proofs.YtllajhieocploaaGreatDoor.Nd
open Go.ChangeShapes Go.WideShapes Go.ChangeAt Go.RowKit
open Go.Proofs.YtllajhieocploaaGreatDoor.Vv (Sl sv hidIt)
open Go.Proofs.YtllajhieocploaaGreatDoor.Rg (upd waits wp_region_inv op_at)
set_option linter.unusedVariables false
open Cv Cu Sg in
/-- The keys that a Node's Roll serves are keys. -/
theorem okP_key (x : Int) : Dd.okP (Ro.keyI x) = true := by
  unfold Dd.okP Ro.keyI
  rw [okI_cast]
  exact ns_ok' ok_base _
theorem keys_ser {p m o n a : Int} (h : Ro.rollOk p m o n a = true) : Dd.keysB (Ro.serR p m o n a) = true := by
  rw [Ro.serR, Ro.secR, if_neg (by rw [h]; decide)]
  by_cases h1 : p = 1
  · rw [if_pos h1]
    unfold Dd.keysB
    simp [okP_key]
  · rw [if_neg h1]
    unfold Dd.keysB
    simp [okP_key]
abbrev keysN (x : Nw) : List Pt.Ln := Ro.serR x.ph x.mn x.ol x.nw x.tm
/-- The text that is sealed of a Node's Deed. -/
def deedT (x : Nw) : ByteArray := x.apex ++ ⟨#[32]⟩ ++ Dd.ktx (keysN x)
def okD (x : Nw) (u : Int) : Bool := okN x && Ro.timB u
def kD (x : Nw) (u : Int) : List Pt.Ln := if okD x u = true then keysN x else []
def zD (x : Nw) (u : Int) : ByteArray := if okD x u = true then x.apex else ⟨#[]⟩
def qD (x : Nw) (u : Int) : Int × Int × Int × Int × Int × Int := if okD x u = true then (Dd.sealR x.mn (deedT x) u).1 else (0, 0, 0, 0, 0, 0)
theorem kD_len (x : Nw) (u : Int) : (kD x u).length ≤ 4 := by
  unfold kD
  split
  · rw [Ro.ser_length]
    have := Ro.sec_length x.ph x.mn x.ol x.nw x.tm
    omega
  · simp
/-- What DeedOf answers. -/
def DedP (w : World) (L : List Pt.Ln) (z : ByteArray) (q : Int × Int × Int × Int × Int × Int) (k : Bool) (en : Ending) (w' : World) : Prop := ∃ a c, en = .returned (.tuple #[Dd.dv z (.slice a L.length c) (q).1 (q).2.1 (q).2.2.1 (q).2.2.2.1 (q).2.2.2.2.1 (q).2.2.2.2.2, .bool k]) ∧ Pt.Own w' w.heap.size (.slice a L.length c) L ∧ Below w.heap.size w w'
theorem DedP.of {w w' : World} {L : List Pt.Ln} {z : ByteArray} {q : Int × Int × Int × Int × Int × Int} {k : Bool} {en : Ending} {a : Option Addr} {c : Nat} (h : en = .returned (.tuple #[Dd.dv z (.slice a L.length c) (q).1 (q).2.1 (q).2.2.1 (q).2.2.2.1 (q).2.2.2.2.1 (q).2.2.2.2.2, .bool k])) (o : Pt.Own w' w.heap.size (.slice a L.length c) L) (b : Below w.heap.size w w') : DedP w L z q k en w' := ⟨a, c, h, o, b⟩
theorem DedP.out {w w' : World} {L : List Pt.Ln} {z : ByteArray} {q : Int × Int × Int × Int × Int × Int} {k : Bool} {en : Ending} (h : DedP w L z q k en w') : ∃ a c, en = .returned (.tuple #[Dd.dv z (.slice a L.length c) (q).1 (q).2.1 (q).2.2.1 (q).2.2.2.1 (q).2.2.2.2.1 (q).2.2.2.2.2, .bool k]) ∧ Pt.Own w' w.heap.size (.slice a L.length c) L ∧ Below w.heap.size w w' := h
theorem own_nil (w : World) (b : Nat) : Pt.Own w b (.slice none ([] : List Pt.Ln).length 0) [] := ⟨rfl, .inl ⟨rfl, rfl⟩⟩
theorem ded_no {x : Nw} {u : Int} (h : okD x u = false) : kD x u = [] ∧ zD x u = ⟨#[]⟩ ∧ qD x u = (0, 0, 0, 0, 0, 0) := by
  unfold kD zD qD
  rw [h]
  exact ⟨rfl, rfl, rfl⟩
theorem ded_yes {x : Nw} {u : Int} (h : okD x u = true) : kD x u = keysN x ∧ zD x u = x.apex ∧ qD x u = (Dd.sealR x.mn (deedT x) u).1 := by
  unfold kD zD qD
  rw [h]
  exact ⟨rfl, rfl, rfl⟩
/-- What a right Node and a time give: numbers, a short text. -/
theorem okD_nat {x : Nw} {u : Int} (h : okD x u = true) : Ro.rollOk x.ph x.mn x.ol x.nw x.tm = true ∧ x.apex.size ≤ 60 ∧ ∃ n v : Nat, x.mn = n ∧ u = v ∧ n < 2549 ∧ v ≤ 1000000 ∧ Ro.secB n = true ∧ Ro.timB v = true := by
  unfold okD okN at h
  simp only [Bool.and_eq_true] at h
  obtain ⟨⟨_, _, hr, _, _, ha⟩, ht⟩ := h
  obtain ⟨hm, _⟩ := Ro.roll_secs hr
  obtain ⟨n, en, h1, h2⟩ := Ro.sec_nat hm
  have ht' := ht
  unfold Ro.timB Ro.inB at ht'
  simp only [Bool.and_eq_true, decide_eq_true_eq] at ht'
  obtain ⟨v, ev⟩ := Int.eq_ofNat_of_zero_le ht'.1
  unfold apexB at ha
  simp only [Bool.and_eq_true] at ha
  refine ⟨hr, ?_, n, v, en, ev, by omega, by omega, by rw [← en]; exact hm, by rw [← ev]; exact ht⟩
  have hz : x.apex.data.toList.length = x.apex.size := by cases x.apex; simp [ByteArray.size]
  have h60 := ha.1
  unfold Nm.okB at h60
  simp only [Bool.and_eq_true, decide_eq_true_eq] at h60
  omega
/-- A row above N stays where the block o below it turns. -/
theorem row_lowD {w w' : World} {o b e s n : Nat} {v : Value} {xs : List Value} (h : w.ownsRow b e s v n xs) (ho : o < b) (k : Only o w w') : w'.ownsRow b e s v n xs := by
  refine Rp.row_in (lo := o) (hi := o + 1) h (Rp.OnlyIn.of_only k (.inr ⟨Nat.le_refl _, Nat.lt_succ_self _⟩)) ?_
  intro g hg hq
  rcases h.2 with ⟨e1, _⟩ | ⟨x, cap, cur, e1, hb, _, _⟩
  · rw [e1] at hg; cases hg
  · rw [e1] at hg
    obtain rfl : x = g := Option.some.inj hg
    omega
/-- What the store leaves. -/
def SpD (nb bd : Nat) (ap tx : ByteArray) (mn u K1 K2 U R1 R2 T : Int) (ka : Option Addr) (kn kc : Nat) (w0 : World) (W : World) : Prop := ∃ V : World, W = ((((((((V).setCell ⟨bd, 0, none⟩ (.string ap)).setCell ⟨bd, 1, none⟩ (.slice ka kn kc)).setCell ⟨bd, 2, none⟩ (.int .i64 K1)).setCell ⟨bd, 3, none⟩ (.int .i64 K2)).setCell ⟨bd, 4, none⟩ (.int .i64 U)).setCell ⟨bd, 5, none⟩ (.int .i64 R1)).setCell ⟨bd, 6, none⟩ (.int .i64 R2)).setCell ⟨bd, 7, none⟩ (.int .i64 T) ∧ Below w0.heap.size w0 V
structure RDl (nb bd : Nat) (ap tx : ByteArray) (mn u K1 K2 U R1 R2 T : Int) (ka : Option Addr) (kn kc : Nat) (w0 : World) (L : Nat → Bool) (u9 u10 u11 u12 u13 u14 u15 u16 u17 u18 u19 u20 u21 u22 u23 : Value) (W : World) : Prop where
  low : L 15 = false → Below w0.heap.size w0 W
  fin : L 15 = true → SpD nb bd ap tx mn u K1 K2 U R1 R2 T ka kn kc w0 W
  d15 : L 15 = true → L 14 = true
  d8 : L 8 = true → L 7 = true
  d11 : L 11 = true → L 8 = true ∧ L 10 = true
  d13 : L 13 = true → L 5 = true ∧ L 11 = true
  d14 : L 14 = true → L 1 = true ∧ L 13 = true
  k0 : L 0 = true → u9 = .pointer (some ⟨nb, 9, none⟩)
  k1 : L 1 = true → u10 = .string ap
  k2 : L 2 = true → u11 = .slice ka kn kc
  k3 : L 3 = true → u12 = .pointer (some ⟨nb, 2, none⟩)
  k4 : L 4 = true → u13 = .pointer (some ⟨nb, 3, none⟩)
  k5 : L 5 = true → u14 = .int .i64 mn
  k6 : L 6 = true → u15 = .pointer (some ⟨nb, 9, none⟩)
  k7 : L 7 = true → u16 = .string ap
  k8 : L 8 = true → u17 = .string (ap ++ ⟨#[32]⟩)
  k9 : L 9 = true → u18 = .slice ka kn kc
  k10 : L 10 = true → u19 = .string tx
  k11 : L 11 = true → u20 = .string (ap ++ ⟨#[32]⟩ ++ tx)
  k12 : L 12 = true → u21 = .int .i64 u
  k13 : L 13 = true → u22 = .agg #[.int .i64 K1, .int .i64 K2, .int .i64 U, .int .i64 R1, .int .i64 R2, .int .i64 T]
  k14 : L 14 = true → u23 = .agg #[.string ap, .slice ka kn kc, .int .i64 K1, .int .i64 K2, .int .i64 U, .int .i64 R1, .int .i64 R2, .int .i64 T]
def KDl (nb bd : Nat) (ap tx : ByteArray) (mn u K1 K2 U R1 R2 T : Int) (ka : Option Addr) (kn kc : Nat) (w0 : World) (y0 y1 y2 y3 y4 y5 y6 y7 y8 : Value) (L : Nat → Bool) (a : Act) (W : World) : Prop := ∃ u9 u10 u11 u12 u13 u14 u15 u16 u17 u18 u19 u20 u21 u22 u23 : Value, a = ⟨(y0 :: y1 :: y2 :: y3 :: y4 :: y5 :: y6 :: y7 :: y8 :: u9 :: u10 :: u11 :: u12 :: u13 :: u14 :: u15 :: u16 :: u17 :: u18 :: u19 :: u20 :: u21 :: u22 :: u23 :: []).toArray, []⟩ ∧ RDl nb bd ap tx mn u K1 K2 U R1 R2 T ka kn kc w0 L u9 u10 u11 u12 u13 u14 u15 u16 u17 u18 u19 u20 u21 u22 u23 W
theorem RDl.kept {nb bd : Nat} {ap tx : ByteArray} {mn u K1 K2 U R1 R2 T : Int} {ka : Option Addr} {kn kc : Nat} {w0 : World} {L : Nat → Bool} {u9 u10 u11 u12 u13 u14 u15 u16 u17 u18 u19 u20 u21 u22 u23 : Value} {W W' : World} (R : RDl nb bd ap tx mn u K1 K2 U R1 R2 T ka kn kc w0 L u9 u10 u11 u12 u13 u14 u15 u16 u17 u18 u19 u20 u21 u22 u23 W) (h15x : L 15 = false) (k : Below W.heap.size W W') : RDl nb bd ap tx mn u K1 K2 U R1 R2 T ka kn kc w0 L u9 u10 u11 u12 u13 u14 u15 u16 u17 u18 u19 u20 u21 u22 u23 W' :=
  ⟨(fun _ => (R.low h15x).trans (k.mono (R.low h15x).size)), (fun q => by rw [h15x] at q; cases q), R.d15, R.d8, R.d11, R.d13, R.d14, R.k0, R.k1, R.k2, R.k3, R.k4, R.k5, R.k6, R.k7, R.k8, R.k9, R.k10, R.k11, R.k12, R.k13, R.k14⟩
theorem RDl.behind {nb bd : Nat} {ap tx : ByteArray} {mn u K1 K2 U R1 R2 T : Int} {ka : Option Addr} {kn kc : Nat} {w0 : World} {L : Nat → Bool} {u9 u10 u11 u12 u13 u14 u15 u16 u17 u18 u19 u20 u21 u22 u23 : Value} {W : World} (R : RDl nb bd ap tx mn u K1 K2 U R1 R2 T ka kn kc w0 L u9 u10 u11 u12 u13 u14 u15 u16 u17 u18 u19 u20 u21 u22 u23 W) (h : L 1 = false ∨ L 5 = false ∨ L 7 = false ∨ L 10 = false ∨ L 13 = false) : L 15 = false := by
  cases q : L 15 with
  | false => rfl
  | true =>
    have h15 := R.d15 q
    have h14 := R.d14 h15
    have h13 := R.d13 h14.2
    have h11 := R.d11 h13.2
    have h8 := R.d8 h11.1
    simp [h14.1, h14.2, h13.1, h11.2, h8] at h
set_option maxRecDepth 100000 in
set_option maxHeartbeats 16000000 in
/-- With the keys and the Seal as letters. -/
theorem l17Deed_aux (bk : List En.Rw) (mm : List Mm.Rw) (ph mn ol nw tm : Int) (bu : List Bu.Rw) (lg : List Lg.Ln) (ap : ByteArray) (e0 t0 b0 g0 : Option Addr) (e1 e2 t1 t2 b1 b2 g1 g2 : Nat) (u : Int) (w : World) (L : List Pt.Ln) (tx : ByteArray) (K1 K2 U R1 R2 T : Int)
    (hap : ap.size ≤ 60) (htx : tx.size ≤ 200)
    (cS : ∀ W, Calls Tryz.prog 74 #[.agg #[.int .i64 ph, .int .i64 mn, .int .i64 ol, .int .i64 nw, .int .i64 tm]] W fun en w' => ∃ v, en = .returned v ∧ Pt.Own w' W.heap.size v L ∧ Below W.heap.size W w')
    (cT : ∀ a c W, Pt.Rd W a L → Calls Tryz.prog 76 #[.slice a L.length c] W fun en w' => en = .returned (.string tx) ∧ Below W.heap.size W w')
    (cL : ∀ W, Calls Tryz.prog 75 #[.int .i64 mn, .string (ap ++ ⟨#[32]⟩ ++ tx), .int .i64 u] W fun en w' => en = .returned (.agg #[.int .i64 K1, .int .i64 K2, .int .i64 U, .int .i64 R1, .int .i64 R2, .int .i64 T]) ∧ Below W.heap.size W w') :
    Calls Tryz.prog 39 #[.agg #[.slice e0 e1 e2, .slice t0 t1 t2, .int .i64 ph, .int .i64 mn, .int .i64 ol, .int .i64 nw, .int .i64 tm, .slice b0 b1 b2, .slice g0 g1 g2, .string ap], .int .i64 u] w fun en w' => ∃ a c, en = .returned (Dd.dv ap (.slice a L.length c) K1 K2 U R1 R2 T) ∧ Pt.Own w' w.heap.size (.slice a L.length c) L ∧ Below w.heap.size w w' := by
  have CS := hidIt cS
  have CT := hidIt cT
  have CL := hidIt cL
  clear cS cT cL
  have BN : Hid (Bo.Box ((w.alloc (.cells #[.slice e0 e1 e2, .slice t0 t1 t2, .int .i64 ph, .int .i64 mn, .int .i64 ol, .int .i64 nw, .int .i64 tm, .slice b0 b1 b2, .slice g0 g1 g2, .string ap] 42)).alloc (.cells #[.string ⟨#[]⟩, .slice none 0 0, .int .i64 0, .int .i64 0, .int .i64 0, .int .i64 0, .int .i64 0, .int .i64 0] 54)) w.heap.size #[.slice e0 e1 e2, .slice t0 t1 t2, .int .i64 ph, .int .i64 mn, .int .i64 ol, .int .i64 nw, .int .i64 tm, .slice b0 b1 b2, .slice g0 g1 g2, .string ap]) := hidIt ((Bo.Box.new w _ _).alloc _)
  have BO : Hid (Bo.Box ((w.alloc (.cells #[.slice e0 e1 e2, .slice t0 t1 t2, .int .i64 ph, .int .i64 mn, .int .i64 ol, .int .i64 nw, .int .i64 tm, .slice b0 b1 b2, .slice g0 g1 g2, .string ap] 42)).alloc (.cells #[.string ⟨#[]⟩, .slice none 0 0, .int .i64 0, .int .i64 0, .int .i64 0, .int .i64 0, .int .i64 0, .int .i64 0] 54)) (w.heap.size + 1) #[.string ⟨#[]⟩, .slice none 0 0, .int .i64 0, .int .i64 0, .int .i64 0, .int .i64 0, .int .i64 0, .int .i64 0]) := hidIt (Bo.Box.newAt (by simp))
  have HB : Hid (Below w.heap.size w ((w.alloc (.cells #[.slice e0 e1 e2, .slice t0 t1 t2, .int .i64 ph, .int .i64 mn, .int .i64 ol, .int .i64 nw, .int .i64 tm, .slice b0 b1 b2, .slice g0 g1 g2, .string ap] 42)).alloc (.cells #[.string ⟨#[]⟩, .slice none 0 0, .int .i64 0, .int .i64 0, .int .i64 0, .int .i64 0, .int .i64 0, .int .i64 0] 54))) := hidIt (((Below.refl w.heap.size w).alloc (Nat.le_refl _) _).alloc (by simp) _)
  have hn2 : ((w.alloc (.cells #[.slice e0 e1 e2, .slice t0 t1 t2, .int .i64 ph, .int .i64 mn, .int .i64 ol, .int .i64 nw, .int .i64 tm, .slice b0 b1 b2, .slice g0 g1 g2, .string ap] 42)).alloc (.cells #[.string ⟨#[]⟩, .slice none 0 0, .int .i64 0, .int .i64 0, .int .i64 0, .int .i64 0, .int .i64 0, .int .i64 0] 54)).heap.size = w.heap.size + 2 := by simp
  have d2 := BN.out.c 2 (v := .int .i64 ph) rfl
  have d3 := BN.out.c 3 (v := .int .i64 mn) rfl
  have d4 := BN.out.c 4 (v := .int .i64 ol) rfl
  have d5 := BN.out.c 5 (v := .int .i64 nw) rfl
  have d6 := BN.out.c 6 (v := .int .i64 tm) rfl
  go_enter Tryz.func39, Tryz.ntmps39
  go_wp2_with (fail)
  refine (CS.out _).mono ?_
  rintro en w1 ⟨v, rfl, oK, k⟩
  obtain ⟨ka, kc, ev, _, _, rK, _⟩ := oK.form
  have OK : Hid (Pt.Own w1 (w.heap.size + 2) v L) := hidIt (by rw [← hn2]; exact oK)
  replace BN := hidIt (BN.out.kept k)
  replace BO := hidIt (BO.out.kept k)
  replace HB := hidIt (HB.out.trans (k.mono HB.out.size))
  have RK0 := hidIt rK
  clear k oK rK d2 d3 d4 d5 d6 hn2
  subst ev
  generalize hkn : L.length = kn at *
  have HKN := hidIt hkn
  clear hkn
  have hne : w.heap.size + 1 ≠ w.heap.size := by omega
  have hbd : w.heap.size ≤ w.heap.size + 1 := by omega
  have hlt2 : w.heap.size + 1 < w.heap.size + 2 := by omega
  have hle2 : w.heap.size ≤ w.heap.size + 2 := by omega
  have C3 := hidIt (fun W (kb : Below w1.drew.heap.size w1.drew W) => (BN.out.drew.kept kb).c 3 (v := .int .i64 mn) rfl)
  have C9 := hidIt (fun W (kb : Below w1.drew.heap.size w1.drew W) => (BN.out.drew.kept kb).c 9 (v := .string ap) rfl)
  have BD := hidIt (fun W (kb : Below w1.drew.heap.size w1.drew W) => BO.out.drew.kept kb)
  have RK := hidIt (fun W (kb : Below w1.drew.heap.size w1.drew W) => RK0.out.drew.kept kb)
  have q0 : (⟨#[32]⟩ : ByteArray).size = 1 := rfl
  have q2 : ¬ 9223372036854775807 < ap.size + 1 := by omega
  have q3 : ¬ 9223372036854775807 < ap.size + 1 + tx.size := by omega
  go_wp2_with (fail)
  refine wp_region_inv (by kernel_rfl) (by kernel_rfl) (KDl w.heap.size (w.heap.size + 1) ap tx mn u K1 K2 U R1 R2 T ka kn kc w1.drew _ _ _ _ _ _ _ _ _) ⟨_, _, _, _, _, _, _, _, _, _, _, _, _, _, _, (⟨rfl, ⟨(fun _ => Below.refl _ _), (fun q => by cases q), (fun q => by cases q), (fun q => by cases q), (fun q => by cases q), (fun q => by cases q), (fun q => by cases q), (fun q => by cases q), (fun q => by cases q), (fun q => by cases q), (fun q => by cases q), (fun q => by cases q), (fun q => by cases q), (fun q => by cases q), (fun q => by cases q), (fun q => by cases q), (fun q => by cases q), (fun q => by cases q), (fun q => by cases q), (fun q => by cases q), (fun q => by cases q), (fun q => by cases q)⟩⟩)⟩ ?_ ?_
  case refine_1 =>
    intro Lb a' W j hj hI hL hD
    have hcases : j = 0 ∨ j = 1 ∨ j = 2 ∨ j = 3 ∨ j = 4 ∨ j = 5 ∨ j = 6 ∨ j = 7 ∨ j = 8 ∨ j = 9 ∨ j = 10 ∨ j = 11 ∨ j = 12 ∨ j = 13 ∨ j = 14 ∨ j = 15 := by simp at hj; omega
    clear hj
    obtain ⟨u9, u10, u11, u12, u13, u14, u15, u16, u17, u18, u19, u20, u21, u22, u23, rfl, R⟩ := hI
    rcases hcases with rfl | rfl | rfl | rfl | rfl | rfl | rfl | rfl | rfl | rfl | rfl | rfl | rfl | rfl | rfl | rfl
    · skip
      refine op_at rfl (fun K hK => ?_)
      go_simp
      refine hK _ _ ?_
      exact ⟨_, _, _, _, _, _, _, _, _, _, _, _, _, _, _, rfl, ⟨R.low, R.fin, R.d15, R.d8, R.d11, R.d13, R.d14, (fun _ => rfl), R.k1, R.k2, R.k3, R.k4, R.k5, R.k6, R.k7, R.k8, R.k9, R.k10, R.k11, R.k12, R.k13, R.k14⟩⟩
    · skip
      have e0 := R.k0 (hD 0 (by kernel_rfl))
      subst e0
      have h15x := R.behind (.inl hL)
      have kb := R.low h15x
      have cc := C9.out W kb
      refine op_at rfl (fun K hK => ?_)
      go_simp
      refine hK _ _ ?_
      exact ⟨_, _, _, _, _, _, _, _, _, _, _, _, _, _, _, rfl, ⟨R.low, R.fin, R.d15, R.d8, R.d11, R.d13, (fun q => ⟨rfl, (R.d14 q).2⟩), R.k0, (fun _ => rfl), R.k2, R.k3, R.k4, R.k5, R.k6, R.k7, R.k8, R.k9, R.k10, R.k11, R.k12, R.k13, R.k14⟩⟩
    · skip
      refine op_at rfl (fun K hK => ?_)
      go_simp
      refine hK _ _ ?_
      exact ⟨_, _, _, _, _, _, _, _, _, _, _, _, _, _, _, rfl, ⟨R.low, R.fin, R.d15, R.d8, R.d11, R.d13, R.d14, R.k0, R.k1, (fun _ => rfl), R.k3, R.k4, R.k5, R.k6, R.k7, R.k8, R.k9, R.k10, R.k11, R.k12, R.k13, R.k14⟩⟩
    · skip
      refine op_at rfl (fun K hK => ?_)
      go_simp
      refine hK _ _ ?_
      exact ⟨_, _, _, _, _, _, _, _, _, _, _, _, _, _, _, rfl, ⟨R.low, R.fin, R.d15, R.d8, R.d11, R.d13, R.d14, R.k0, R.k1, R.k2, (fun _ => rfl), R.k4, R.k5, R.k6, R.k7, R.k8, R.k9, R.k10, R.k11, R.k12, R.k13, R.k14⟩⟩
    · skip
      have e3 := R.k3 (hD 3 (by kernel_rfl))
      subst e3
      refine op_at rfl (fun K hK => ?_)
      go_simp
      refine hK _ _ ?_
      exact ⟨_, _, _, _, _, _, _, _, _, _, _, _, _, _, _, rfl, ⟨R.low, R.fin, R.d15, R.d8, R.d11, R.d13, R.d14, R.k0, R.k1, R.k2, R.k3, (fun _ => rfl), R.k5, R.k6, R.k7, R.k8, R.k9, R.k10, R.k11, R.k12, R.k13, R.k14⟩⟩
    · skip
      have e4 := R.k4 (hD 4 (by kernel_rfl))
      subst e4
      have h15x := R.behind (.inr (.inl hL))
      have kb := R.low h15x
      have cc := C3.out W kb
      refine op_at rfl (fun K hK => ?_)
      go_simp
      refine hK _ _ ?_
      exact ⟨_, _, _, _, _, _, _, _, _, _, _, _, _, _, _, rfl, ⟨R.low, R.fin, R.d15, R.d8, R.d11, (fun q => ⟨rfl, (R.d13 q).2⟩), R.d14, R.k0, R.k1, R.k2, R.k3, R.k4, (fun _ => rfl), R.k6, R.k7, R.k8, R.k9, R.k10, R.k11, R.k12, R.k13, R.k14⟩⟩
    · skip
      refine op_at rfl (fun K hK => ?_)
      go_simp
      refine hK _ _ ?_
      exact ⟨_, _, _, _, _, _, _, _, _, _, _, _, _, _, _, rfl, ⟨R.low, R.fin, R.d15, R.d8, R.d11, R.d13, R.d14, R.k0, R.k1, R.k2, R.k3, R.k4, R.k5, (fun _ => rfl), R.k7, R.k8, R.k9, R.k10, R.k11, R.k12, R.k13, R.k14⟩⟩
    · skip
      have e6 := R.k6 (hD 6 (by kernel_rfl))
      subst e6
      have h15x := R.behind (.inr (.inr (.inl hL)))
      have kb := R.low h15x
      have cc := C9.out W kb
      refine op_at rfl (fun K hK => ?_)
      go_simp
      refine hK _ _ ?_
      exact ⟨_, _, _, _, _, _, _, _, _, _, _, _, _, _, _, rfl, ⟨R.low, R.fin, R.d15, (fun _ => rfl), R.d11, R.d13, R.d14, R.k0, R.k1, R.k2, R.k3, R.k4, R.k5, R.k6, (fun _ => rfl), R.k8, R.k9, R.k10, R.k11, R.k12, R.k13, R.k14⟩⟩
    · skip
      have e7 := R.k7 (hD 7 (by kernel_rfl))
      subst e7
      refine op_at rfl (fun K hK => ?_)
      go_simp
      refine hK _ _ ?_
      exact ⟨_, _, _, _, _, _, _, _, _, _, _, _, _, _, _, rfl, ⟨R.low, R.fin, R.d15, (fun _ => hD 7 (by kernel_rfl)), (fun q => ⟨rfl, (R.d11 q).2⟩), R.d13, R.d14, R.k0, R.k1, R.k2, R.k3, R.k4, R.k5, R.k6, R.k7, (fun _ => rfl), R.k9, R.k10, R.k11, R.k12, R.k13, R.k14⟩⟩
    · skip
      refine op_at rfl (fun K hK => ?_)
      go_simp
      refine hK _ _ ?_
      exact ⟨_, _, _, _, _, _, _, _, _, _, _, _, _, _, _, rfl, ⟨R.low, R.fin, R.d15, R.d8, R.d11, R.d13, R.d14, R.k0, R.k1, R.k2, R.k3, R.k4, R.k5, R.k6, R.k7, R.k8, (fun _ => rfl), R.k10, R.k11, R.k12, R.k13, R.k14⟩⟩
    · skip
      have e9 := R.k9 (hD 9 (by kernel_rfl))
      subst e9
      have h15x := R.behind (.inr (.inr (.inr (.inl hL))))
      have kb := R.low h15x
      refine op_at rfl (fun K hK => ?_)
      go_simp
      refine (CT.out ka kc W (RK.out W kb)).mono ?_
      rintro e W1 ⟨rfl, k1⟩
      have R := R.kept h15x k1
      clear kb
      go_simp
      refine hK _ _ ?_
      exact ⟨_, _, _, _, _, _, _, _, _, _, _, _, _, _, _, rfl, ⟨R.low, R.fin, R.d15, R.d8, (fun q => ⟨(R.d11 q).1, rfl⟩), R.d13, R.d14, R.k0, R.k1, R.k2, R.k3, R.k4, R.k5, R.k6, R.k7, R.k8, R.k9, (fun _ => rfl), R.k11, R.k12, R.k13, R.k14⟩⟩
    · skip
      have e8 := R.k8 (hD 8 (by kernel_rfl))
      subst e8
      have e10 := R.k10 (hD 10 (by kernel_rfl))
      subst e10
      refine op_at rfl (fun K hK => ?_)
      go_simp
      refine hK _ _ ?_
      exact ⟨_, _, _, _, _, _, _, _, _, _, _, _, _, _, _, rfl, ⟨R.low, R.fin, R.d15, R.d8, (fun _ => ⟨hD 8 (by kernel_rfl), hD 10 (by kernel_rfl)⟩), (fun q => ⟨(R.d13 q).1, rfl⟩), R.d14, R.k0, R.k1, R.k2, R.k3, R.k4, R.k5, R.k6, R.k7, R.k8, R.k9, R.k10, (fun _ => rfl), R.k12, R.k13, R.k14⟩⟩
    · skip
      refine op_at rfl (fun K hK => ?_)
      go_simp
      refine hK _ _ ?_
      exact ⟨_, _, _, _, _, _, _, _, _, _, _, _, _, _, _, rfl, ⟨R.low, R.fin, R.d15, R.d8, R.d11, R.d13, R.d14, R.k0, R.k1, R.k2, R.k3, R.k4, R.k5, R.k6, R.k7, R.k8, R.k9, R.k10, R.k11, (fun _ => rfl), R.k13, R.k14⟩⟩
    · skip
      have e5 := R.k5 (hD 5 (by kernel_rfl))
      subst e5
      have e11 := R.k11 (hD 11 (by kernel_rfl))
      subst e11
      have e12 := R.k12 (hD 12 (by kernel_rfl))
      subst e12
      have h15x := R.behind (.inr (.inr (.inr (.inr hL))))
      have kb := R.low h15x
      refine op_at rfl (fun K hK => ?_)
      go_simp
      refine (CL.out W).mono ?_
      rintro e W1 ⟨rfl, k1⟩
      have R := R.kept h15x k1
      clear kb
      go_simp
      refine hK _ _ ?_
      exact ⟨_, _, _, _, _, _, _, _, _, _, _, _, _, _, _, rfl, ⟨R.low, R.fin, R.d15, R.d8, R.d11, (fun _ => ⟨hD 5 (by kernel_rfl), hD 11 (by kernel_rfl)⟩), (fun q => ⟨(R.d14 q).1, rfl⟩), R.k0, R.k1, R.k2, R.k3, R.k4, R.k5, R.k6, R.k7, R.k8, R.k9, R.k10, R.k11, R.k12, (fun _ => rfl), R.k14⟩⟩
    · skip
      have e1 := R.k1 (hD 1 (by kernel_rfl))
      subst e1
      have e2 := R.k2 (hD 2 (by kernel_rfl))
      subst e2
      have e13 := R.k13 (hD 13 (by kernel_rfl))
      subst e13
      refine op_at rfl (fun K hK => ?_)
      go_simp
      refine hK _ _ ?_
      exact ⟨_, _, _, _, _, _, _, _, _, _, _, _, _, _, _, rfl, ⟨R.low, R.fin, (fun _ => rfl), R.d8, R.d11, R.d13, (fun _ => ⟨hD 1 (by kernel_rfl), hD 13 (by kernel_rfl)⟩), R.k0, R.k1, R.k2, R.k3, R.k4, R.k5, R.k6, R.k7, R.k8, R.k9, R.k10, R.k11, R.k12, R.k13, (fun _ => rfl)⟩⟩
    · skip
      have e14 := R.k14 (hD 14 (by kernel_rfl))
      subst e14
      have kb := R.low hL
      have bx := BD.out W kb
      have c0 := bx.c 0 (v := .string ⟨#[]⟩) rfl
      have f0 := bx.fr 0
      have c1 := bx.c 1 (v := .slice none 0 0) rfl
      have f1 := bx.fr 1
      have c2 := bx.c 2 (v := .int .i64 0) rfl
      have f2 := bx.fr 2
      have c3 := bx.c 3 (v := .int .i64 0) rfl
      have f3 := bx.fr 3
      have c4 := bx.c 4 (v := .int .i64 0) rfl
      have f4 := bx.fr 4
      have c5 := bx.c 5 (v := .int .i64 0) rfl
      have f5 := bx.fr 5
      have c6 := bx.c 6 (v := .int .i64 0) rfl
      have f6 := bx.fr 6
      have c7 := bx.c 7 (v := .int .i64 0) rfl
      have f7 := bx.fr 7
      refine op_at rfl (fun K hK => ?_)
      go_simp
      refine hK _ _ ?_
      exact ⟨_, _, _, _, _, _, _, _, _, _, _, _, _, _, _, rfl, ⟨(fun q => by cases q), (fun _ => ⟨W, rfl, kb⟩), (fun _ => hD 14 (by kernel_rfl)), R.d8, R.d11, R.d13, R.d14, R.k0, R.k1, R.k2, R.k3, R.k4, R.k5, R.k6, R.k7, R.k8, R.k9, R.k10, R.k11, R.k12, R.k13, R.k14⟩⟩
  case refine_2 =>
    intro Lb a' W hI hall
    obtain ⟨u9, u10, u11, u12, u13, u14, u15, u16, u17, u18, u19, u20, u21, u22, u23, rfl, R⟩ := hI
    obtain ⟨V, eW, kV⟩ := R.fin (hall 15)
    clear R hall
    have oV : Pt.Own V (w.heap.size + 2) (.slice ka kn kc) L := Pt.Own.kept (w := w1.drew) OK.out kV
    have O1 : Only (w.heap.size + 1) V W := by rw [eW]; exact (((((((((Only.refl (w.heap.size + 1) V)).setCell 0 (.string ap)).setCell 1 (.slice ka kn kc)).setCell 2 (.int .i64 K1)).setCell 3 (.int .i64 K2)).setCell 4 (.int .i64 U)).setCell 5 (.int .i64 R1)).setCell 6 (.int .i64 R2)).setCell 7 (.int .i64 T)
    have oW : Pt.Own W (w.heap.size + 2) (.slice ka kn kc) L := row_lowD oV hlt2 O1
    have HO := hidIt (oW.mono hle2)
    have BZ : Bo.Box W (w.heap.size + 1) #[.string ap, .slice ka kn kc, .int .i64 K1, .int .i64 K2, .int .i64 U, .int .i64 R1, .int .i64 R2, .int .i64 T] := by rw [eW]; exact ((((((((BD.out V kV).put (c' := #[.string ap, .slice none 0 0, .int .i64 0, .int .i64 0, .int .i64 0, .int .i64 0, .int .i64 0, .int .i64 0]) 0 (.string ap) (by simp) rfl).put (c' := #[.string ap, .slice ka kn kc, .int .i64 0, .int .i64 0, .int .i64 0, .int .i64 0, .int .i64 0, .int .i64 0]) 1 (.slice ka kn kc) (by simp) rfl).put (c' := #[.string ap, .slice ka kn kc, .int .i64 K1, .int .i64 0, .int .i64 0, .int .i64 0, .int .i64 0, .int .i64 0]) 2 (.int .i64 K1) (by simp) rfl).put (c' := #[.string ap, .slice ka kn kc, .int .i64 K1, .int .i64 K2, .int .i64 0, .int .i64 0, .int .i64 0, .int .i64 0]) 3 (.int .i64 K2) (by simp) rfl).put (c' := #[.string ap, .slice ka kn kc, .int .i64 K1, .int .i64 K2, .int .i64 U, .int .i64 0, .int .i64 0, .int .i64 0]) 4 (.int .i64 U) (by simp) rfl).put (c' := #[.string ap, .slice ka kn kc, .int .i64 K1, .int .i64 K2, .int .i64 U, .int .i64 R1, .int .i64 0, .int .i64 0]) 5 (.int .i64 R1) (by simp) rfl).put (c' := #[.string ap, .slice ka kn kc, .int .i64 K1, .int .i64 K2, .int .i64 U, .int .i64 R1, .int .i64 R2, .int .i64 0]) 6 (.int .i64 R2) (by simp) rfl).put (c' := #[.string ap, .slice ka kn kc, .int .i64 K1, .int .i64 K2, .int .i64 U, .int .i64 R1, .int .i64 R2, .int .i64 T]) 7 (.int .i64 T) (by simp) rfl
    have HBZ : Hid (Below w.heap.size w W) := hidIt (by rw [eW]; exact (((((((((HB.out.drew.trans (kV.mono HB.out.drew.size))).setCell (p := ⟨w.heap.size + 1, 0, none⟩) hbd (.string ap)).setCell (p := ⟨w.heap.size + 1, 1, none⟩) hbd (.slice ka kn kc)).setCell (p := ⟨w.heap.size + 1, 2, none⟩) hbd (.int .i64 K1)).setCell (p := ⟨w.heap.size + 1, 3, none⟩) hbd (.int .i64 K2)).setCell (p := ⟨w.heap.size + 1, 4, none⟩) hbd (.int .i64 U)).setCell (p := ⟨w.heap.size + 1, 5, none⟩) hbd (.int .i64 R1)).setCell (p := ⟨w.heap.size + 1, 6, none⟩) hbd (.int .i64 R2)).setCell (p := ⟨w.heap.size + 1, 7, none⟩) hbd (.int .i64 T))
    have x0 := BZ.c 0 (v := .string ap) rfl
    have x1 := BZ.c 1 (v := .slice ka kn kc) rfl
    have x2 := BZ.c 2 (v := .int .i64 K1) rfl
    have x3 := BZ.c 3 (v := .int .i64 K2) rfl
    have x4 := BZ.c 4 (v := .int .i64 U) rfl
    have x5 := BZ.c 5 (v := .int .i64 R1) rfl
    have x6 := BZ.c 6 (v := .int .i64 R2) rfl
    have x7 := BZ.c 7 (v := .int .i64 T) rfl
    clear eW oV O1 oW BZ kV
    go_wp2_with (fail)
    refine bodyPost_ret (v := .agg #[.string ap, .slice ka kn kc, .int .i64 K1, .int .i64 K2, .int .i64 U, .int .i64 R1, .int .i64 R2, .int .i64 T]) (by simp [results, Tryz.results39, go_sem, x0, x1, x2, x3, x4, x5, x6, x7]) rfl ?_
    have e1 := HKN.out
    subst e1
    exact ⟨ka, kc, rfl, HO.out, HBZ.out⟩
set_option maxRecDepth 100000 in
/-- l17Deed at a right Node and a time. -/
theorem spec_l17Deed (x : Nw) (e m b g : Sl) (u : Int) (w : World) (h : okD x u = true) :
    Calls Tryz.prog 39 #[nv x e m b g, .int .i64 u] w fun en w' => ∃ a c, en = .returned (Dd.dv (zD x u) (.slice a (kD x u).length c) (qD x u).1 (qD x u).2.1 (qD x u).2.2.1 (qD x u).2.2.2.1 (qD x u).2.2.2.2.1 (qD x u).2.2.2.2.2) ∧ Pt.Own w' w.heap.size (.slice a (kD x u).length c) (kD x u) ∧ Below w.heap.size w w' := by
  obtain ⟨hr, ha, n, v, en, ev, hn, hv, hs, ht⟩ := okD_nat h
  obtain ⟨k1, k2, k3⟩ := ded_yes h
  rw [k1, k2, k3]
  clear k1 k2 k3 h
  have hk := keys_ser hr
  have hsz : (Dd.ktx (keysN x)).size ≤ 200 := by
    have := Dd.keysT_size (keysN x)
    rw [Dd.keysT, if_pos hk] at this
    omega
  obtain ⟨bk, mm, ph, mn, ol, nw, tm, bu, lg, ap⟩ := x
  obtain ⟨e0, e1, e2⟩ := e
  obtain ⟨t0, t1, t2⟩ := m
  obtain ⟨b0, b1, b2⟩ := b
  obtain ⟨g0, g1, g2⟩ := g
  simp only at hr ha en hk hsz ⊢
  subst en ev
  have hd : deedT ⟨bk, mm, ph, (n : Int), ol, nw, tm, bu, lg, ap⟩ = ap ++ ⟨#[32]⟩ ++ Dd.ktx (Ro.serR ph n ol nw tm) := rfl
  rw [hd, Dd.sealR_yes hs ht]
  have hts : (ap ++ ⟨#[32]⟩ ++ Dd.ktx (Ro.serR ph n ol nw tm)).size ≤ 4611686018427370000 := by
    rw [ByteArray.size_append, ByteArray.size_append]
    have : (⟨#[32]⟩ : ByteArray).size = 1 := rfl
    simp only [keysN] at hsz
    omega
  have cL : ∀ W, Calls Tryz.prog 75 #[.int .i64 n, .string (ap ++ ⟨#[32]⟩ ++ Dd.ktx (Ro.serR ph n ol nw tm)), .int .i64 v] W fun en w' => en = .returned (Dd.svt (Dd.sealN n v (ap ++ ⟨#[32]⟩ ++ Dd.ktx (Ro.serR ph n ol nw tm)))) ∧ Below W.heap.size W w' := by
    intro W
    rw [Dd.sealN_eq]
    exact Dd.spec_l9Seal n v _ W hn hv hts
  have cS := fun W => Ro.spec_l10Served ph n ol nw tm W hr
  have cT := fun a c W hR => Dd.spec_l9KeysText a c (Ro.serR ph n ol nw tm) W hR hk
  simp only [keysN] at hsz ⊢
  generalize Dd.sealN n v (ap ++ ⟨#[32]⟩ ++ Dd.ktx (Ro.serR ph n ol nw tm)) = q at cL ⊢
  generalize Dd.ktx (Ro.serR ph n ol nw tm) = tx at cL cT hsz
  generalize Ro.serR ph n ol nw tm = L at cS cT ⊢
  obtain ⟨K1, K2, U, R1, R2, T⟩ := q
  exact l17Deed_aux bk mm ph n ol nw tm bu lg ap e0 t0 b0 g0 e1 e2 t1 t2 b1 b2 g1 g2 v w L tx K1 K2 U R1 R2 T ha hsz cS cT cL
set_option maxRecDepth 100000 in
set_option maxHeartbeats 16000000 in
theorem spec_DeedOf (x : Nw) (e m b g : Sl) (u : Int) (w : World) (h : RdN w x e m b g) (hs : ShortN x) :
    Calls Tryz.prog 10 #[nv x e m b g, .int .i64 u] w fun en w' => DedP w (kD x u) (zD x u) (qD x u) (okD x u) en w' := by
  have C1 := hidIt (fun W (r : RdN W x e m b g) => spec_NodeOk x e m b g W r hs)
  have C2 := hidIt (fun W => Ro.spec_l9Time u W)
  have HR := hidIt h
  have HOK : Hid (okD x u = (okN x && Ro.timB u)) := hidIt rfl
  have N1 : Hid ((okN x && Ro.timB u) = false → kD x u = [] ∧ zD x u = ⟨#[]⟩ ∧ qD x u = (0, 0, 0, 0, 0, 0)) := hidIt (fun h => ded_no h)
  have C3 : Hid ((okN x && Ro.timB u) = true → ∀ w, Calls Tryz.prog 39 #[nv x e m b g, .int .i64 u] w fun en w' => ∃ a c, en = .returned (Dd.dv (zD x u) (.slice a (kD x u).length c) (qD x u).1 (qD x u).2.1 (qD x u).2.2.1 (qD x u).2.2.2.1 (qD x u).2.2.2.2.1 (qD x u).2.2.2.2.2) ∧ Pt.Own w' w.heap.size (.slice a (kD x u).length c) (kD x u) ∧ Below w.heap.size w w') := hidIt (fun h w => spec_l17Deed x e m b g u w h)
  rw [HOK.out]
  clear h HOK
  generalize okN x = k1 at C1 N1 C3 ⊢
  generalize Ro.timB u = k2 at C2 N1 C3 ⊢
  generalize kD x u = L at N1 C3 ⊢
  generalize zD x u = z at N1 C3 ⊢
  generalize qD x u = q at N1 C3 ⊢
  obtain ⟨bk, mm, ph, mn, ol, nw, tm, bu, lg, ap⟩ := x
  obtain ⟨e0, e1, e2⟩ := e
  obtain ⟨t0, t1, t2⟩ := m
  obtain ⟨b0, b1, b2⟩ := b
  obtain ⟨g0, g1, g2⟩ := g
  simp only [nv, nc, sv] at C1 C3 ⊢
  have BN : Hid (Bo.Box ((w.alloc (.cells #[.slice e0 e1 e2, .slice t0 t1 t2, .int .i64 ph, .int .i64 mn, .int .i64 ol, .int .i64 nw, .int .i64 tm, .slice b0 b1 b2, .slice g0 g1 g2, .string ap] 42)).alloc (.cells #[.string ⟨#[]⟩, .slice none 0 0, .int .i64 0, .int .i64 0, .int .i64 0, .int .i64 0, .int .i64 0, .int .i64 0] 54)) w.heap.size #[.slice e0 e1 e2, .slice t0 t1 t2, .int .i64 ph, .int .i64 mn, .int .i64 ol, .int .i64 nw, .int .i64 tm, .slice b0 b1 b2, .slice g0 g1 g2, .string ap]) := hidIt ((Bo.Box.new w _ _).alloc _)
  have BO : Hid (Bo.Box ((w.alloc (.cells #[.slice e0 e1 e2, .slice t0 t1 t2, .int .i64 ph, .int .i64 mn, .int .i64 ol, .int .i64 nw, .int .i64 tm, .slice b0 b1 b2, .slice g0 g1 g2, .string ap] 42)).alloc (.cells #[.string ⟨#[]⟩, .slice none 0 0, .int .i64 0, .int .i64 0, .int .i64 0, .int .i64 0, .int .i64 0, .int .i64 0] 54)) (w.heap.size + 1) #[.string ⟨#[]⟩, .slice none 0 0, .int .i64 0, .int .i64 0, .int .i64 0, .int .i64 0, .int .i64 0, .int .i64 0]) := hidIt (Bo.Box.newAt (by simp))
  have HB : Hid (Below w.heap.size w ((w.alloc (.cells #[.slice e0 e1 e2, .slice t0 t1 t2, .int .i64 ph, .int .i64 mn, .int .i64 ol, .int .i64 nw, .int .i64 tm, .slice b0 b1 b2, .slice g0 g1 g2, .string ap] 42)).alloc (.cells #[.string ⟨#[]⟩, .slice none 0 0, .int .i64 0, .int .i64 0, .int .i64 0, .int .i64 0, .int .i64 0, .int .i64 0] 54))) := hidIt (((Below.refl w.heap.size w).alloc (Nat.le_refl _) _).alloc (by simp) _)
  have hbd : w.heap.size ≤ w.heap.size + 1 := by omega
  have c0 := BN.out.c 0 (v := .slice e0 e1 e2) rfl
  have c1 := BN.out.c 1 (v := .slice t0 t1 t2) rfl
  have c2 := BN.out.c 2 (v := .int .i64 ph) rfl
  have c3 := BN.out.c 3 (v := .int .i64 mn) rfl
  have c4 := BN.out.c 4 (v := .int .i64 ol) rfl
  have c5 := BN.out.c 5 (v := .int .i64 nw) rfl
  have c6 := BN.out.c 6 (v := .int .i64 tm) rfl
  have c7 := BN.out.c 7 (v := .slice b0 b1 b2) rfl
  have c8 := BN.out.c 8 (v := .slice g0 g1 g2) rfl
  have c9 := BN.out.c 9 (v := .string ap) rfl
  go_enter Tryz.func10, Tryz.ntmps10
  go_wp2_with (fail)
  refine (C1.out _ (HR.out.kept HB.out)).mono ?_
  rintro en w1 ⟨rfl, k⟩
  replace BN := hidIt (BN.out.kept k)
  replace BO := hidIt (BO.out.kept k)
  replace HB := hidIt (HB.out.trans (k.mono HB.out.size))
  clear k c0 c1 c2 c3 c4 c5 c6 c7 c8 c9 C1
  cases k1 with
  | false =>
    obtain ⟨rfl, rfl, rfl⟩ := N1.out rfl
    have c0 := BO.out.c 0 (v := .string ⟨#[]⟩) rfl
    have c1 := BO.out.c 1 (v := .slice none 0 0) rfl
    have c2 := BO.out.c 2 (v := .int .i64 0) rfl
    have c3 := BO.out.c 3 (v := .int .i64 0) rfl
    have c4 := BO.out.c 4 (v := .int .i64 0) rfl
    have c5 := BO.out.c 5 (v := .int .i64 0) rfl
    have c6 := BO.out.c 6 (v := .int .i64 0) rfl
    have c7 := BO.out.c 7 (v := .int .i64 0) rfl
    have f0 := BO.out.fr 0
    have f1 := BO.out.fr 1
    have f2 := BO.out.fr 2
    have f3 := BO.out.fr 3
    have f4 := BO.out.fr 4
    have f5 := BO.out.fr 5
    have f6 := BO.out.fr 6
    have f7 := BO.out.fr 7
    have BZ := hidIt (((((((((BO.out).put (c' := #[.string ⟨#[]⟩, .slice none 0 0, .int .i64 0, .int .i64 0, .int .i64 0, .int .i64 0, .int .i64 0, .int .i64 0]) 0 (.string ⟨#[]⟩) (by simp) rfl).put (c' := #[.string ⟨#[]⟩, .slice none 0 0, .int .i64 0, .int .i64 0, .int .i64 0, .int .i64 0, .int .i64 0, .int .i64 0]) 1 (.slice none 0 0) (by simp) rfl).put (c' := #[.string ⟨#[]⟩, .slice none 0 0, .int .i64 0, .int .i64 0, .int .i64 0, .int .i64 0, .int .i64 0, .int .i64 0]) 2 (.int .i64 0) (by simp) rfl).put (c' := #[.string ⟨#[]⟩, .slice none 0 0, .int .i64 0, .int .i64 0, .int .i64 0, .int .i64 0, .int .i64 0, .int .i64 0]) 3 (.int .i64 0) (by simp) rfl).put (c' := #[.string ⟨#[]⟩, .slice none 0 0, .int .i64 0, .int .i64 0, .int .i64 0, .int .i64 0, .int .i64 0, .int .i64 0]) 4 (.int .i64 0) (by simp) rfl).put (c' := #[.string ⟨#[]⟩, .slice none 0 0, .int .i64 0, .int .i64 0, .int .i64 0, .int .i64 0, .int .i64 0, .int .i64 0]) 5 (.int .i64 0) (by simp) rfl).put (c' := #[.string ⟨#[]⟩, .slice none 0 0, .int .i64 0, .int .i64 0, .int .i64 0, .int .i64 0, .int .i64 0, .int .i64 0]) 6 (.int .i64 0) (by simp) rfl).put (c' := #[.string ⟨#[]⟩, .slice none 0 0, .int .i64 0, .int .i64 0, .int .i64 0, .int .i64 0, .int .i64 0, .int .i64 0]) 7 (.int .i64 0) (by simp) rfl)
    have HZ := hidIt (((((((((HB.out).setCell (p := ⟨w.heap.size + 1, 0, none⟩) hbd (.string ⟨#[]⟩)).setCell (p := ⟨w.heap.size + 1, 1, none⟩) hbd (.slice none 0 0)).setCell (p := ⟨w.heap.size + 1, 2, none⟩) hbd (.int .i64 0)).setCell (p := ⟨w.heap.size + 1, 3, none⟩) hbd (.int .i64 0)).setCell (p := ⟨w.heap.size + 1, 4, none⟩) hbd (.int .i64 0)).setCell (p := ⟨w.heap.size + 1, 5, none⟩) hbd (.int .i64 0)).setCell (p := ⟨w.heap.size + 1, 6, none⟩) hbd (.int .i64 0)).setCell (p := ⟨w.heap.size + 1, 7, none⟩) hbd (.int .i64 0))
    clear BN BO HB C3 N1
    go_wp2_with (fail)
    generalize ((((((((w1).setCell ⟨w.heap.size + 1, 0, none⟩ (.string ⟨#[]⟩)).setCell ⟨w.heap.size + 1, 1, none⟩ (.slice none 0 0)).setCell ⟨w.heap.size + 1, 2, none⟩ (.int .i64 0)).setCell ⟨w.heap.size + 1, 3, none⟩ (.int .i64 0)).setCell ⟨w.heap.size + 1, 4, none⟩ (.int .i64 0)).setCell ⟨w.heap.size + 1, 5, none⟩ (.int .i64 0)).setCell ⟨w.heap.size + 1, 6, none⟩ (.int .i64 0)).setCell ⟨w.heap.size + 1, 7, none⟩ (.int .i64 0) = wz at BZ HZ ⊢
    clear c0 f0 c1 f1 c2 f2 c3 f3 c4 f4 c5 f5 c6 f6 c7 f7
    have x0 := BZ.out.c 0 (v := .string ⟨#[]⟩) rfl
    have x1 := BZ.out.c 1 (v := .slice none 0 0) rfl
    have x2 := BZ.out.c 2 (v := .int .i64 0) rfl
    have x3 := BZ.out.c 3 (v := .int .i64 0) rfl
    have x4 := BZ.out.c 4 (v := .int .i64 0) rfl
    have x5 := BZ.out.c 5 (v := .int .i64 0) rfl
    have x6 := BZ.out.c 6 (v := .int .i64 0) rfl
    have x7 := BZ.out.c 7 (v := .int .i64 0) rfl
    refine bodyPost_ret (v := .tuple #[.agg #[.string ⟨#[]⟩, .slice none 0 0, .int .i64 0, .int .i64 0, .int .i64 0, .int .i64 0, .int .i64 0, .int .i64 0], .bool false]) (by simp [results, Tryz.results10, go_sem, x0, x1, x2, x3, x4, x5, x6, x7]) rfl ?_
    exact DedP.of (a := none) (c := 0) rfl (own_nil _ _) HZ.out
  | true =>
    go_wp2_with (fail)
    refine (C2.out _).mono ?_
    rintro en w1' ⟨rfl, ew⟩
    have ew2 := ew.symm
    subst ew2
    clear ew
    cases k2 with
    | false =>
      obtain ⟨rfl, rfl, rfl⟩ := N1.out rfl
      have c0 := BO.out.c 0 (v := .string ⟨#[]⟩) rfl
      have c1 := BO.out.c 1 (v := .slice none 0 0) rfl
      have c2 := BO.out.c 2 (v := .int .i64 0) rfl
      have c3 := BO.out.c 3 (v := .int .i64 0) rfl
      have c4 := BO.out.c 4 (v := .int .i64 0) rfl
      have c5 := BO.out.c 5 (v := .int .i64 0) rfl
      have c6 := BO.out.c 6 (v := .int .i64 0) rfl
      have c7 := BO.out.c 7 (v := .int .i64 0) rfl
      have f0 := BO.out.fr 0
      have f1 := BO.out.fr 1
      have f2 := BO.out.fr 2
      have f3 := BO.out.fr 3
      have f4 := BO.out.fr 4
      have f5 := BO.out.fr 5
      have f6 := BO.out.fr 6
      have f7 := BO.out.fr 7
      have BZ := hidIt (((((((((BO.out).put (c' := #[.string ⟨#[]⟩, .slice none 0 0, .int .i64 0, .int .i64 0, .int .i64 0, .int .i64 0, .int .i64 0, .int .i64 0]) 0 (.string ⟨#[]⟩) (by simp) rfl).put (c' := #[.string ⟨#[]⟩, .slice none 0 0, .int .i64 0, .int .i64 0, .int .i64 0, .int .i64 0, .int .i64 0, .int .i64 0]) 1 (.slice none 0 0) (by simp) rfl).put (c' := #[.string ⟨#[]⟩, .slice none 0 0, .int .i64 0, .int .i64 0, .int .i64 0, .int .i64 0, .int .i64 0, .int .i64 0]) 2 (.int .i64 0) (by simp) rfl).put (c' := #[.string ⟨#[]⟩, .slice none 0 0, .int .i64 0, .int .i64 0, .int .i64 0, .int .i64 0, .int .i64 0, .int .i64 0]) 3 (.int .i64 0) (by simp) rfl).put (c' := #[.string ⟨#[]⟩, .slice none 0 0, .int .i64 0, .int .i64 0, .int .i64 0, .int .i64 0, .int .i64 0, .int .i64 0]) 4 (.int .i64 0) (by simp) rfl).put (c' := #[.string ⟨#[]⟩, .slice none 0 0, .int .i64 0, .int .i64 0, .int .i64 0, .int .i64 0, .int .i64 0, .int .i64 0]) 5 (.int .i64 0) (by simp) rfl).put (c' := #[.string ⟨#[]⟩, .slice none 0 0, .int .i64 0, .int .i64 0, .int .i64 0, .int .i64 0, .int .i64 0, .int .i64 0]) 6 (.int .i64 0) (by simp) rfl).put (c' := #[.string ⟨#[]⟩, .slice none 0 0, .int .i64 0, .int .i64 0, .int .i64 0, .int .i64 0, .int .i64 0, .int .i64 0]) 7 (.int .i64 0) (by simp) rfl)
      have HZ := hidIt (((((((((HB.out).setCell (p := ⟨w.heap.size + 1, 0, none⟩) hbd (.string ⟨#[]⟩)).setCell (p := ⟨w.heap.size + 1, 1, none⟩) hbd (.slice none 0 0)).setCell (p := ⟨w.heap.size + 1, 2, none⟩) hbd (.int .i64 0)).setCell (p := ⟨w.heap.size + 1, 3, none⟩) hbd (.int .i64 0)).setCell (p := ⟨w.heap.size + 1, 4, none⟩) hbd (.int .i64 0)).setCell (p := ⟨w.heap.size + 1, 5, none⟩) hbd (.int .i64 0)).setCell (p := ⟨w.heap.size + 1, 6, none⟩) hbd (.int .i64 0)).setCell (p := ⟨w.heap.size + 1, 7, none⟩) hbd (.int .i64 0))
      clear BN BO HB C3 N1
      go_wp2_with (fail)
      generalize ((((((((w1).setCell ⟨w.heap.size + 1, 0, none⟩ (.string ⟨#[]⟩)).setCell ⟨w.heap.size + 1, 1, none⟩ (.slice none 0 0)).setCell ⟨w.heap.size + 1, 2, none⟩ (.int .i64 0)).setCell ⟨w.heap.size + 1, 3, none⟩ (.int .i64 0)).setCell ⟨w.heap.size + 1, 4, none⟩ (.int .i64 0)).setCell ⟨w.heap.size + 1, 5, none⟩ (.int .i64 0)).setCell ⟨w.heap.size + 1, 6, none⟩ (.int .i64 0)).setCell ⟨w.heap.size + 1, 7, none⟩ (.int .i64 0) = wz at BZ HZ ⊢
      clear c0 f0 c1 f1 c2 f2 c3 f3 c4 f4 c5 f5 c6 f6 c7 f7
      have x0 := BZ.out.c 0 (v := .string ⟨#[]⟩) rfl
      have x1 := BZ.out.c 1 (v := .slice none 0 0) rfl
      have x2 := BZ.out.c 2 (v := .int .i64 0) rfl
      have x3 := BZ.out.c 3 (v := .int .i64 0) rfl
      have x4 := BZ.out.c 4 (v := .int .i64 0) rfl
      have x5 := BZ.out.c 5 (v := .int .i64 0) rfl
      have x6 := BZ.out.c 6 (v := .int .i64 0) rfl
      have x7 := BZ.out.c 7 (v := .int .i64 0) rfl
      refine bodyPost_ret (v := .tuple #[.agg #[.string ⟨#[]⟩, .slice none 0 0, .int .i64 0, .int .i64 0, .int .i64 0, .int .i64 0, .int .i64 0, .int .i64 0], .bool false]) (by simp [results, Tryz.results10, go_sem, x0, x1, x2, x3, x4, x5, x6, x7]) rfl ?_
      exact DedP.of (a := none) (c := 0) rfl (own_nil _ _) HZ.out
    | true =>
      have HL1 := hidIt BO.out.lt
      have c0 := BN.out.c 0 (v := .slice e0 e1 e2) rfl
      have c1 := BN.out.c 1 (v := .slice t0 t1 t2) rfl
      have c2 := BN.out.c 2 (v := .int .i64 ph) rfl
      have c3 := BN.out.c 3 (v := .int .i64 mn) rfl
      have c4 := BN.out.c 4 (v := .int .i64 ol) rfl
      have c5 := BN.out.c 5 (v := .int .i64 nw) rfl
      have c6 := BN.out.c 6 (v := .int .i64 tm) rfl
      have c7 := BN.out.c 7 (v := .slice b0 b1 b2) rfl
      have c8 := BN.out.c 8 (v := .slice g0 g1 g2) rfl
      have c9 := BN.out.c 9 (v := .string ap) rfl
      have C4 := hidIt (C3.out rfl)
      clear C3 N1 C2
      go_wp2_with (fail)
      refine (C4.out _).mono ?_
      rintro en w2 ⟨xa, xc, rfl, o2, k⟩
      replace BO := hidIt (BO.out.kept k)
      have HB2 := hidIt (HB.out.trans (k.mono HB.out.size))
      have OK := hidIt o2
      clear k o2 c0 c1 c2 c3 c4 c5 c6 c7 c8 c9 BN C4
      obtain ⟨K1, K2, U, R1, R2, T⟩ := q
      generalize hnn : L.length = nn at *
      have HNN := hidIt hnn
      clear hnn
      have c0 := BO.out.c 0 (v := .string ⟨#[]⟩) rfl
      have c1 := BO.out.c 1 (v := .slice none 0 0) rfl
      have c2 := BO.out.c 2 (v := .int .i64 0) rfl
      have c3 := BO.out.c 3 (v := .int .i64 0) rfl
      have c4 := BO.out.c 4 (v := .int .i64 0) rfl
      have c5 := BO.out.c 5 (v := .int .i64 0) rfl
      have c6 := BO.out.c 6 (v := .int .i64 0) rfl
      have c7 := BO.out.c 7 (v := .int .i64 0) rfl
      have f0 := BO.out.fr 0
      have f1 := BO.out.fr 1
      have f2 := BO.out.fr 2
      have f3 := BO.out.fr 3
      have f4 := BO.out.fr 4
      have f5 := BO.out.fr 5
      have f6 := BO.out.fr 6
      have f7 := BO.out.fr 7
      have BZ := hidIt (((((((((BO.out).put (c' := #[.string z, .slice none 0 0, .int .i64 0, .int .i64 0, .int .i64 0, .int .i64 0, .int .i64 0, .int .i64 0]) 0 (.string z) (by simp) rfl).put (c' := #[.string z, .slice xa nn xc, .int .i64 0, .int .i64 0, .int .i64 0, .int .i64 0, .int .i64 0, .int .i64 0]) 1 (.slice xa nn xc) (by simp) rfl).put (c' := #[.string z, .slice xa nn xc, .int .i64 K1, .int .i64 0, .int .i64 0, .int .i64 0, .int .i64 0, .int .i64 0]) 2 (.int .i64 K1) (by simp) rfl).put (c' := #[.string z, .slice xa nn xc, .int .i64 K1, .int .i64 K2, .int .i64 0, .int .i64 0, .int .i64 0, .int .i64 0]) 3 (.int .i64 K2) (by simp) rfl).put (c' := #[.string z, .slice xa nn xc, .int .i64 K1, .int .i64 K2, .int .i64 U, .int .i64 0, .int .i64 0, .int .i64 0]) 4 (.int .i64 U) (by simp) rfl).put (c' := #[.string z, .slice xa nn xc, .int .i64 K1, .int .i64 K2, .int .i64 U, .int .i64 R1, .int .i64 0, .int .i64 0]) 5 (.int .i64 R1) (by simp) rfl).put (c' := #[.string z, .slice xa nn xc, .int .i64 K1, .int .i64 K2, .int .i64 U, .int .i64 R1, .int .i64 R2, .int .i64 0]) 6 (.int .i64 R2) (by simp) rfl).put (c' := #[.string z, .slice xa nn xc, .int .i64 K1, .int .i64 K2, .int .i64 U, .int .i64 R1, .int .i64 R2, .int .i64 T]) 7 (.int .i64 T) (by simp) rfl)
      have HZ := hidIt (((((((((HB2.out).setCell (p := ⟨w.heap.size + 1, 0, none⟩) hbd (.string z)).setCell (p := ⟨w.heap.size + 1, 1, none⟩) hbd (.slice xa nn xc)).setCell (p := ⟨w.heap.size + 1, 2, none⟩) hbd (.int .i64 K1)).setCell (p := ⟨w.heap.size + 1, 3, none⟩) hbd (.int .i64 K2)).setCell (p := ⟨w.heap.size + 1, 4, none⟩) hbd (.int .i64 U)).setCell (p := ⟨w.heap.size + 1, 5, none⟩) hbd (.int .i64 R1)).setCell (p := ⟨w.heap.size + 1, 6, none⟩) hbd (.int .i64 R2)).setCell (p := ⟨w.heap.size + 1, 7, none⟩) hbd (.int .i64 T))
      have O1 : Hid (Only (w.heap.size + 1) w2 (((((((((w2).setCell ⟨w.heap.size + 1, 0, none⟩ (.string z)).setCell ⟨w.heap.size + 1, 1, none⟩ (.slice xa nn xc)).setCell ⟨w.heap.size + 1, 2, none⟩ (.int .i64 K1)).setCell ⟨w.heap.size + 1, 3, none⟩ (.int .i64 K2)).setCell ⟨w.heap.size + 1, 4, none⟩ (.int .i64 U)).setCell ⟨w.heap.size + 1, 5, none⟩ (.int .i64 R1)).setCell ⟨w.heap.size + 1, 6, none⟩ (.int .i64 R2)).setCell ⟨w.heap.size + 1, 7, none⟩ (.int .i64 T))) := hidIt ((((((((((Only.refl (w.heap.size + 1) w2)).setCell 0 (.string z)).setCell 1 (.slice xa nn xc)).setCell 2 (.int .i64 K1)).setCell 3 (.int .i64 K2)).setCell 4 (.int .i64 U)).setCell 5 (.int .i64 R1)).setCell 6 (.int .i64 R2)).setCell 7 (.int .i64 T))
      go_wp2_with (fail)
      generalize ((((((((w2).setCell ⟨w.heap.size + 1, 0, none⟩ (.string z)).setCell ⟨w.heap.size + 1, 1, none⟩ (.slice xa nn xc)).setCell ⟨w.heap.size + 1, 2, none⟩ (.int .i64 K1)).setCell ⟨w.heap.size + 1, 3, none⟩ (.int .i64 K2)).setCell ⟨w.heap.size + 1, 4, none⟩ (.int .i64 U)).setCell ⟨w.heap.size + 1, 5, none⟩ (.int .i64 R1)).setCell ⟨w.heap.size + 1, 6, none⟩ (.int .i64 R2)).setCell ⟨w.heap.size + 1, 7, none⟩ (.int .i64 T) = wz at BZ HZ O1 ⊢
      clear c0 f0 c1 f1 c2 f2 c3 f3 c4 f4 c5 f5 c6 f6 c7 f7 BO
      have x0 := BZ.out.c 0 (v := .string z) rfl
      have x1 := BZ.out.c 1 (v := .slice xa nn xc) rfl
      have x2 := BZ.out.c 2 (v := .int .i64 K1) rfl
      have x3 := BZ.out.c 3 (v := .int .i64 K2) rfl
      have x4 := BZ.out.c 4 (v := .int .i64 U) rfl
      have x5 := BZ.out.c 5 (v := .int .i64 R1) rfl
      have x6 := BZ.out.c 6 (v := .int .i64 R2) rfl
      have x7 := BZ.out.c 7 (v := .int .i64 T) rfl
      have hb1 := HL1.out
      have oz : Pt.Own wz w1.heap.size (.slice xa nn xc) L := row_lowD OK.out hb1 O1.out
      have HOZ := hidIt (oz.mono (Nat.le_trans hbd (Nat.le_of_lt hb1)))
      clear oz
      refine bodyPost_ret (v := .tuple #[.agg #[.string z, .slice xa nn xc, .int .i64 K1, .int .i64 K2, .int .i64 U, .int .i64 R1, .int .i64 R2, .int .i64 T], .bool true]) (by simp [results, Tryz.results10, go_sem, x0, x1, x2, x3, x4, x5, x6, x7]) rfl ?_
      have e1 := HNN.out
      subst e1
      exact DedP.of (a := xa) (c := xc) rfl HOZ.out HZ.out
end Go.Proofs.YtllajhieocploaaGreatDoor.Nd
namespace Go.Proofs.YtllajhieocploaaGreatDoor.Nd
open Go.ChangeShapes Go.WideShapes Go.ChangeAt Go.RowKit
open Go.Proofs.YtllajhieocploaaGreatDoor.Vv (Sl sv hidIt)
set_option linter.unusedVariables false
set_option maxRecDepth 100000 in
set_option maxHeartbeats 16000000 in
theorem to_any (x : Nw) (e m b g : Sl) (w : World) (h : RdN w x e m b g) (hs : SmallN x) :
    Calls Tryz.prog 7 #[nv x e m b g] w fun en w' => NodP w x en w' := by
  have hE := h.e
  have hM := h.m
  obtain ⟨bk, mm, ph, mn, ol, nw, tm, bu, lg, ap⟩ := x
  obtain ⟨e0, e1, e2⟩ := e
  obtain ⟨t0, t1, t2⟩ := m
  obtain ⟨b0, b1, b2⟩ := b
  obtain ⟨g0, g1, g2⟩ := g
  obtain ⟨⟨z1, rE, nE, lE, cE⟩, ⟨z2, rM, nM, lM, cM⟩, ⟨z3, rB, nB, lB, cB⟩, ⟨z4, rG, lG, cG⟩⟩ := h
  simp only at z1 rE nE lE cE z2 rM nM lM cM z3 rB nB lB cB z4 rG lG cG
  obtain ⟨sE, sM, sB, sG, sA⟩ := hs
  simp only at sE sM sB sG sA hE hM
  have C1 := hidIt (fun W (k : Rp.RdE W (e0, e1, e2) bk) (k' : Rp.RdM W (t0, t1, t2) mm) => Rp.to_any (e0, e1, e2) (t0, t1, t2) (bk, mm) W k k' sE sM)
  have C2 := hidIt (fun W (k : Bu.Rd W b0 bu) => Bu.toS_any b0 b2 bu W k sB)
  have C3 := hidIt (fun W (k : Lg.Rd W g0 lg) => Lg.toLineS_any g0 g2 lg W k sG)
  have C4 := hidIt (fun W => Ro.toRoll_any ph mn ol nw tm W)
  have HE := hidIt hE
  have HM := hidIt hM
  have RB := hidIt rB
  have RG := hidIt rG
  clear hE hM rE rM rB rG sE sM sB sG sA
  subst z1 z2 z3 z4
  simp only [sv] at C1
  generalize bk.length = m1 at *
  generalize mm.length = m2 at *
  generalize bu.length = m3 at *
  generalize lg.length = m4 at *
  have BA : Hid (Bo.Box (((w.alloc (.cells #[.slice e0 m1 e2, .slice t0 m2 t2, .int .i64 ph, .int .i64 mn, .int .i64 ol, .int .i64 nw, .int .i64 tm, .slice b0 m3 b2, .slice g0 m4 g2, .string ap] 31)).alloc (.cells #[.slice none 0 0, .slice none 0 0, .int .i64 0, .int .i64 0, .int .i64 0, .int .i64 0, .int .i64 0, .slice none 0 0, .slice none 0 0, .string ⟨#[]⟩] 42)).alloc (.cells #[.slice none 0 0, .slice none 0 0, .int .i64 0, .int .i64 0, .int .i64 0, .int .i64 0, .int .i64 0, .slice none 0 0, .slice none 0 0, .string ⟨#[]⟩] 42)) w.heap.size #[.slice e0 m1 e2, .slice t0 m2 t2, .int .i64 ph, .int .i64 mn, .int .i64 ol, .int .i64 nw, .int .i64 tm, .slice b0 m3 b2, .slice g0 m4 g2, .string ap]) := hidIt (((Bo.Box.new w _ _).alloc _).alloc _)
  have BB : Hid (Bo.Box (((w.alloc (.cells #[.slice e0 m1 e2, .slice t0 m2 t2, .int .i64 ph, .int .i64 mn, .int .i64 ol, .int .i64 nw, .int .i64 tm, .slice b0 m3 b2, .slice g0 m4 g2, .string ap] 31)).alloc (.cells #[.slice none 0 0, .slice none 0 0, .int .i64 0, .int .i64 0, .int .i64 0, .int .i64 0, .int .i64 0, .slice none 0 0, .slice none 0 0, .string ⟨#[]⟩] 42)).alloc (.cells #[.slice none 0 0, .slice none 0 0, .int .i64 0, .int .i64 0, .int .i64 0, .int .i64 0, .int .i64 0, .slice none 0 0, .slice none 0 0, .string ⟨#[]⟩] 42)) (w.heap.size + 1) #[.slice none 0 0, .slice none 0 0, .int .i64 0, .int .i64 0, .int .i64 0, .int .i64 0, .int .i64 0, .slice none 0 0, .slice none 0 0, .string ⟨#[]⟩]) := hidIt ((Bo.Box.newAt (by simp)).alloc _)
  have BC : Hid (Bo.Box (((w.alloc (.cells #[.slice e0 m1 e2, .slice t0 m2 t2, .int .i64 ph, .int .i64 mn, .int .i64 ol, .int .i64 nw, .int .i64 tm, .slice b0 m3 b2, .slice g0 m4 g2, .string ap] 31)).alloc (.cells #[.slice none 0 0, .slice none 0 0, .int .i64 0, .int .i64 0, .int .i64 0, .int .i64 0, .int .i64 0, .slice none 0 0, .slice none 0 0, .string ⟨#[]⟩] 42)).alloc (.cells #[.slice none 0 0, .slice none 0 0, .int .i64 0, .int .i64 0, .int .i64 0, .int .i64 0, .int .i64 0, .slice none 0 0, .slice none 0 0, .string ⟨#[]⟩] 42)) (w.heap.size + 1 + 1) #[.slice none 0 0, .slice none 0 0, .int .i64 0, .int .i64 0, .int .i64 0, .int .i64 0, .int .i64 0, .slice none 0 0, .slice none 0 0, .string ⟨#[]⟩]) := hidIt (Bo.Box.newAt (by simp))
  have HB : Hid (Below w.heap.size w (((w.alloc (.cells #[.slice e0 m1 e2, .slice t0 m2 t2, .int .i64 ph, .int .i64 mn, .int .i64 ol, .int .i64 nw, .int .i64 tm, .slice b0 m3 b2, .slice g0 m4 g2, .string ap] 31)).alloc (.cells #[.slice none 0 0, .slice none 0 0, .int .i64 0, .int .i64 0, .int .i64 0, .int .i64 0, .int .i64 0, .slice none 0 0, .slice none 0 0, .string ⟨#[]⟩] 42)).alloc (.cells #[.slice none 0 0, .slice none 0 0, .int .i64 0, .int .i64 0, .int .i64 0, .int .i64 0, .int .i64 0, .slice none 0 0, .slice none 0 0, .string ⟨#[]⟩] 42))) := hidIt ((((Below.refl w.heap.size w).alloc (Nat.le_refl _) _).alloc (by simp) _).alloc (by simp; omega) _)
  have hw3 : (((w.alloc (.cells #[.slice e0 m1 e2, .slice t0 m2 t2, .int .i64 ph, .int .i64 mn, .int .i64 ol, .int .i64 nw, .int .i64 tm, .slice b0 m3 b2, .slice g0 m4 g2, .string ap] 31)).alloc (.cells #[.slice none 0 0, .slice none 0 0, .int .i64 0, .int .i64 0, .int .i64 0, .int .i64 0, .int .i64 0, .slice none 0 0, .slice none 0 0, .string ⟨#[]⟩] 42)).alloc (.cells #[.slice none 0 0, .slice none 0 0, .int .i64 0, .int .i64 0, .int .i64 0, .int .i64 0, .int .i64 0, .slice none 0 0, .slice none 0 0, .string ⟨#[]⟩] 42)).heap.size = w.heap.size + 1 + 1 + 1 := by simp
  have a0 := BA.out.c 0 (v := .slice e0 m1 e2) rfl
  have a1 := BA.out.c 1 (v := .slice t0 m2 t2) rfl
  simp only [nv, nc, sv]
  go_enter Tryz.func7, Tryz.ntmps7
  go_wp2_with (fail)
  generalize (((w.alloc (.cells #[.slice e0 m1 e2, .slice t0 m2 t2, .int .i64 ph, .int .i64 mn, .int .i64 ol, .int .i64 nw, .int .i64 tm, .slice b0 m3 b2, .slice g0 m4 g2, .string ap] 31)).alloc (.cells #[.slice none 0 0, .slice none 0 0, .int .i64 0, .int .i64 0, .int .i64 0, .int .i64 0, .int .i64 0, .slice none 0 0, .slice none 0 0, .string ⟨#[]⟩] 42)).alloc (.cells #[.slice none 0 0, .slice none 0 0, .int .i64 0, .int .i64 0, .int .i64 0, .int .i64 0, .int .i64 0, .slice none 0 0, .slice none 0 0, .string ⟨#[]⟩] 42)) = W0 at BA BB BC HB hw3 a0 a1 ⊢
  have ne20 : w.heap.size + 1 + 1 ≠ w.heap.size := by omega
  have ne21 : w.heap.size + 1 + 1 ≠ w.heap.size + 1 := by omega
  have ne12 : w.heap.size + 1 ≠ w.heap.size + 1 + 1 := by omega
  have hle : w.heap.size ≤ w.heap.size + 1 + 1 := by omega
  have hle1 : w.heap.size ≤ w.heap.size + 1 := by omega
  have hn2 : w.heap.size + 1 + 1 < w.heap.size + 1 + 1 + 1 := by omega
  have hn1 : w.heap.size + 1 < w.heap.size + 1 + 1 + 1 := by omega
  have hn3 : w.heap.size ≤ w.heap.size + 1 + 1 + 1 := by omega
  have hb3 : w.heap.size + 1 + 1 + 1 ≤ W0.heap.size := by omega
  have hsz1 : ∀ k, w.heap.size + 1 + 1 < k → w.heap.size + 1 + 1 + 1 ≤ k := fun k h => h
  clear hw3
  generalize w.heap.size + 1 + 1 + 1 = n3 at *
  generalize w.heap.size + 1 + 1 = n2 at *
  generalize w.heap.size + 1 = n1 at *
  refine (C1.out _ (HE.out.kept HB.out) (HM.out.kept HB.out)).mono ?_
  intro en w1 hz
  obtain ⟨⟨x0, x1, x2⟩, ⟨y0, y1, y2⟩, rfl, oE, oM, k⟩ := hz.out
  have OE : Hid (En.Own w1 n3 (.slice x0 x1 x2) bk) := hidIt (oE.mono hb3)
  have OM : Hid (Mm.Own w1 n3 (.slice y0 y1 y2) mm) := hidIt (oM.mono hb3)
  have hb4 : n3 ≤ w1.heap.size := Nat.le_trans hb3 k.size
  have BC1 := hidIt (BC.out.kept k)
  have BB1 := hidIt (BB.out.kept k)
  have BA1 := hidIt (BA.out.kept k)
  have HB1 := hidIt (on HB.out k)
  clear BC BB BA HB
  have BC := BC1
  have BB := BB1
  have BA := BA1
  have HB := HB1
  clear BC1 BB1 BA1 HB1
  clear k oE oM hz a0 a1 C1
  have f0 := BC.out.fr 0
  have f1 := BC.out.fr 1
  have c0 := BC.out.c 0 (v := .slice none 0 0) rfl
  have c1 := BC.out.c 1 (v := .slice none 0 0) rfl
  have BC2 := hidIt (((BC.out).put (c' := #[.slice x0 x1 x2, .slice none 0 0, .int .i64 0, .int .i64 0, .int .i64 0, .int .i64 0, .int .i64 0, .slice none 0 0, .slice none 0 0, .string ⟨#[]⟩]) 0 (.slice x0 x1 x2) (by simp) rfl).put (c' := #[.slice x0 x1 x2, .slice y0 y1 y2, .int .i64 0, .int .i64 0, .int .i64 0, .int .i64 0, .int .i64 0, .slice none 0 0, .slice none 0 0, .string ⟨#[]⟩]) 1 (.slice y0 y1 y2) (by simp) rfl)
  have BB2 := hidIt (((BB.out).other (v := .slice x0 x1 x2) (i := 0) ne21).other (v := .slice y0 y1 y2) (i := 1) ne21)
  have BA2 := hidIt (((BA.out).other (v := .slice x0 x1 x2) (i := 0) ne20).other (v := .slice y0 y1 y2) (i := 1) ne20)
  have HB2 := hidIt (((HB.out).setCell (p := ⟨n2, 0, none⟩) hle (.slice x0 x1 x2)).setCell (p := ⟨n2, 1, none⟩) hle (.slice y0 y1 y2))
  have Y1 := hidIt ((((Only.refl n2 w1)).setCell 0 (.slice x0 x1 x2)).setCell 1 (.slice y0 y1 y2))
  have OE2 := hidIt (OE.out.only Y1.out (.inl hn2))
  have OM2 := hidIt (OM.out.only Y1.out (.inl hn2))
  have a2 := BA2.out.c 2 (v := .int .i64 ph) rfl
  have a3 := BA2.out.c 3 (v := .int .i64 mn) rfl
  have a4 := BA2.out.c 4 (v := .int .i64 ol) rfl
  have a5 := BA2.out.c 5 (v := .int .i64 nw) rfl
  have a6 := BA2.out.c 6 (v := .int .i64 tm) rfl
  clear BC BB BA HB Y1 OE OM
  go_wp2_with (fail)
  generalize ((w1).setCell ⟨n2, 0, none⟩ (.slice x0 x1 x2)).setCell ⟨n2, 1, none⟩ (.slice y0 y1 y2) = wa at BC2 BB2 BA2 HB2 OE2 OM2 a2 a3 a4 a5 a6 ⊢
  clear f0 c0 f1 c1 a2 a3 a4 a5 a6
  have BC := BC2
  have BB := BB2
  have BA := BA2
  have HB := HB2
  have OE := OE2
  have OM := OM2
  clear BC2 BB2 BA2 HB2 OE2 OM2
  refine (C4.out _).mono ?_
  rintro en w2 ⟨rfl, k⟩
  have BC1 := hidIt (BC.out.kept k)
  have BB1 := hidIt (BB.out.kept k)
  have BA1 := hidIt (BA.out.kept k)
  have HB1 := hidIt (on HB.out k)
  have OE1 := hidIt (OE.out.kept k)
  have OM1 := hidIt (OM.out.kept k)
  clear BC BB BA HB OE OM
  have BC := BC1
  have BB := BB1
  have BA := BA1
  have HB := HB1
  have OE := OE1
  have OM := OM1
  clear BC1 BB1 BA1 HB1 OE1 OM1
  clear k C4
  have f2 := BC.out.fr 2
  have f3 := BC.out.fr 3
  have f4 := BC.out.fr 4
  have f5 := BC.out.fr 5
  have f6 := BC.out.fr 6
  have c2 := BC.out.c 2 (v := .int .i64 0) rfl
  have c3 := BC.out.c 3 (v := .int .i64 0) rfl
  have c4 := BC.out.c 4 (v := .int .i64 0) rfl
  have c5 := BC.out.c 5 (v := .int .i64 0) rfl
  have c6 := BC.out.c 6 (v := .int .i64 0) rfl
  have BC2 := hidIt ((((((BC.out).put (c' := #[.slice x0 x1 x2, .slice y0 y1 y2, .int .i64 ph, .int .i64 0, .int .i64 0, .int .i64 0, .int .i64 0, .slice none 0 0, .slice none 0 0, .string ⟨#[]⟩]) 2 (.int .i64 ph) (by simp) rfl).put (c' := #[.slice x0 x1 x2, .slice y0 y1 y2, .int .i64 ph, .int .i64 mn, .int .i64 0, .int .i64 0, .int .i64 0, .slice none 0 0, .slice none 0 0, .string ⟨#[]⟩]) 3 (.int .i64 mn) (by simp) rfl).put (c' := #[.slice x0 x1 x2, .slice y0 y1 y2, .int .i64 ph, .int .i64 mn, .int .i64 ol, .int .i64 0, .int .i64 0, .slice none 0 0, .slice none 0 0, .string ⟨#[]⟩]) 4 (.int .i64 ol) (by simp) rfl).put (c' := #[.slice x0 x1 x2, .slice y0 y1 y2, .int .i64 ph, .int .i64 mn, .int .i64 ol, .int .i64 nw, .int .i64 0, .slice none 0 0, .slice none 0 0, .string ⟨#[]⟩]) 5 (.int .i64 nw) (by simp) rfl).put (c' := #[.slice x0 x1 x2, .slice y0 y1 y2, .int .i64 ph, .int .i64 mn, .int .i64 ol, .int .i64 nw, .int .i64 tm, .slice none 0 0, .slice none 0 0, .string ⟨#[]⟩]) 6 (.int .i64 tm) (by simp) rfl)
  have BB2 := hidIt ((((((BB.out).other (v := .int .i64 ph) (i := 2) ne21).other (v := .int .i64 mn) (i := 3) ne21).other (v := .int .i64 ol) (i := 4) ne21).other (v := .int .i64 nw) (i := 5) ne21).other (v := .int .i64 tm) (i := 6) ne21)
  have BA2 := hidIt ((((((BA.out).other (v := .int .i64 ph) (i := 2) ne20).other (v := .int .i64 mn) (i := 3) ne20).other (v := .int .i64 ol) (i := 4) ne20).other (v := .int .i64 nw) (i := 5) ne20).other (v := .int .i64 tm) (i := 6) ne20)
  have HB2 := hidIt ((((((HB.out).setCell (p := ⟨n2, 2, none⟩) hle (.int .i64 ph)).setCell (p := ⟨n2, 3, none⟩) hle (.int .i64 mn)).setCell (p := ⟨n2, 4, none⟩) hle (.int .i64 ol)).setCell (p := ⟨n2, 5, none⟩) hle (.int .i64 nw)).setCell (p := ⟨n2, 6, none⟩) hle (.int .i64 tm))
  have Y1 := hidIt (((((((Only.refl n2 w2)).setCell 2 (.int .i64 ph)).setCell 3 (.int .i64 mn)).setCell 4 (.int .i64 ol)).setCell 5 (.int .i64 nw)).setCell 6 (.int .i64 tm))
  have OE2 := hidIt (OE.out.only Y1.out (.inl hn2))
  have OM2 := hidIt (OM.out.only Y1.out (.inl hn2))
  have a7 := BA2.out.c 7 (v := .slice b0 m3 b2) rfl
  clear BC BB BA HB Y1 OE OM
  go_wp2_with (fail)
  generalize (((((w2).setCell ⟨n2, 2, none⟩ (.int .i64 ph)).setCell ⟨n2, 3, none⟩ (.int .i64 mn)).setCell ⟨n2, 4, none⟩ (.int .i64 ol)).setCell ⟨n2, 5, none⟩ (.int .i64 nw)).setCell ⟨n2, 6, none⟩ (.int .i64 tm) = wb at BC2 BB2 BA2 HB2 OE2 OM2 a7 ⊢
  clear f2 c2 f3 c3 f4 c4 f5 c5 f6 c6 a7
  have BC := BC2
  have BB := BB2
  have BA := BA2
  have HB := HB2
  have OE := OE2
  have OM := OM2
  clear BC2 BB2 BA2 HB2 OE2 OM2
  refine (C2.out _ (RB.out.kept HB.out)).mono ?_
  rintro en w3 ⟨vB, rfl, oB, k⟩
  obtain ⟨⟨u0, u1, u2⟩, rfl⟩ := slB oB
  have OB : Hid (Bu.Own w3 n3 (.slice u0 u1 u2) bu) := hidIt (oB.mono (hsz1 _ BC.out.lt))
  have BC1 := hidIt (BC.out.kept k)
  have BB1 := hidIt (BB.out.kept k)
  have BA1 := hidIt (BA.out.kept k)
  have HB1 := hidIt (on HB.out k)
  have OE1 := hidIt (OE.out.kept k)
  have OM1 := hidIt (OM.out.kept k)
  clear BC BB BA HB OE OM
  have BC := BC1
  have BB := BB1
  have BA := BA1
  have HB := HB1
  have OE := OE1
  have OM := OM1
  clear BC1 BB1 BA1 HB1 OE1 OM1
  clear k C2 oB
  have f7 := BC.out.fr 7
  have c7 := BC.out.c 7 (v := .slice none 0 0) rfl
  have BC2 := hidIt ((BC.out).put (c' := #[.slice x0 x1 x2, .slice y0 y1 y2, .int .i64 ph, .int .i64 mn, .int .i64 ol, .int .i64 nw, .int .i64 tm, .slice u0 u1 u2, .slice none 0 0, .string ⟨#[]⟩]) 7 (.slice u0 u1 u2) (by simp) rfl)
  have BB2 := hidIt ((BB.out).other (v := .slice u0 u1 u2) (i := 7) ne21)
  have BA2 := hidIt ((BA.out).other (v := .slice u0 u1 u2) (i := 7) ne20)
  have HB2 := hidIt ((HB.out).setCell (p := ⟨n2, 7, none⟩) hle (.slice u0 u1 u2))
  have Y1 := hidIt (((Only.refl n2 w3)).setCell 7 (.slice u0 u1 u2))
  have OE2 := hidIt (OE.out.only Y1.out (.inl hn2))
  have OM2 := hidIt (OM.out.only Y1.out (.inl hn2))
  have OB2 := hidIt (OB.out.only Y1.out (.inl hn2))
  have a8 := BA2.out.c 8 (v := .slice g0 m4 g2) rfl
  clear BC BB BA HB Y1 OE OM OB
  go_wp2_with (fail)
  generalize (w3).setCell ⟨n2, 7, none⟩ (.slice u0 u1 u2) = wc at BC2 BB2 BA2 HB2 OE2 OM2 OB2 a8 ⊢
  clear f7 c7 a8
  have BC := BC2
  have BB := BB2
  have BA := BA2
  have HB := HB2
  have OE := OE2
  have OM := OM2
  have OB := OB2
  clear BC2 BB2 BA2 HB2 OE2 OM2 OB2
  refine (C3.out _ (RG.out.kept HB.out)).mono ?_
  rintro en w4 ⟨vG, rfl, oG, k⟩
  obtain ⟨⟨v0, v1, v2⟩, rfl⟩ := slG oG
  have OG : Hid (Lg.Own w4 n3 (.slice v0 v1 v2) lg) := hidIt (oG.mono (hsz1 _ BC.out.lt))
  have BC1 := hidIt (BC.out.kept k)
  have BB1 := hidIt (BB.out.kept k)
  have BA1 := hidIt (BA.out.kept k)
  have HB1 := hidIt (on HB.out k)
  have OE1 := hidIt (OE.out.kept k)
  have OM1 := hidIt (OM.out.kept k)
  have OB1 := hidIt (OB.out.kept k)
  clear BC BB BA HB OE OM OB
  have BC := BC1
  have BB := BB1
  have BA := BA1
  have HB := HB1
  have OE := OE1
  have OM := OM1
  have OB := OB1
  clear BC1 BB1 BA1 HB1 OE1 OM1 OB1
  clear k C3 oG
  have a9 := BA.out.c 9 (v := .string ap) rfl
  have c0 := BC.out.c 0 (v := .slice x0 x1 x2) rfl
  have c1 := BC.out.c 1 (v := .slice y0 y1 y2) rfl
  have c2 := BC.out.c 2 (v := .int .i64 ph) rfl
  have c3 := BC.out.c 3 (v := .int .i64 mn) rfl
  have c4 := BC.out.c 4 (v := .int .i64 ol) rfl
  have c5 := BC.out.c 5 (v := .int .i64 nw) rfl
  have c6 := BC.out.c 6 (v := .int .i64 tm) rfl
  have c7 := BC.out.c 7 (v := .slice u0 u1 u2) rfl
  have c8 := BC.out.c 8 (v := .slice none 0 0) rfl
  have c9 := BC.out.c 9 (v := .string ⟨#[]⟩) rfl
  have f8 := BC.out.fr 8
  have f9 := BC.out.fr 9
  have b0 := BB.out.c 0 (v := .slice none 0 0) rfl
  have b1 := BB.out.c 1 (v := .slice none 0 0) rfl
  have b2 := BB.out.c 2 (v := .int .i64 0) rfl
  have b3 := BB.out.c 3 (v := .int .i64 0) rfl
  have b4 := BB.out.c 4 (v := .int .i64 0) rfl
  have b5 := BB.out.c 5 (v := .int .i64 0) rfl
  have b6 := BB.out.c 6 (v := .int .i64 0) rfl
  have b7 := BB.out.c 7 (v := .slice none 0 0) rfl
  have b8 := BB.out.c 8 (v := .slice none 0 0) rfl
  have b9 := BB.out.c 9 (v := .string ⟨#[]⟩) rfl
  have g0z := BB.out.fr 0
  have g1z := BB.out.fr 1
  have g2z := BB.out.fr 2
  have g3z := BB.out.fr 3
  have g4z := BB.out.fr 4
  have g5z := BB.out.fr 5
  have g6z := BB.out.fr 6
  have g7z := BB.out.fr 7
  have g8z := BB.out.fr 8
  have g9z := BB.out.fr 9
  have Y1 := hidIt ((((Only.refl n2 w4)).setCell 8 (.slice v0 v1 v2)).setCell 9 (.string ap))
  have Y2 := hidIt ((((((((((((Only.refl n1 (((w4).setCell ⟨n2, 8, none⟩ (.slice v0 v1 v2)).setCell ⟨n2, 9, none⟩ (.string ap)))).setCell 0 (.slice x0 x1 x2)).setCell 1 (.slice y0 y1 y2)).setCell 2 (.int .i64 ph)).setCell 3 (.int .i64 mn)).setCell 4 (.int .i64 ol)).setCell 5 (.int .i64 nw)).setCell 6 (.int .i64 tm)).setCell 7 (.slice u0 u1 u2)).setCell 8 (.slice v0 v1 v2)).setCell 9 (.string ap))
  have PE := hidIt (((OE.out.only Y1.out (.inl hn2)).only Y2.out (.inl hn1)).mono hn3)
  have PM := hidIt (((OM.out.only Y1.out (.inl hn2)).only Y2.out (.inl hn1)).mono hn3)
  have PB := hidIt (((OB.out.only Y1.out (.inl hn2)).only Y2.out (.inl hn1)).mono hn3)
  have PG := hidIt (((OG.out.only Y1.out (.inl hn2)).only Y2.out (.inl hn1)).mono hn3)
  have HBz := hidIt (((((((((((((HB.out).setCell (p := ⟨n2, 8, none⟩) hle (.slice v0 v1 v2)).setCell (p := ⟨n2, 9, none⟩) hle (.string ap)).setCell (p := ⟨n1, 0, none⟩) hle1 (.slice x0 x1 x2)).setCell (p := ⟨n1, 1, none⟩) hle1 (.slice y0 y1 y2)).setCell (p := ⟨n1, 2, none⟩) hle1 (.int .i64 ph)).setCell (p := ⟨n1, 3, none⟩) hle1 (.int .i64 mn)).setCell (p := ⟨n1, 4, none⟩) hle1 (.int .i64 ol)).setCell (p := ⟨n1, 5, none⟩) hle1 (.int .i64 nw)).setCell (p := ⟨n1, 6, none⟩) hle1 (.int .i64 tm)).setCell (p := ⟨n1, 7, none⟩) hle1 (.slice u0 u1 u2)).setCell (p := ⟨n1, 8, none⟩) hle1 (.slice v0 v1 v2)).setCell (p := ⟨n1, 9, none⟩) hle1 (.string ap))
  have RZ := hidIt ((((((((((((((BB.out).other (v := .slice v0 v1 v2) (i := 8) ne21).other (v := .string ap) (i := 9) ne21)).put (c' := #[.slice x0 x1 x2, .slice none 0 0, .int .i64 0, .int .i64 0, .int .i64 0, .int .i64 0, .int .i64 0, .slice none 0 0, .slice none 0 0, .string ⟨#[]⟩]) 0 (.slice x0 x1 x2) (by simp) rfl).put (c' := #[.slice x0 x1 x2, .slice y0 y1 y2, .int .i64 0, .int .i64 0, .int .i64 0, .int .i64 0, .int .i64 0, .slice none 0 0, .slice none 0 0, .string ⟨#[]⟩]) 1 (.slice y0 y1 y2) (by simp) rfl).put (c' := #[.slice x0 x1 x2, .slice y0 y1 y2, .int .i64 ph, .int .i64 0, .int .i64 0, .int .i64 0, .int .i64 0, .slice none 0 0, .slice none 0 0, .string ⟨#[]⟩]) 2 (.int .i64 ph) (by simp) rfl).put (c' := #[.slice x0 x1 x2, .slice y0 y1 y2, .int .i64 ph, .int .i64 mn, .int .i64 0, .int .i64 0, .int .i64 0, .slice none 0 0, .slice none 0 0, .string ⟨#[]⟩]) 3 (.int .i64 mn) (by simp) rfl).put (c' := #[.slice x0 x1 x2, .slice y0 y1 y2, .int .i64 ph, .int .i64 mn, .int .i64 ol, .int .i64 0, .int .i64 0, .slice none 0 0, .slice none 0 0, .string ⟨#[]⟩]) 4 (.int .i64 ol) (by simp) rfl).put (c' := #[.slice x0 x1 x2, .slice y0 y1 y2, .int .i64 ph, .int .i64 mn, .int .i64 ol, .int .i64 nw, .int .i64 0, .slice none 0 0, .slice none 0 0, .string ⟨#[]⟩]) 5 (.int .i64 nw) (by simp) rfl).put (c' := #[.slice x0 x1 x2, .slice y0 y1 y2, .int .i64 ph, .int .i64 mn, .int .i64 ol, .int .i64 nw, .int .i64 tm, .slice none 0 0, .slice none 0 0, .string ⟨#[]⟩]) 6 (.int .i64 tm) (by simp) rfl).put (c' := #[.slice x0 x1 x2, .slice y0 y1 y2, .int .i64 ph, .int .i64 mn, .int .i64 ol, .int .i64 nw, .int .i64 tm, .slice u0 u1 u2, .slice none 0 0, .string ⟨#[]⟩]) 7 (.slice u0 u1 u2) (by simp) rfl).put (c' := #[.slice x0 x1 x2, .slice y0 y1 y2, .int .i64 ph, .int .i64 mn, .int .i64 ol, .int .i64 nw, .int .i64 tm, .slice u0 u1 u2, .slice v0 v1 v2, .string ⟨#[]⟩]) 8 (.slice v0 v1 v2) (by simp) rfl).put (c' := #[.slice x0 x1 x2, .slice y0 y1 y2, .int .i64 ph, .int .i64 mn, .int .i64 ol, .int .i64 nw, .int .i64 tm, .slice u0 u1 u2, .slice v0 v1 v2, .string ap]) 9 (.string ap) (by simp) rfl)
  clear Y1 Y2 BC BB BA HB OE OM OB OG
  go_wp2_with (fail)
  generalize ((((((((((((w4).setCell ⟨n2, 8, none⟩ (.slice v0 v1 v2)).setCell ⟨n2, 9, none⟩ (.string ap)).setCell ⟨n1, 0, none⟩ (.slice x0 x1 x2)).setCell ⟨n1, 1, none⟩ (.slice y0 y1 y2)).setCell ⟨n1, 2, none⟩ (.int .i64 ph)).setCell ⟨n1, 3, none⟩ (.int .i64 mn)).setCell ⟨n1, 4, none⟩ (.int .i64 ol)).setCell ⟨n1, 5, none⟩ (.int .i64 nw)).setCell ⟨n1, 6, none⟩ (.int .i64 tm)).setCell ⟨n1, 7, none⟩ (.slice u0 u1 u2)).setCell ⟨n1, 8, none⟩ (.slice v0 v1 v2)).setCell ⟨n1, 9, none⟩ (.string ap) = wz at PE PM PB PG HBz RZ ⊢
  clear c0 b0 g0z c1 b1 g1z c2 b2 g2z c3 b3 g3z c4 b4 g4z c5 b5 g5z c6 b6 g6z c7 b7 g7z c8 b8 g8z c9 b9 g9z f8 f9 a9
  have q0 := RZ.out.c 0 (v := .slice x0 x1 x2) rfl
  have q1 := RZ.out.c 1 (v := .slice y0 y1 y2) rfl
  have q2 := RZ.out.c 2 (v := .int .i64 ph) rfl
  have q3 := RZ.out.c 3 (v := .int .i64 mn) rfl
  have q4 := RZ.out.c 4 (v := .int .i64 ol) rfl
  have q5 := RZ.out.c 5 (v := .int .i64 nw) rfl
  have q6 := RZ.out.c 6 (v := .int .i64 tm) rfl
  have q7 := RZ.out.c 7 (v := .slice u0 u1 u2) rfl
  have q8 := RZ.out.c 8 (v := .slice v0 v1 v2) rfl
  have q9 := RZ.out.c 9 (v := .string ap) rfl
  refine bodyPost_end (v := .agg #[.slice x0 x1 x2, .slice y0 y1 y2, .int .i64 ph, .int .i64 mn, .int .i64 ol, .int .i64 nw, .int .i64 tm, .slice u0 u1 u2, .slice v0 v1 v2, .string ap]) (by simp [results, Tryz.results7, go_sem, q0, q1, q2, q3, q4, q5, q6, q7, q8, q9]) rfl ?_
  exact NodP.of (e := (x0, x1, x2)) (m := (y0, y1, y2)) (b := (u0, u1, u2)) (g := (v0, v1, v2)) rfl ⟨PE.out, PM.out, PB.out, PG.out⟩ HBz.out
end Go.Proofs.YtllajhieocploaaGreatDoor.Nd
namespace Go.Proofs.YtllajhieocploaaGreatDoor.Rp
open Go.ChangeShapes Go.WideShapes Go.ChangeAt Go.RowKit
open Go.Proofs.YtllajhieocploaaGreatDoor.Vv (Sl sv hidIt)
set_option linter.unusedVariables false
set_option maxRecDepth 100000 in
set_option maxHeartbeats 4000000 in
theorem impl_replicaOk (s t : Sl) (r : Rep) (w : World) (hE : RdE w s r.1) (hM : RdM w t r.2) (hs : En.shortR r.1) (h1 : r.1.length ≤ 9223372036854775807) (h2 : r.2.length ≤ 9223372036854775807) :
    Calls Tryz.prog 29 #[.agg #[sv s, sv t]] w fun e w' => e = .returned (.bool (okR r)) ∧ Below w.heap.size w w' := by
  obtain ⟨s0, s1, s2⟩ := s
  obtain ⟨t0, t1, t2⟩ := t
  obtain ⟨e1, r1, _, _, _⟩ := hE
  obtain ⟨e2, r2, _, _, _⟩ := hM
  simp only at e1 r1 e2 r2
  have C1 := hidIt (fun W (k : En.Rd W s0 r.1) => En.impl_BookOk s0 s2 r.1 W k h1 hs)
  have C2 := hidIt (fun W (k : Mm.Rd W t0 r.2) => Mm.impl_MembersOk t0 t2 r.2 W k h2)
  rw [← e1] at C1
  rw [← e2] at C2
  have HOK : Hid (okR r = (Bk.okBk (En.toB r.1) && Mk.okBk (Mm.toB r.2))) := hidIt rfl
  generalize Bk.okBk (En.toB r.1) = k1 at C1 HOK
  generalize Mk.okBk (Mm.toB r.2) = k2 at C2 HOK
  generalize okR r = k at HOK ⊢
  have HB := hidIt ((Below.refl w.heap.size w).alloc (Nat.le_refl _) (.cells #[.slice s0 s1 s2, .slice t0 t1 t2] 37))
  have H1 := hidIt (r1.kept HB.out)
  have H2 := hidIt (r2.kept HB.out)
  have BX := hidIt (Bo.Box.new w #[.slice s0 s1 s2, .slice t0 t1 t2] 37)
  clear r1 r2 e1 e2 hs
  simp only [sv]
  cases k1 with
  | false =>
    have er := HOK.out
    simp only [Bool.false_and] at er
    subst er
    go_enter Tryz.func29, Tryz.ntmps29
    go_wp2_with (fail)
    refine (C1.out _ H1.out).mono ?_
    rintro e w1 ⟨rfl, k⟩
    have HB1 := hidIt (on HB.out k)
    clear k
    go_wp2_with (fail)
    go_ret
    exact ⟨rfl, HB1.out⟩
  | true =>
    have er := HOK.out
    simp only [Bool.true_and] at er
    subst er
    go_enter Tryz.func29, Tryz.ntmps29
    go_wp2_with (fail)
    refine (C1.out _ H1.out).mono ?_
    rintro e w1 ⟨rfl, k1⟩
    have HB1 := hidIt (on HB.out k1)
    have BX1 := hidIt (BX.out.kept k1)
    have c1 := BX1.out.c 1 rfl
    have H3 := hidIt (H2.out.kept k1)
    clear k1
    go_wp2_with (fail)
    refine (C2.out _ H3.out).mono ?_
    rintro e w2 ⟨rfl, k2⟩
    have HB2 := hidIt (on HB1.out k2)
    clear k2
    go_wp2_with (fail)
    go_ret
    exact ⟨rfl, HB2.out⟩
end Go.Proofs.YtllajhieocploaaGreatDoor.Rp
