/-
  szNode and eqNode of the laws. (Written by wip/mkNod.py.)
  A Node that came in. (Written by wip/mkNod.py.)
  NodeOk of the specification. (Written by wip/mkNod.py.)
  toNode of the laws: a copy of a Node. (Written by wip/mkNod.py.)
  A list of Nodes as it lies in memory: ten cells each, four of them slices; one that is read, one of the call's own. (Written by wip/mkNs.py.)
-/
import Derived.Test.YtceddedlfdgbhaaGreatDoorBun12
import Derived.Test.YtceddedlfdgbhaaGreatDoorBun3
import Derived.Test.YtceddedlfdgbhaaGreatDoorBun1
import Derived.Test.YtceddedlfdgbhaaGreatDoorBoxM
import Derived.OpenShut
import Derived.Test.YtceddedlfdgbhaaGreatDoorBun4
import Derived.Test.YtceddedlfdgbhaaGreatDoorBun9
import Derived.Test.YtceddedlfdgbhaaGreatDoorLogK
import Derived.Test.YtceddedlfdgbhaaGreatDoorNameT
import Derived.Test.YtceddedlfdgbhaaGreatDoorBun10
namespace Go.Proofs.YtceddedlfdgbhaaGreatDoor.Nd
open Go.ChangeShapes Go.WideShapes Go.ChangeAt Go.RowKit
open Go.Proofs.YtceddedlfdgbhaaGreatDoor.Vv (Sl sv hidIt)
set_option linter.unusedVariables false
theorem on {W a b : World} (h : Below W.heap.size W a) (k : Below a.heap.size a b) : Below W.heap.size W b := h.trans (k.mono h.size)
set_option maxRecDepth 100000 in
set_option maxHeartbeats 8000000 in
theorem sz_any (x : Nw) (e m b g : Sl) (l : Int) (w : World) (h : RdN w x e m b g) (hs : ShortN x) (h0 : 0 ≤ l) (h1 : l ≤ 1048576) :
    Calls Tryz.prog 18 #[nv x e m b g, .int .i64 l] w fun en w' => ∃ q : Int, en = .returned (.int .i64 q) ∧ Le3 x q l ∧ Below w.heap.size w w' := by
  have hE := h.e
  have hM := h.m
  obtain ⟨bk, mm, ph, mn, ol, nw, tm, bu, lg, ap⟩ := x
  obtain ⟨e0, e1, e2⟩ := e
  obtain ⟨t0, t1, t2⟩ := m
  obtain ⟨b0, b1, b2⟩ := b
  obtain ⟨g0, g1, g2⟩ := g
  obtain ⟨⟨z1, rE, nE, lE, cE⟩, ⟨z2, rM, nM, lM, cM⟩, ⟨z3, rB, nB, lB, cB⟩, ⟨z4, rG, lG, cG⟩⟩ := h
  simp only at z1 rE nE lE cE z2 rM nM lM cM z3 rB nB lB cB z4 rG lG cG
  obtain ⟨sE, sG, sA⟩ := hs
  simp only at sE sG sA hE hM
  have C1 := hidIt (fun W (k : Rp.RdE W (e0, e1, e2) bk) (k' : Rp.RdM W (t0, t1, t2) mm) => Rp.sz_any (e0, e1, e2) (t0, t1, t2) (bk, mm) l W k k' sE h0 h1)
  have C2 := hidIt (fun l' W (k : Bu.Rd W b0 bu) => Bu.szS_any b0 b2 bu l' W k (by omega))
  have C3 := hidIt (fun l' W (k : Lg.Rd W g0 lg) => Lg.szLineS_any g0 g2 lg l' W k (by omega) sG)
  have HE := hidIt hE
  have HM := hidIt hM
  have RB := hidIt rB
  have RG := hidIt rG
  have MK : Hid (∀ q : Int, q ≤ l → (0 ≤ q → bk.length + mm.length ≤ 1048576 ∧ bu.length ≤ 1048576 ∧ lg.length ≤ 1048576 ∧ ap.size ≤ 1048576) → Le3 ⟨bk, mm, ph, mn, ol, nw, tm, bu, lg, ap⟩ q l) := hidIt (fun q a c => ⟨a, fun z => by obtain ⟨i1, i2, i3, i4⟩ := c z; exact ⟨by show bk.length ≤ _; omega, by show mm.length ≤ _; omega, i2, i3, i4⟩⟩)
  have hbulk : Rp.bulk1 (bk, mm) = bk.length + mm.length := rfl
  rw [hbulk] at C1
  clear hE hM sE sG rE rM rB rG hbulk
  subst z1 z2 z3 z4
  simp only [sv] at C1
  generalize bk.length = m1 at *
  generalize mm.length = m2 at *
  generalize bu.length = m3 at *
  generalize lg.length = m4 at *
  have BX := hidIt (Bo.Box.new w #[.slice e0 m1 e2, .slice t0 m2 t2, .int .i64 ph, .int .i64 mn, .int .i64 ol, .int .i64 nw, .int .i64 tm, .slice b0 m3 b2, .slice g0 m4 g2, .string ap] 60)
  have HB := hidIt ((Below.refl w.heap.size w).alloc (Nat.le_refl _) (.cells #[.slice e0 m1 e2, .slice t0 m2 t2, .int .i64 ph, .int .i64 mn, .int .i64 ol, .int .i64 nw, .int .i64 tm, .slice b0 m3 b2, .slice g0 m4 g2, .string ap] 60))
  have d0 := BX.out.c 0 rfl
  have d1 := BX.out.c 1 rfl
  simp only [nv, nc, sv]
  go_enter Tryz.func18, Tryz.ntmps18
  go_wp2_with (fail)
  refine (C1.out _ (HE.out.kept HB.out) (HM.out.kept HB.out)).mono ?_
  rintro en w1 ⟨q, rfl, hq, k1⟩
  have HQ := hidIt hq
  have HB1 := hidIt (on HB.out k1)
  have BX1 := hidIt (BX.out.kept k1)
  have q1 := hq.le
  clear k1 hq d0 d1
  by_cases hneg : q < 0
  · go_wp2_with (fail)
    go_ret
    first | exact ⟨-1, rfl, MK.out _ (by omega) (fun z => by omega), HB1.out⟩ | exact ⟨MK.out _ (by omega) (fun z => by omega), HB1.out⟩
  have d7 := BX1.out.c 7 rfl
  go_wp2_with (fail)
  refine (C2.out q _ (RB.out.kept HB1.out) (by omega) (by omega)).mono ?_
  rintro en w2 ⟨p, rfl, hp, hp2, k1⟩
  have HB2 := hidIt (on HB1.out k1)
  have BX2 := hidIt (BX1.out.kept k1)
  have p1 := hp.le
  have HP2 := hidIt hp2
  clear k1 hp d7 hp2
  by_cases hneg2 : p < 0
  · go_wp2_with (fail)
    go_ret
    first | exact ⟨-1, rfl, MK.out _ (by omega) (fun z => by omega), HB2.out⟩ | exact ⟨MK.out _ (by omega) (fun z => by omega), HB2.out⟩
  have d8 := BX2.out.c 8 rfl
  go_wp2_with (fail)
  refine (C3.out p _ (RG.out.kept HB2.out) (by omega) (by omega)).mono ?_
  rintro en w3 ⟨r, rfl, hr, hr2, k1⟩
  have HB3 := hidIt (on HB2.out k1)
  have BX3 := hidIt (BX2.out.kept k1)
  have HR2 := hidIt hr2
  clear k1 d8 hr2
  by_cases hneg3 : r < 0
  · go_wp2_with (fail)
    go_ret
    first | exact ⟨-1, rfl, MK.out _ (by omega) (fun z => by omega), HB3.out⟩ | exact ⟨MK.out _ (by omega) (fun z => by omega), HB3.out⟩
  have d9 := BX3.out.c 9 rfl
  have gw : ¬ 9223372036854775807 < r - (ap.size : Int) := by omega
  have gw2 : ¬ r - (ap.size : Int) < -9223372036854775808 := by omega
  by_cases hneg4 : r - (ap.size : Int) < 0
  · go_wp2_with (fail)
    go_ret
    first | exact ⟨-1, rfl, MK.out _ (by omega) (fun z => by omega), HB3.out⟩ | exact ⟨MK.out _ (by omega) (fun z => by omega), HB3.out⟩
  · go_wp2_with (fail)
    go_ret
    have i1 := HQ.out.sum (by omega)
    have i2 := HP2.out (by omega)
    have i3 := HR2.out (by omega)
    first | exact ⟨_, rfl, MK.out _ (by omega) (fun z => ⟨by omega, i2, i3, by omega⟩), HB3.out⟩ | exact ⟨MK.out _ (by omega) (fun z => ⟨by omega, i2, i3, by omega⟩), HB3.out⟩
set_option maxRecDepth 100000 in
set_option maxHeartbeats 8000000 in
theorem eq_same (x : Nw) (e m b g e' m' b' g' : Sl) (w : World) (h : RdN w x e m b g) (h' : RdN w x e' m' b' g') (hlg : x.log.length ≤ 9223372036854775806) :
    Calls Tryz.prog 28 #[nv x e m b g, nv x e' m' b' g'] w fun en w' => en = .returned (.bool true) ∧ Below w.heap.size w w' := by
  have hE := h.e
  have hM := h.m
  have hE' := h'.e
  have hM' := h'.m
  obtain ⟨bk, mm, ph, mn, ol, nw, tm, bu, lg, ap⟩ := x
  obtain ⟨e0, e1, e2⟩ := e
  obtain ⟨t0, t1, t2⟩ := m
  obtain ⟨b0, b1, b2⟩ := b
  obtain ⟨g0, g1, g2⟩ := g
  obtain ⟨⟨z1, rE, nE, lE, cE⟩, ⟨z2, rM, nM, lM, cM⟩, ⟨z3, rB, nB, lB, cB⟩, ⟨z4, rG, lG, cG⟩⟩ := h
  simp only at z1 rE nE lE cE z2 rM nM lM cM z3 rB nB lB cB z4 rG lG cG
  obtain ⟨p0, p1, p2⟩ := e'
  obtain ⟨q0, q1, q2⟩ := m'
  obtain ⟨r0, r1, r2⟩ := b'
  obtain ⟨s0, s1, s2⟩ := g'
  obtain ⟨⟨y1, rE', _, _, _⟩, ⟨y2, rM', _, _, _⟩, ⟨y3, rB', _, _, _⟩, ⟨y4, rG', _, _⟩⟩ := h'
  simp only at hE hM hE' hM' y1 y2 y3 y4 rB' rG'
  have C1 := hidIt (fun W (k : Rp.RdE W (e0, e1, e2) bk) (k' : Rp.RdM W (t0, t1, t2) mm) (j : Rp.RdE W (p0, p1, p2) bk) (j' : Rp.RdM W (q0, q1, q2) mm) => Rp.eq_same (e0, e1, e2) (t0, t1, t2) (p0, p1, p2) (q0, q1, q2) (bk, mm) W k k' j j')
  have C2 := hidIt (fun W (k : Bu.Rd W b0 bu) (k' : Bu.Rd W r0 bu) => Bu.eqS_same b0 r0 b2 r2 bu W k k' (by omega))
  have C3 := hidIt (fun W (k : Lg.Rd W g0 lg) (k' : Lg.Rd W s0 lg) (hl : lg.length ≤ 9223372036854775806) => Lg.eqLineS_any g0 s0 g2 s2 lg W k k' hl)
  have C4 := hidIt (fun W => Ro.eqRoll_same ph mn ol nw tm W)
  have HE := hidIt hE
  have HM := hidIt hM
  have HE' := hidIt hE'
  have HM' := hidIt hM'
  have RB := hidIt rB
  have RG := hidIt rG
  have RB' := hidIt rB'
  have RG' := hidIt rG'
  have hG6 : lg.length ≤ 9223372036854775806 := hlg
  have hap : (ap.toList == ap.toList) = true := by simp
  clear hE hM hE' hM' rE rM rB rG rE' rM' rB' rG'
  subst z1 z2 z3 z4 y1 y2 y3 y4
  simp only [sv] at C1
  generalize bk.length = m1 at *
  generalize mm.length = m2 at *
  generalize bu.length = m3 at *
  generalize lg.length = m4 at *
  have BX := hidIt ((Bo.Box.new w #[.slice e0 m1 e2, .slice t0 m2 t2, .int .i64 ph, .int .i64 mn, .int .i64 ol, .int .i64 nw, .int .i64 tm, .slice b0 m3 b2, .slice g0 m4 g2, .string ap] 46).alloc (.cells #[.slice p0 m1 p2, .slice q0 m2 q2, .int .i64 ph, .int .i64 mn, .int .i64 ol, .int .i64 nw, .int .i64 tm, .slice r0 m3 r2, .slice s0 m4 s2, .string ap] 46))
  have BY := hidIt (Bo.Box.newAt (w := w.alloc (.cells #[.slice e0 m1 e2, .slice t0 m2 t2, .int .i64 ph, .int .i64 mn, .int .i64 ol, .int .i64 nw, .int .i64 tm, .slice b0 m3 b2, .slice g0 m4 g2, .string ap] 46)) (c := #[.slice p0 m1 p2, .slice q0 m2 q2, .int .i64 ph, .int .i64 mn, .int .i64 ol, .int .i64 nw, .int .i64 tm, .slice r0 m3 r2, .slice s0 m4 s2, .string ap]) (T := 46) (k := w.heap.size + 1) (by simp))
  have HB := hidIt (((Below.refl w.heap.size w).alloc (Nat.le_refl _) (.cells #[.slice e0 m1 e2, .slice t0 m2 t2, .int .i64 ph, .int .i64 mn, .int .i64 ol, .int .i64 nw, .int .i64 tm, .slice b0 m3 b2, .slice g0 m4 g2, .string ap] 46)).alloc (by simp) (.cells #[.slice p0 m1 p2, .slice q0 m2 q2, .int .i64 ph, .int .i64 mn, .int .i64 ol, .int .i64 nw, .int .i64 tm, .slice r0 m3 r2, .slice s0 m4 s2, .string ap] 46))
  have d0 := BX.out.c 0 rfl
  have d1 := BX.out.c 1 rfl
  have f0 := BY.out.c 0 rfl
  have f1 := BY.out.c 1 rfl
  simp only [nv, nc, sv]
  go_enter Tryz.func28, Tryz.ntmps28
  go_wp2_with (fail)
  generalize (w.alloc (.cells #[.slice e0 m1 e2, .slice t0 m2 t2, .int .i64 ph, .int .i64 mn, .int .i64 ol, .int .i64 nw, .int .i64 tm, .slice b0 m3 b2, .slice g0 m4 g2, .string ap] 46)).alloc (.cells #[.slice p0 m1 p2, .slice q0 m2 q2, .int .i64 ph, .int .i64 mn, .int .i64 ol, .int .i64 nw, .int .i64 tm, .slice r0 m3 r2, .slice s0 m4 s2, .string ap] 46) = W0 at BX BY HB d0 d1 f0 f1 ⊢
  refine (C1.out _ (HE.out.kept HB.out) (HM.out.kept HB.out) (HE'.out.kept HB.out) (HM'.out.kept HB.out)).mono ?_
  rintro en w1 ⟨rfl, k1⟩
  replace HB := hidIt (on HB.out k1)
  replace BX := hidIt (BX.out.kept k1)
  replace BY := hidIt (BY.out.kept k1)
  clear k1 d0 d1 f0 f1
  have d2 := BX.out.c 2 rfl
  have d3 := BX.out.c 3 rfl
  have d4 := BX.out.c 4 rfl
  have d5 := BX.out.c 5 rfl
  have d6 := BX.out.c 6 rfl
  have f2 := BY.out.c 2 rfl
  have f3 := BY.out.c 3 rfl
  have f4 := BY.out.c 4 rfl
  have f5 := BY.out.c 5 rfl
  have f6 := BY.out.c 6 rfl
  go_wp2_with (fail)
  refine (C4.out _).mono ?_
  rintro en w2 ⟨rfl, k1⟩
  replace HB := hidIt (on HB.out k1)
  replace BX := hidIt (BX.out.kept k1)
  replace BY := hidIt (BY.out.kept k1)
  clear k1 d2 d3 d4 d5 d6 f2 f3 f4 f5 f6
  have d7 := BX.out.c 7 rfl
  have f7 := BY.out.c 7 rfl
  go_wp2_with (fail)
  refine (C2.out _ (RB.out.kept HB.out) (RB'.out.kept HB.out)).mono ?_
  rintro en w3 ⟨rfl, k1⟩
  replace HB := hidIt (on HB.out k1)
  replace BX := hidIt (BX.out.kept k1)
  replace BY := hidIt (BY.out.kept k1)
  clear k1 d7 f7
  have d8 := BX.out.c 8 rfl
  have f8 := BY.out.c 8 rfl
  go_wp2_with (fail)
  refine (C3.out _ (RG.out.kept HB.out) (RG'.out.kept HB.out) hG6).mono ?_
  rintro en w4 ⟨rfl, k1⟩
  replace HB := hidIt (on HB.out k1)
  replace BX := hidIt (BX.out.kept k1)
  replace BY := hidIt (BY.out.kept k1)
  clear k1 d8 f8
  have d9 := BX.out.c 9 rfl
  have f9 := BY.out.c 9 rfl
  go_wp2_with (fail)
  go_ret
  exact ⟨rfl, HB.out⟩
end Go.Proofs.YtceddedlfdgbhaaGreatDoor.Nd
namespace Go.Proofs.YtceddedlfdgbhaaGreatDoor.Nd
open Go.ChangeShapes Go.WideShapes Go.ChangeAt Go.RowKit
open Go.Proofs.YtceddedlfdgbhaaGreatDoor.Vv (Sl sv hidIt)
set_option linter.unusedVariables false
/-- A Node that came in: what its lists read as; no text is longer than a text may be. -/
structure In (w : World) (x : Nw) (e m b g : Sl) : Prop where
  rd : RdN w x e m b g
  short : ShortN x
theorem array10 {cs : Array Value} (h : cs.size = 10) : ∃ a b c d e f g i j k, cs = #[a, b, c, d, e, f, g, i, j, k] := by
  obtain ⟨l⟩ := cs
  match l, h with
  | [a, b, c, d, e, f, g, i, j, k], _ => exact ⟨a, b, c, d, e, f, g, i, j, k, rfl⟩
theorem cellsN : Tryz.prog.cellsOf 60 = 10 := by kernel_rfl
theorem cellsR : Tryz.prog.cellsOf 55 = 2 := by kernel_rfl
theorem cellsRo : Tryz.prog.cellsOf 56 = 5 := by kernel_rfl
theorem cellsB : Tryz.prog.cellsOf 57 = 1 := by kernel_rfl
theorem cellsG : Tryz.prog.cellsOf 58 = 1 := by kernel_rfl
theorem cellsT : Tryz.prog.cellsOf 9 = 1 := by kernel_rfl
theorem cellsE : Tryz.prog.cellsOf 52 = 1 := by kernel_rfl
theorem cellsM : Tryz.prog.cellsOf 53 = 1 := by kernel_rfl
theorem cellsI : Tryz.prog.cellsOf 2 = 1 := by kernel_rfl
set_option maxRecDepth 100000 in
theorem open_roll_in {H : Type} {enc : TypeId × Value → H} {w : World} {base : Nat} {spare : Nat → Bool} {held : Bool} {fuel : Nat} {c0 c1 c2 c3 c4 : Value} {y : DataW H × List MemPlace} (hf : DataW.trod enc Tryz.prog w base spare held fuel 56 [c0, c1, c2, c3, c4] = some y) :
    ∃ q0 q1 q2 q3 q4 : Int, c0 = .int .i64 q0 ∧ c1 = .int .i64 q1 ∧ c2 = .int .i64 q2 ∧ c3 = .int .i64 q3 ∧ c4 = .int .i64 q4 := by
  obtain ⟨xs, k, hk, hxy, _, hxl, hf'⟩ := DataW.trod_struct Tryz.underlying56 hf
  match xs, hxl with
  | [y5, y6, y7, y8, y9], _ =>
    have g0 := hf' 0 _ rfl
    have g1 := hf' 1 _ rfl
    have g2 := hf' 2 _ rfl
    have g3 := hf' 3 _ rfl
    have g4 := hf' 4 _ rfl
    simp [cellsI] at g0 g1 g2 g3 g4
    obtain ⟨q0, e0, _, _⟩ := DataW.trod_int Tryz.underlying2 g0
    obtain ⟨q1, e1, _, _⟩ := DataW.trod_int Tryz.underlying2 g1
    obtain ⟨q2, e2, _, _⟩ := DataW.trod_int Tryz.underlying2 g2
    obtain ⟨q3, e3, _, _⟩ := DataW.trod_int Tryz.underlying2 g3
    obtain ⟨q4, e4, _, _⟩ := DataW.trod_int Tryz.underlying2 g4
    simp at e0 e1 e2 e3 e4
    exact ⟨q0, q1, q2, q3, q4, e0, e1, e2, e3, e4⟩
set_option maxRecDepth 100000 in
theorem open_node_in {H : Type} {enc : TypeId × Value → H} {w : World} {base : Nat} {spare : Nat → Bool} {held : Bool} {fuel : Nat} {c0 c1 c2 c3 c4 c5 c6 c7 c8 c9 : Value} {y : DataW H × List MemPlace} (hf : DataW.trod enc Tryz.prog w base spare held fuel 60 [c0, c1, c2, c3, c4, c5, c6, c7, c8, c9] = some y) :
    ∃ (x : Nw) (e m b g : Sl), (.agg #[c0, c1, c2, c3, c4, c5, c6, c7, c8, c9] : Value) = nv x e m b g ∧ In w x e m b g := by
  obtain ⟨xs, k, hk, hxy, _, hxl, hf'⟩ := DataW.trod_struct Tryz.underlying60 hf
  match xs, hxl with
  | [y5, y6, y7, y8, y9], _ =>
    have g0 := hf' 0 _ rfl
    have g1 := hf' 1 _ rfl
    have g2 := hf' 2 _ rfl
    have g3 := hf' 3 _ rfl
    have g4 := hf' 4 _ rfl
    simp [cellsR, cellsRo, cellsB, cellsG, cellsT] at g0 g1 g2 g3 g4
    obtain ⟨y0, y1, n, _, _, r0, r1⟩ := trod_struct2 Tryz.underlying55 g0
    simp [cellsE, cellsM] at r0 r1
    obtain ⟨a0, k0, L0, e0, I0⟩ := En.open_cells Tryz.underlying52 Tryz.underlying120 (by kernel_rfl) rfl rfl rfl rfl rfl (by kernel_rfl) (by kernel_rfl) (by kernel_rfl) (by kernel_rfl) (by kernel_rfl) Tryz.underlying9 Tryz.underlying9 Tryz.underlying2 Tryz.underlying2 Tryz.underlying4 r0
    obtain ⟨a1, k1, L1, e1, I1⟩ := Mm.open_cells Tryz.underlying53 Tryz.underlying127 (by kernel_rfl) rfl rfl rfl (by kernel_rfl) (by kernel_rfl) (by kernel_rfl) Tryz.underlying2 Tryz.underlying2 Tryz.underlying2 r1
    obtain ⟨q0, q1, q2, q3, q4, rfl, rfl, rfl, rfl, rfl⟩ := open_roll_in g1
    obtain ⟨a2, k2, L2, e2, I2⟩ := Bu.open_cells Tryz.underlying57 Tryz.underlying111 (by kernel_rfl) rfl rfl rfl (by kernel_rfl) (by kernel_rfl) (by kernel_rfl) Tryz.underlying2 Tryz.underlying2 Tryz.underlying2 g2
    obtain ⟨a3, k3, L3, e3, I3⟩ := Lg.open_lines_in g3
    obtain ⟨s, e4, _, hs⟩ := DataW.trod_string Tryz.underlying9 g4
    have e4' : c9 = .string s := by simpa using e4
    subst e0 e1 e2 e3 e4'
    exact ⟨⟨L0, L1, q0, q1, q2, q3, q4, L2, L3, s⟩, (a0, L0.length, k0), (a1, L1.length, k1), (a2, L2.length, k2), (a3, L3.length, k3), rfl, ⟨⟨rfl, I0.rd, I0.na, I0.le, I0.cap⟩, ⟨rfl, I1.rd, I1.na, I1.le, I1.cap⟩, ⟨rfl, I2.rd, I2.na, I2.le, I2.cap⟩, ⟨rfl, I3.rd, I3.le, I3.cap⟩⟩, ⟨I0.short, I3.short, hs⟩⟩
set_option maxRecDepth 100000 in
theorem open_node {H : Type} {enc : TypeId × Value → H} {w : World} {r : Reach} {b0 base : Nat} {spare : Nat → Bool} {held : Bool} {v : Value} {d : DataW H} {p : List MemPlace} (hv : Value.okWide Tryz.prog w r b0 60 v) (h : DataW.Trod enc Tryz.prog w base spare held 60 v d p) :
    ∃ (x : Nw) (e m b g : Sl), v = nv x e m b g ∧ In w x e m b g := by
  obtain ⟨cs, rfl, hsz⟩ := okWide_struct Tryz.underlying60 hv
  obtain ⟨c0, c1, c2, c3, c4, c5, c6, c7, c8, c9, rfl⟩ := array10 (hsz.trans cellsN)
  obtain ⟨fuel, hf⟩ := h
  exact open_node_in (by simpa [Value.cells] using hf)
end Go.Proofs.YtceddedlfdgbhaaGreatDoor.Nd
namespace Go.Proofs.YtceddedlfdgbhaaGreatDoor.Nd
open Go.ChangeShapes Go.WideShapes Go.ChangeAt Go.RowKit
open Go.Proofs.YtceddedlfdgbhaaGreatDoor.Vv (Sl sv hidIt)
set_option linter.unusedVariables false
set_option maxRecDepth 100000 in
set_option maxHeartbeats 16000000 in
theorem spec_NodeOk (x : Nw) (e m b g : Sl) (w : World) (h : RdN w x e m b g) (hs : ShortN x) :
    Calls Tryz.prog 20 #[nv x e m b g] w fun en w' => en = .returned (.bool (okN x)) ∧ Below w.heap.size w w' := by
  obtain ⟨bk, mm, ph, mn, ol, nw, tm, bu, lg, ap⟩ := x
  obtain ⟨e0, e1, e2⟩ := e
  obtain ⟨t0, t1, t2⟩ := m
  obtain ⟨b0, b1, b2⟩ := b
  obtain ⟨g0, g1, g2⟩ := g
  obtain ⟨⟨z1, rE, nE, lE, cE⟩, ⟨z2, rM, nM, lM, cM⟩, ⟨z3, rB, nB, lB, cB⟩, ⟨z4, rG, lG, cG⟩⟩ := h
  simp only at z1 rE nE lE cE z2 rM nM lM cM z3 rB nB lB cB z4 rG lG cG
  obtain ⟨sE, sG, sA⟩ := hs
  simp only at sE sG sA
  have C1 := hidIt (fun W (r : En.Rd W e0 bk) => En.spec_BookOk e0 e2 bk W r (by omega) sE)
  have C2 := hidIt (fun W (r : Mm.Rd W t0 mm) => Mm.spec_MembersOk t0 t2 mm W r (by omega))
  have C3 : Hid (∀ W, Calls Tryz.prog 35 #[.agg #[.int .i64 ph, .int .i64 mn, .int .i64 ol, .int .i64 nw, .int .i64 tm]] W fun en w' => en = .returned (.bool (Ro.rollOk ph mn ol nw tm)) ∧ Below W.heap.size W w') := hidIt (fun W => (Ro.spec_RollOk ph mn ol nw tm W).mono (fun en w' ⟨a, c⟩ => ⟨a, by rw [c]; exact (Below.refl _ _).alloc (Nat.le_refl _) _⟩))
  have C4 := hidIt (fun W (r : Bu.Rd W b0 bu) => Bu.spec_BucketsOk b0 b2 bu W r (by omega))
  have C5 := hidIt (fun W (r : Lg.Rd W g0 lg) => Lg.spec_LogOk g0 g2 lg W r)
  have C6 := hidIt (fun W => spec_l17Apex ap W)
  have HOK : Hid (okN ⟨bk, mm, ph, mn, ol, nw, tm, bu, lg, ap⟩ = (Bk.okBk (En.toB bk) && (Mk.okBk (Mm.toB mm) && (Ro.rollOk ph mn ol nw tm && (Bu.okB bu && (Lg.okL lg && apexB ap)))))) := hidIt rfl
  have RE := hidIt rE
  have RM := hidIt rM
  have RB := hidIt rB
  have RG := hidIt rG
  clear rE rM rB rG sE sG sA
  subst z1 z2 z3 z4
  simp only [nv, nc, sv]
  generalize okN ⟨bk, mm, ph, mn, ol, nw, tm, bu, lg, ap⟩ = r at HOK ⊢
  generalize Bk.okBk (En.toB bk) = k1 at C1 HOK
  generalize Mk.okBk (Mm.toB mm) = k2 at C2 HOK
  generalize Ro.rollOk ph mn ol nw tm = k3 at C3 HOK
  generalize Bu.okB bu = k4 at C4 HOK
  generalize Lg.okL lg = k5 at C5 HOK
  generalize apexB ap = k6 at C6 HOK
  generalize bk.length = m1 at *
  generalize mm.length = m2 at *
  generalize bu.length = m3 at *
  generalize lg.length = m4 at *
  cases k1 with
  | false =>
    have er : r = false := by rw [HOK.out]; rfl
    subst er
    have BX := hidIt (Bo.Box.new w #[.slice e0 m1 e2, .slice t0 m2 t2, .int .i64 ph, .int .i64 mn, .int .i64 ol, .int .i64 nw, .int .i64 tm, .slice b0 m3 b2, .slice g0 m4 g2, .string ap] 46)
    have HB := hidIt ((Below.refl w.heap.size w).alloc (Nat.le_refl _) (.cells #[.slice e0 m1 e2, .slice t0 m2 t2, .int .i64 ph, .int .i64 mn, .int .i64 ol, .int .i64 nw, .int .i64 tm, .slice b0 m3 b2, .slice g0 m4 g2, .string ap] 46))
    have d0 := BX.out.c 0 (v := .slice e0 m1 e2) rfl
    go_enter Tryz.func20, Tryz.ntmps20
    go_wp2_with (fail)
    refine (C1.out _ (RE.out.kept HB.out)).mono ?_
    rintro en w1 ⟨rfl, kk⟩
    replace HB := hidIt (on HB.out kk)
    replace BX := hidIt (BX.out.kept kk)
    clear kk d0
    go_wp2_with (fail)
    go_ret
    exact ⟨rfl, HB.out⟩
  | true =>
    cases k2 with
    | false =>
      have er : r = false := by rw [HOK.out]; rfl
      subst er
      have BX := hidIt (Bo.Box.new w #[.slice e0 m1 e2, .slice t0 m2 t2, .int .i64 ph, .int .i64 mn, .int .i64 ol, .int .i64 nw, .int .i64 tm, .slice b0 m3 b2, .slice g0 m4 g2, .string ap] 46)
      have HB := hidIt ((Below.refl w.heap.size w).alloc (Nat.le_refl _) (.cells #[.slice e0 m1 e2, .slice t0 m2 t2, .int .i64 ph, .int .i64 mn, .int .i64 ol, .int .i64 nw, .int .i64 tm, .slice b0 m3 b2, .slice g0 m4 g2, .string ap] 46))
      have d0 := BX.out.c 0 (v := .slice e0 m1 e2) rfl
      go_enter Tryz.func20, Tryz.ntmps20
      go_wp2_with (fail)
      refine (C1.out _ (RE.out.kept HB.out)).mono ?_
      rintro en w1 ⟨rfl, kk⟩
      replace HB := hidIt (on HB.out kk)
      replace BX := hidIt (BX.out.kept kk)
      clear kk d0
      have d1 := BX.out.c 1 (v := .slice t0 m2 t2) rfl
      go_wp2_with (fail)
      refine (C2.out _ (RM.out.kept HB.out)).mono ?_
      rintro en w2 ⟨rfl, kk⟩
      replace HB := hidIt (on HB.out kk)
      replace BX := hidIt (BX.out.kept kk)
      clear kk d1
      go_wp2_with (fail)
      go_ret
      exact ⟨rfl, HB.out⟩
    | true =>
      cases k3 with
      | false =>
        have er : r = false := by rw [HOK.out]; rfl
        subst er
        have BX := hidIt (Bo.Box.new w #[.slice e0 m1 e2, .slice t0 m2 t2, .int .i64 ph, .int .i64 mn, .int .i64 ol, .int .i64 nw, .int .i64 tm, .slice b0 m3 b2, .slice g0 m4 g2, .string ap] 46)
        have HB := hidIt ((Below.refl w.heap.size w).alloc (Nat.le_refl _) (.cells #[.slice e0 m1 e2, .slice t0 m2 t2, .int .i64 ph, .int .i64 mn, .int .i64 ol, .int .i64 nw, .int .i64 tm, .slice b0 m3 b2, .slice g0 m4 g2, .string ap] 46))
        have d0 := BX.out.c 0 (v := .slice e0 m1 e2) rfl
        go_enter Tryz.func20, Tryz.ntmps20
        go_wp2_with (fail)
        refine (C1.out _ (RE.out.kept HB.out)).mono ?_
        rintro en w1 ⟨rfl, kk⟩
        replace HB := hidIt (on HB.out kk)
        replace BX := hidIt (BX.out.kept kk)
        clear kk d0
        have d1 := BX.out.c 1 (v := .slice t0 m2 t2) rfl
        go_wp2_with (fail)
        refine (C2.out _ (RM.out.kept HB.out)).mono ?_
        rintro en w2 ⟨rfl, kk⟩
        replace HB := hidIt (on HB.out kk)
        replace BX := hidIt (BX.out.kept kk)
        clear kk d1
        have d2 := BX.out.c 2 (v := .int .i64 ph) rfl
        have d3 := BX.out.c 3 (v := .int .i64 mn) rfl
        have d4 := BX.out.c 4 (v := .int .i64 ol) rfl
        have d5 := BX.out.c 5 (v := .int .i64 nw) rfl
        have d6 := BX.out.c 6 (v := .int .i64 tm) rfl
        go_wp2_with (fail)
        refine (C3.out _).mono ?_
        rintro en w3 ⟨rfl, kk⟩
        replace HB := hidIt (on HB.out kk)
        replace BX := hidIt (BX.out.kept kk)
        clear kk d2 d3 d4 d5 d6
        go_wp2_with (fail)
        go_ret
        exact ⟨rfl, HB.out⟩
      | true =>
        cases k4 with
        | false =>
          have er : r = false := by rw [HOK.out]; rfl
          subst er
          have BX := hidIt (Bo.Box.new w #[.slice e0 m1 e2, .slice t0 m2 t2, .int .i64 ph, .int .i64 mn, .int .i64 ol, .int .i64 nw, .int .i64 tm, .slice b0 m3 b2, .slice g0 m4 g2, .string ap] 46)
          have HB := hidIt ((Below.refl w.heap.size w).alloc (Nat.le_refl _) (.cells #[.slice e0 m1 e2, .slice t0 m2 t2, .int .i64 ph, .int .i64 mn, .int .i64 ol, .int .i64 nw, .int .i64 tm, .slice b0 m3 b2, .slice g0 m4 g2, .string ap] 46))
          have d0 := BX.out.c 0 (v := .slice e0 m1 e2) rfl
          go_enter Tryz.func20, Tryz.ntmps20
          go_wp2_with (fail)
          refine (C1.out _ (RE.out.kept HB.out)).mono ?_
          rintro en w1 ⟨rfl, kk⟩
          replace HB := hidIt (on HB.out kk)
          replace BX := hidIt (BX.out.kept kk)
          clear kk d0
          have d1 := BX.out.c 1 (v := .slice t0 m2 t2) rfl
          go_wp2_with (fail)
          refine (C2.out _ (RM.out.kept HB.out)).mono ?_
          rintro en w2 ⟨rfl, kk⟩
          replace HB := hidIt (on HB.out kk)
          replace BX := hidIt (BX.out.kept kk)
          clear kk d1
          have d2 := BX.out.c 2 (v := .int .i64 ph) rfl
          have d3 := BX.out.c 3 (v := .int .i64 mn) rfl
          have d4 := BX.out.c 4 (v := .int .i64 ol) rfl
          have d5 := BX.out.c 5 (v := .int .i64 nw) rfl
          have d6 := BX.out.c 6 (v := .int .i64 tm) rfl
          go_wp2_with (fail)
          refine (C3.out _).mono ?_
          rintro en w3 ⟨rfl, kk⟩
          replace HB := hidIt (on HB.out kk)
          replace BX := hidIt (BX.out.kept kk)
          clear kk d2 d3 d4 d5 d6
          have d7 := BX.out.c 7 (v := .slice b0 m3 b2) rfl
          go_wp2_with (fail)
          refine (C4.out _ (RB.out.kept HB.out)).mono ?_
          rintro en w4 ⟨rfl, kk⟩
          replace HB := hidIt (on HB.out kk)
          replace BX := hidIt (BX.out.kept kk)
          clear kk d7
          go_wp2_with (fail)
          go_ret
          exact ⟨rfl, HB.out⟩
        | true =>
          cases k5 with
          | false =>
            have er : r = false := by rw [HOK.out]; rfl
            subst er
            have BX := hidIt (Bo.Box.new w #[.slice e0 m1 e2, .slice t0 m2 t2, .int .i64 ph, .int .i64 mn, .int .i64 ol, .int .i64 nw, .int .i64 tm, .slice b0 m3 b2, .slice g0 m4 g2, .string ap] 46)
            have HB := hidIt ((Below.refl w.heap.size w).alloc (Nat.le_refl _) (.cells #[.slice e0 m1 e2, .slice t0 m2 t2, .int .i64 ph, .int .i64 mn, .int .i64 ol, .int .i64 nw, .int .i64 tm, .slice b0 m3 b2, .slice g0 m4 g2, .string ap] 46))
            have d0 := BX.out.c 0 (v := .slice e0 m1 e2) rfl
            go_enter Tryz.func20, Tryz.ntmps20
            go_wp2_with (fail)
            refine (C1.out _ (RE.out.kept HB.out)).mono ?_
            rintro en w1 ⟨rfl, kk⟩
            replace HB := hidIt (on HB.out kk)
            replace BX := hidIt (BX.out.kept kk)
            clear kk d0
            have d1 := BX.out.c 1 (v := .slice t0 m2 t2) rfl
            go_wp2_with (fail)
            refine (C2.out _ (RM.out.kept HB.out)).mono ?_
            rintro en w2 ⟨rfl, kk⟩
            replace HB := hidIt (on HB.out kk)
            replace BX := hidIt (BX.out.kept kk)
            clear kk d1
            have d2 := BX.out.c 2 (v := .int .i64 ph) rfl
            have d3 := BX.out.c 3 (v := .int .i64 mn) rfl
            have d4 := BX.out.c 4 (v := .int .i64 ol) rfl
            have d5 := BX.out.c 5 (v := .int .i64 nw) rfl
            have d6 := BX.out.c 6 (v := .int .i64 tm) rfl
            go_wp2_with (fail)
            refine (C3.out _).mono ?_
            rintro en w3 ⟨rfl, kk⟩
            replace HB := hidIt (on HB.out kk)
            replace BX := hidIt (BX.out.kept kk)
            clear kk d2 d3 d4 d5 d6
            have d7 := BX.out.c 7 (v := .slice b0 m3 b2) rfl
            go_wp2_with (fail)
            refine (C4.out _ (RB.out.kept HB.out)).mono ?_
            rintro en w4 ⟨rfl, kk⟩
            replace HB := hidIt (on HB.out kk)
            replace BX := hidIt (BX.out.kept kk)
            clear kk d7
            have d8 := BX.out.c 8 (v := .slice g0 m4 g2) rfl
            go_wp2_with (fail)
            refine (C5.out _ (RG.out.kept HB.out)).mono ?_
            rintro en w5 ⟨rfl, kk⟩
            replace HB := hidIt (on HB.out kk)
            replace BX := hidIt (BX.out.kept kk)
            clear kk d8
            go_wp2_with (fail)
            go_ret
            exact ⟨rfl, HB.out⟩
          | true =>
            cases k6 with
            | false =>
              have er : r = false := by rw [HOK.out]; rfl
              subst er
              have BX := hidIt (Bo.Box.new w #[.slice e0 m1 e2, .slice t0 m2 t2, .int .i64 ph, .int .i64 mn, .int .i64 ol, .int .i64 nw, .int .i64 tm, .slice b0 m3 b2, .slice g0 m4 g2, .string ap] 46)
              have HB := hidIt ((Below.refl w.heap.size w).alloc (Nat.le_refl _) (.cells #[.slice e0 m1 e2, .slice t0 m2 t2, .int .i64 ph, .int .i64 mn, .int .i64 ol, .int .i64 nw, .int .i64 tm, .slice b0 m3 b2, .slice g0 m4 g2, .string ap] 46))
              have d0 := BX.out.c 0 (v := .slice e0 m1 e2) rfl
              go_enter Tryz.func20, Tryz.ntmps20
              go_wp2_with (fail)
              refine (C1.out _ (RE.out.kept HB.out)).mono ?_
              rintro en w1 ⟨rfl, kk⟩
              replace HB := hidIt (on HB.out kk)
              replace BX := hidIt (BX.out.kept kk)
              clear kk d0
              have d1 := BX.out.c 1 (v := .slice t0 m2 t2) rfl
              go_wp2_with (fail)
              refine (C2.out _ (RM.out.kept HB.out)).mono ?_
              rintro en w2 ⟨rfl, kk⟩
              replace HB := hidIt (on HB.out kk)
              replace BX := hidIt (BX.out.kept kk)
              clear kk d1
              have d2 := BX.out.c 2 (v := .int .i64 ph) rfl
              have d3 := BX.out.c 3 (v := .int .i64 mn) rfl
              have d4 := BX.out.c 4 (v := .int .i64 ol) rfl
              have d5 := BX.out.c 5 (v := .int .i64 nw) rfl
              have d6 := BX.out.c 6 (v := .int .i64 tm) rfl
              go_wp2_with (fail)
              refine (C3.out _).mono ?_
              rintro en w3 ⟨rfl, kk⟩
              replace HB := hidIt (on HB.out kk)
              replace BX := hidIt (BX.out.kept kk)
              clear kk d2 d3 d4 d5 d6
              have d7 := BX.out.c 7 (v := .slice b0 m3 b2) rfl
              go_wp2_with (fail)
              refine (C4.out _ (RB.out.kept HB.out)).mono ?_
              rintro en w4 ⟨rfl, kk⟩
              replace HB := hidIt (on HB.out kk)
              replace BX := hidIt (BX.out.kept kk)
              clear kk d7
              have d8 := BX.out.c 8 (v := .slice g0 m4 g2) rfl
              go_wp2_with (fail)
              refine (C5.out _ (RG.out.kept HB.out)).mono ?_
              rintro en w5 ⟨rfl, kk⟩
              replace HB := hidIt (on HB.out kk)
              replace BX := hidIt (BX.out.kept kk)
              clear kk d8
              have d9 := BX.out.c 9 (v := .string ap) rfl
              go_wp2_with (fail)
              refine (C6.out _).mono ?_
              rintro en w6 ⟨rfl, kk⟩
              replace HB := hidIt (on HB.out kk)
              replace BX := hidIt (BX.out.kept kk)
              clear kk d9
              go_wp2_with (fail)
              go_ret
              exact ⟨rfl, HB.out⟩
            | true =>
              have er : r = true := by rw [HOK.out]; rfl
              subst er
              have BX := hidIt (Bo.Box.new w #[.slice e0 m1 e2, .slice t0 m2 t2, .int .i64 ph, .int .i64 mn, .int .i64 ol, .int .i64 nw, .int .i64 tm, .slice b0 m3 b2, .slice g0 m4 g2, .string ap] 46)
              have HB := hidIt ((Below.refl w.heap.size w).alloc (Nat.le_refl _) (.cells #[.slice e0 m1 e2, .slice t0 m2 t2, .int .i64 ph, .int .i64 mn, .int .i64 ol, .int .i64 nw, .int .i64 tm, .slice b0 m3 b2, .slice g0 m4 g2, .string ap] 46))
              have d0 := BX.out.c 0 (v := .slice e0 m1 e2) rfl
              go_enter Tryz.func20, Tryz.ntmps20
              go_wp2_with (fail)
              refine (C1.out _ (RE.out.kept HB.out)).mono ?_
              rintro en w1 ⟨rfl, kk⟩
              replace HB := hidIt (on HB.out kk)
              replace BX := hidIt (BX.out.kept kk)
              clear kk d0
              have d1 := BX.out.c 1 (v := .slice t0 m2 t2) rfl
              go_wp2_with (fail)
              refine (C2.out _ (RM.out.kept HB.out)).mono ?_
              rintro en w2 ⟨rfl, kk⟩
              replace HB := hidIt (on HB.out kk)
              replace BX := hidIt (BX.out.kept kk)
              clear kk d1
              have d2 := BX.out.c 2 (v := .int .i64 ph) rfl
              have d3 := BX.out.c 3 (v := .int .i64 mn) rfl
              have d4 := BX.out.c 4 (v := .int .i64 ol) rfl
              have d5 := BX.out.c 5 (v := .int .i64 nw) rfl
              have d6 := BX.out.c 6 (v := .int .i64 tm) rfl
              go_wp2_with (fail)
              refine (C3.out _).mono ?_
              rintro en w3 ⟨rfl, kk⟩
              replace HB := hidIt (on HB.out kk)
              replace BX := hidIt (BX.out.kept kk)
              clear kk d2 d3 d4 d5 d6
              have d7 := BX.out.c 7 (v := .slice b0 m3 b2) rfl
              go_wp2_with (fail)
              refine (C4.out _ (RB.out.kept HB.out)).mono ?_
              rintro en w4 ⟨rfl, kk⟩
              replace HB := hidIt (on HB.out kk)
              replace BX := hidIt (BX.out.kept kk)
              clear kk d7
              have d8 := BX.out.c 8 (v := .slice g0 m4 g2) rfl
              go_wp2_with (fail)
              refine (C5.out _ (RG.out.kept HB.out)).mono ?_
              rintro en w5 ⟨rfl, kk⟩
              replace HB := hidIt (on HB.out kk)
              replace BX := hidIt (BX.out.kept kk)
              clear kk d8
              have d9 := BX.out.c 9 (v := .string ap) rfl
              go_wp2_with (fail)
              refine (C6.out _).mono ?_
              rintro en w6 ⟨rfl, kk⟩
              replace HB := hidIt (on HB.out kk)
              replace BX := hidIt (BX.out.kept kk)
              clear kk d9
              go_wp2_with (fail)
              go_ret
              exact ⟨rfl, HB.out⟩
end Go.Proofs.YtceddedlfdgbhaaGreatDoor.Nd
namespace Go.Proofs.YtceddedlfdgbhaaGreatDoor.Nd
open Go.ChangeShapes Go.WideShapes Go.ChangeAt Go.RowKit
open Go.Proofs.YtceddedlfdgbhaaGreatDoor.Vv (Sl sv hidIt)
set_option linter.unusedVariables false
set_option maxRecDepth 100000 in
set_option maxHeartbeats 16000000 in
theorem to_any (x : Nw) (e m b g : Sl) (w : World) (h : RdN w x e m b g) (hs : SmallN x) :
    Calls Tryz.prog 24 #[nv x e m b g] w fun en w' => NodP w x en w' := by
  have hE := h.e
  have hM := h.m
  obtain ⟨bk, mm, ph, mn, ol, nw, tm, bu, lg, ap⟩ := x
  obtain ⟨e0, e1, e2⟩ := e
  obtain ⟨t0, t1, t2⟩ := m
  obtain ⟨b0, b1, b2⟩ := b
  obtain ⟨g0, g1, g2⟩ := g
  obtain ⟨⟨z1, rE, nE, lE, cE⟩, ⟨z2, rM, nM, lM, cM⟩, ⟨z3, rB, nB, lB, cB⟩, ⟨z4, rG, lG, cG⟩⟩ := h
  simp only at z1 rE nE lE cE z2 rM nM lM cM z3 rB nB lB cB z4 rG lG cG
  obtain ⟨sE, sM, sB, sG, sA⟩ := hs
  simp only at sE sM sB sG sA hE hM
  have C1 := hidIt (fun W (k : Rp.RdE W (e0, e1, e2) bk) (k' : Rp.RdM W (t0, t1, t2) mm) => Rp.to_any (e0, e1, e2) (t0, t1, t2) (bk, mm) W k k' sE sM)
  have C2 := hidIt (fun W (k : Bu.Rd W b0 bu) => Bu.toS_any b0 b2 bu W k sB)
  have C3 := hidIt (fun W (k : Lg.Rd W g0 lg) => Lg.toLineS_any g0 g2 lg W k sG)
  have C4 := hidIt (fun W => Ro.toRoll_any ph mn ol nw tm W)
  have HE := hidIt hE
  have HM := hidIt hM
  have RB := hidIt rB
  have RG := hidIt rG
  clear hE hM rE rM rB rG sE sM sB sG sA
  subst z1 z2 z3 z4
  simp only [sv] at C1
  generalize bk.length = m1 at *
  generalize mm.length = m2 at *
  generalize bu.length = m3 at *
  generalize lg.length = m4 at *
  have BA : Hid (Bo.Box (((w.alloc (.cells #[.slice e0 m1 e2, .slice t0 m2 t2, .int .i64 ph, .int .i64 mn, .int .i64 ol, .int .i64 nw, .int .i64 tm, .slice b0 m3 b2, .slice g0 m4 g2, .string ap] 60)).alloc (.cells #[.slice none 0 0, .slice none 0 0, .int .i64 0, .int .i64 0, .int .i64 0, .int .i64 0, .int .i64 0, .slice none 0 0, .slice none 0 0, .string ⟨#[]⟩] 46)).alloc (.cells #[.slice none 0 0, .slice none 0 0, .int .i64 0, .int .i64 0, .int .i64 0, .int .i64 0, .int .i64 0, .slice none 0 0, .slice none 0 0, .string ⟨#[]⟩] 46)) w.heap.size #[.slice e0 m1 e2, .slice t0 m2 t2, .int .i64 ph, .int .i64 mn, .int .i64 ol, .int .i64 nw, .int .i64 tm, .slice b0 m3 b2, .slice g0 m4 g2, .string ap]) := hidIt (((Bo.Box.new w _ _).alloc _).alloc _)
  have BB : Hid (Bo.Box (((w.alloc (.cells #[.slice e0 m1 e2, .slice t0 m2 t2, .int .i64 ph, .int .i64 mn, .int .i64 ol, .int .i64 nw, .int .i64 tm, .slice b0 m3 b2, .slice g0 m4 g2, .string ap] 60)).alloc (.cells #[.slice none 0 0, .slice none 0 0, .int .i64 0, .int .i64 0, .int .i64 0, .int .i64 0, .int .i64 0, .slice none 0 0, .slice none 0 0, .string ⟨#[]⟩] 46)).alloc (.cells #[.slice none 0 0, .slice none 0 0, .int .i64 0, .int .i64 0, .int .i64 0, .int .i64 0, .int .i64 0, .slice none 0 0, .slice none 0 0, .string ⟨#[]⟩] 46)) (w.heap.size + 1) #[.slice none 0 0, .slice none 0 0, .int .i64 0, .int .i64 0, .int .i64 0, .int .i64 0, .int .i64 0, .slice none 0 0, .slice none 0 0, .string ⟨#[]⟩]) := hidIt ((Bo.Box.newAt (by simp)).alloc _)
  have BC : Hid (Bo.Box (((w.alloc (.cells #[.slice e0 m1 e2, .slice t0 m2 t2, .int .i64 ph, .int .i64 mn, .int .i64 ol, .int .i64 nw, .int .i64 tm, .slice b0 m3 b2, .slice g0 m4 g2, .string ap] 60)).alloc (.cells #[.slice none 0 0, .slice none 0 0, .int .i64 0, .int .i64 0, .int .i64 0, .int .i64 0, .int .i64 0, .slice none 0 0, .slice none 0 0, .string ⟨#[]⟩] 46)).alloc (.cells #[.slice none 0 0, .slice none 0 0, .int .i64 0, .int .i64 0, .int .i64 0, .int .i64 0, .int .i64 0, .slice none 0 0, .slice none 0 0, .string ⟨#[]⟩] 46)) (w.heap.size + 1 + 1) #[.slice none 0 0, .slice none 0 0, .int .i64 0, .int .i64 0, .int .i64 0, .int .i64 0, .int .i64 0, .slice none 0 0, .slice none 0 0, .string ⟨#[]⟩]) := hidIt (Bo.Box.newAt (by simp))
  have HB : Hid (Below w.heap.size w (((w.alloc (.cells #[.slice e0 m1 e2, .slice t0 m2 t2, .int .i64 ph, .int .i64 mn, .int .i64 ol, .int .i64 nw, .int .i64 tm, .slice b0 m3 b2, .slice g0 m4 g2, .string ap] 60)).alloc (.cells #[.slice none 0 0, .slice none 0 0, .int .i64 0, .int .i64 0, .int .i64 0, .int .i64 0, .int .i64 0, .slice none 0 0, .slice none 0 0, .string ⟨#[]⟩] 46)).alloc (.cells #[.slice none 0 0, .slice none 0 0, .int .i64 0, .int .i64 0, .int .i64 0, .int .i64 0, .int .i64 0, .slice none 0 0, .slice none 0 0, .string ⟨#[]⟩] 46))) := hidIt ((((Below.refl w.heap.size w).alloc (Nat.le_refl _) _).alloc (by simp) _).alloc (by simp; omega) _)
  have hw3 : (((w.alloc (.cells #[.slice e0 m1 e2, .slice t0 m2 t2, .int .i64 ph, .int .i64 mn, .int .i64 ol, .int .i64 nw, .int .i64 tm, .slice b0 m3 b2, .slice g0 m4 g2, .string ap] 60)).alloc (.cells #[.slice none 0 0, .slice none 0 0, .int .i64 0, .int .i64 0, .int .i64 0, .int .i64 0, .int .i64 0, .slice none 0 0, .slice none 0 0, .string ⟨#[]⟩] 46)).alloc (.cells #[.slice none 0 0, .slice none 0 0, .int .i64 0, .int .i64 0, .int .i64 0, .int .i64 0, .int .i64 0, .slice none 0 0, .slice none 0 0, .string ⟨#[]⟩] 46)).heap.size = w.heap.size + 1 + 1 + 1 := by simp
  have a0 := BA.out.c 0 (v := .slice e0 m1 e2) rfl
  have a1 := BA.out.c 1 (v := .slice t0 m2 t2) rfl
  simp only [nv, nc, sv]
  go_enter Tryz.func24, Tryz.ntmps24
  go_wp2_with (fail)
  generalize (((w.alloc (.cells #[.slice e0 m1 e2, .slice t0 m2 t2, .int .i64 ph, .int .i64 mn, .int .i64 ol, .int .i64 nw, .int .i64 tm, .slice b0 m3 b2, .slice g0 m4 g2, .string ap] 60)).alloc (.cells #[.slice none 0 0, .slice none 0 0, .int .i64 0, .int .i64 0, .int .i64 0, .int .i64 0, .int .i64 0, .slice none 0 0, .slice none 0 0, .string ⟨#[]⟩] 46)).alloc (.cells #[.slice none 0 0, .slice none 0 0, .int .i64 0, .int .i64 0, .int .i64 0, .int .i64 0, .int .i64 0, .slice none 0 0, .slice none 0 0, .string ⟨#[]⟩] 46)) = W0 at BA BB BC HB hw3 a0 a1 ⊢
  have ne20 : w.heap.size + 1 + 1 ≠ w.heap.size := by omega
  have ne21 : w.heap.size + 1 + 1 ≠ w.heap.size + 1 := by omega
  have ne12 : w.heap.size + 1 ≠ w.heap.size + 1 + 1 := by omega
  have hle : w.heap.size ≤ w.heap.size + 1 + 1 := by omega
  have hle1 : w.heap.size ≤ w.heap.size + 1 := by omega
  have hn2 : w.heap.size + 1 + 1 < w.heap.size + 1 + 1 + 1 := by omega
  have hn1 : w.heap.size + 1 < w.heap.size + 1 + 1 + 1 := by omega
  have hn3 : w.heap.size ≤ w.heap.size + 1 + 1 + 1 := by omega
  have hb3 : w.heap.size + 1 + 1 + 1 ≤ W0.heap.size := by omega
  have hsz1 : ∀ k, w.heap.size + 1 + 1 < k → w.heap.size + 1 + 1 + 1 ≤ k := fun k h => h
  clear hw3
  generalize w.heap.size + 1 + 1 + 1 = n3 at *
  generalize w.heap.size + 1 + 1 = n2 at *
  generalize w.heap.size + 1 = n1 at *
  refine (C1.out _ (HE.out.kept HB.out) (HM.out.kept HB.out)).mono ?_
  intro en w1 hz
  obtain ⟨⟨x0, x1, x2⟩, ⟨y0, y1, y2⟩, rfl, oE, oM, k⟩ := hz.out
  have OE : Hid (En.Own w1 n3 (.slice x0 x1 x2) bk) := hidIt (oE.mono hb3)
  have OM : Hid (Mm.Own w1 n3 (.slice y0 y1 y2) mm) := hidIt (oM.mono hb3)
  have hb4 : n3 ≤ w1.heap.size := Nat.le_trans hb3 k.size
  have BC1 := hidIt (BC.out.kept k)
  have BB1 := hidIt (BB.out.kept k)
  have BA1 := hidIt (BA.out.kept k)
  have HB1 := hidIt (on HB.out k)
  clear BC BB BA HB
  have BC := BC1
  have BB := BB1
  have BA := BA1
  have HB := HB1
  clear BC1 BB1 BA1 HB1
  clear k oE oM hz a0 a1 C1
  have f0 := BC.out.fr 0
  have f1 := BC.out.fr 1
  have c0 := BC.out.c 0 (v := .slice none 0 0) rfl
  have c1 := BC.out.c 1 (v := .slice none 0 0) rfl
  have BC2 := hidIt (((BC.out).put (c' := #[.slice x0 x1 x2, .slice none 0 0, .int .i64 0, .int .i64 0, .int .i64 0, .int .i64 0, .int .i64 0, .slice none 0 0, .slice none 0 0, .string ⟨#[]⟩]) 0 (.slice x0 x1 x2) (by simp) rfl).put (c' := #[.slice x0 x1 x2, .slice y0 y1 y2, .int .i64 0, .int .i64 0, .int .i64 0, .int .i64 0, .int .i64 0, .slice none 0 0, .slice none 0 0, .string ⟨#[]⟩]) 1 (.slice y0 y1 y2) (by simp) rfl)
  have BB2 := hidIt (((BB.out).other (v := .slice x0 x1 x2) (i := 0) ne21).other (v := .slice y0 y1 y2) (i := 1) ne21)
  have BA2 := hidIt (((BA.out).other (v := .slice x0 x1 x2) (i := 0) ne20).other (v := .slice y0 y1 y2) (i := 1) ne20)
  have HB2 := hidIt (((HB.out).setCell (p := ⟨n2, 0, none⟩) hle (.slice x0 x1 x2)).setCell (p := ⟨n2, 1, none⟩) hle (.slice y0 y1 y2))
  have Y1 := hidIt ((((Only.refl n2 w1)).setCell 0 (.slice x0 x1 x2)).setCell 1 (.slice y0 y1 y2))
  have OE2 := hidIt (OE.out.only Y1.out (.inl hn2))
  have OM2 := hidIt (OM.out.only Y1.out (.inl hn2))
  have a2 := BA2.out.c 2 (v := .int .i64 ph) rfl
  have a3 := BA2.out.c 3 (v := .int .i64 mn) rfl
  have a4 := BA2.out.c 4 (v := .int .i64 ol) rfl
  have a5 := BA2.out.c 5 (v := .int .i64 nw) rfl
  have a6 := BA2.out.c 6 (v := .int .i64 tm) rfl
  clear BC BB BA HB Y1 OE OM
  go_wp2_with (fail)
  generalize ((w1).setCell ⟨n2, 0, none⟩ (.slice x0 x1 x2)).setCell ⟨n2, 1, none⟩ (.slice y0 y1 y2) = wa at BC2 BB2 BA2 HB2 OE2 OM2 a2 a3 a4 a5 a6 ⊢
  clear f0 c0 f1 c1 a2 a3 a4 a5 a6
  have BC := BC2
  have BB := BB2
  have BA := BA2
  have HB := HB2
  have OE := OE2
  have OM := OM2
  clear BC2 BB2 BA2 HB2 OE2 OM2
  refine (C4.out _).mono ?_
  rintro en w2 ⟨rfl, k⟩
  have BC1 := hidIt (BC.out.kept k)
  have BB1 := hidIt (BB.out.kept k)
  have BA1 := hidIt (BA.out.kept k)
  have HB1 := hidIt (on HB.out k)
  have OE1 := hidIt (OE.out.kept k)
  have OM1 := hidIt (OM.out.kept k)
  clear BC BB BA HB OE OM
  have BC := BC1
  have BB := BB1
  have BA := BA1
  have HB := HB1
  have OE := OE1
  have OM := OM1
  clear BC1 BB1 BA1 HB1 OE1 OM1
  clear k C4
  have f2 := BC.out.fr 2
  have f3 := BC.out.fr 3
  have f4 := BC.out.fr 4
  have f5 := BC.out.fr 5
  have f6 := BC.out.fr 6
  have c2 := BC.out.c 2 (v := .int .i64 0) rfl
  have c3 := BC.out.c 3 (v := .int .i64 0) rfl
  have c4 := BC.out.c 4 (v := .int .i64 0) rfl
  have c5 := BC.out.c 5 (v := .int .i64 0) rfl
  have c6 := BC.out.c 6 (v := .int .i64 0) rfl
  have BC2 := hidIt ((((((BC.out).put (c' := #[.slice x0 x1 x2, .slice y0 y1 y2, .int .i64 ph, .int .i64 0, .int .i64 0, .int .i64 0, .int .i64 0, .slice none 0 0, .slice none 0 0, .string ⟨#[]⟩]) 2 (.int .i64 ph) (by simp) rfl).put (c' := #[.slice x0 x1 x2, .slice y0 y1 y2, .int .i64 ph, .int .i64 mn, .int .i64 0, .int .i64 0, .int .i64 0, .slice none 0 0, .slice none 0 0, .string ⟨#[]⟩]) 3 (.int .i64 mn) (by simp) rfl).put (c' := #[.slice x0 x1 x2, .slice y0 y1 y2, .int .i64 ph, .int .i64 mn, .int .i64 ol, .int .i64 0, .int .i64 0, .slice none 0 0, .slice none 0 0, .string ⟨#[]⟩]) 4 (.int .i64 ol) (by simp) rfl).put (c' := #[.slice x0 x1 x2, .slice y0 y1 y2, .int .i64 ph, .int .i64 mn, .int .i64 ol, .int .i64 nw, .int .i64 0, .slice none 0 0, .slice none 0 0, .string ⟨#[]⟩]) 5 (.int .i64 nw) (by simp) rfl).put (c' := #[.slice x0 x1 x2, .slice y0 y1 y2, .int .i64 ph, .int .i64 mn, .int .i64 ol, .int .i64 nw, .int .i64 tm, .slice none 0 0, .slice none 0 0, .string ⟨#[]⟩]) 6 (.int .i64 tm) (by simp) rfl)
  have BB2 := hidIt ((((((BB.out).other (v := .int .i64 ph) (i := 2) ne21).other (v := .int .i64 mn) (i := 3) ne21).other (v := .int .i64 ol) (i := 4) ne21).other (v := .int .i64 nw) (i := 5) ne21).other (v := .int .i64 tm) (i := 6) ne21)
  have BA2 := hidIt ((((((BA.out).other (v := .int .i64 ph) (i := 2) ne20).other (v := .int .i64 mn) (i := 3) ne20).other (v := .int .i64 ol) (i := 4) ne20).other (v := .int .i64 nw) (i := 5) ne20).other (v := .int .i64 tm) (i := 6) ne20)
  have HB2 := hidIt ((((((HB.out).setCell (p := ⟨n2, 2, none⟩) hle (.int .i64 ph)).setCell (p := ⟨n2, 3, none⟩) hle (.int .i64 mn)).setCell (p := ⟨n2, 4, none⟩) hle (.int .i64 ol)).setCell (p := ⟨n2, 5, none⟩) hle (.int .i64 nw)).setCell (p := ⟨n2, 6, none⟩) hle (.int .i64 tm))
  have Y1 := hidIt (((((((Only.refl n2 w2)).setCell 2 (.int .i64 ph)).setCell 3 (.int .i64 mn)).setCell 4 (.int .i64 ol)).setCell 5 (.int .i64 nw)).setCell 6 (.int .i64 tm))
  have OE2 := hidIt (OE.out.only Y1.out (.inl hn2))
  have OM2 := hidIt (OM.out.only Y1.out (.inl hn2))
  have a7 := BA2.out.c 7 (v := .slice b0 m3 b2) rfl
  clear BC BB BA HB Y1 OE OM
  go_wp2_with (fail)
  generalize (((((w2).setCell ⟨n2, 2, none⟩ (.int .i64 ph)).setCell ⟨n2, 3, none⟩ (.int .i64 mn)).setCell ⟨n2, 4, none⟩ (.int .i64 ol)).setCell ⟨n2, 5, none⟩ (.int .i64 nw)).setCell ⟨n2, 6, none⟩ (.int .i64 tm) = wb at BC2 BB2 BA2 HB2 OE2 OM2 a7 ⊢
  clear f2 c2 f3 c3 f4 c4 f5 c5 f6 c6 a7
  have BC := BC2
  have BB := BB2
  have BA := BA2
  have HB := HB2
  have OE := OE2
  have OM := OM2
  clear BC2 BB2 BA2 HB2 OE2 OM2
  refine (C2.out _ (RB.out.kept HB.out)).mono ?_
  rintro en w3 ⟨vB, rfl, oB, k⟩
  obtain ⟨⟨u0, u1, u2⟩, rfl⟩ := slB oB
  have OB : Hid (Bu.Own w3 n3 (.slice u0 u1 u2) bu) := hidIt (oB.mono (hsz1 _ BC.out.lt))
  have BC1 := hidIt (BC.out.kept k)
  have BB1 := hidIt (BB.out.kept k)
  have BA1 := hidIt (BA.out.kept k)
  have HB1 := hidIt (on HB.out k)
  have OE1 := hidIt (OE.out.kept k)
  have OM1 := hidIt (OM.out.kept k)
  clear BC BB BA HB OE OM
  have BC := BC1
  have BB := BB1
  have BA := BA1
  have HB := HB1
  have OE := OE1
  have OM := OM1
  clear BC1 BB1 BA1 HB1 OE1 OM1
  clear k C2 oB
  have f7 := BC.out.fr 7
  have c7 := BC.out.c 7 (v := .slice none 0 0) rfl
  have BC2 := hidIt ((BC.out).put (c' := #[.slice x0 x1 x2, .slice y0 y1 y2, .int .i64 ph, .int .i64 mn, .int .i64 ol, .int .i64 nw, .int .i64 tm, .slice u0 u1 u2, .slice none 0 0, .string ⟨#[]⟩]) 7 (.slice u0 u1 u2) (by simp) rfl)
  have BB2 := hidIt ((BB.out).other (v := .slice u0 u1 u2) (i := 7) ne21)
  have BA2 := hidIt ((BA.out).other (v := .slice u0 u1 u2) (i := 7) ne20)
  have HB2 := hidIt ((HB.out).setCell (p := ⟨n2, 7, none⟩) hle (.slice u0 u1 u2))
  have Y1 := hidIt (((Only.refl n2 w3)).setCell 7 (.slice u0 u1 u2))
  have OE2 := hidIt (OE.out.only Y1.out (.inl hn2))
  have OM2 := hidIt (OM.out.only Y1.out (.inl hn2))
  have OB2 := hidIt (OB.out.only Y1.out (.inl hn2))
  have a8 := BA2.out.c 8 (v := .slice g0 m4 g2) rfl
  clear BC BB BA HB Y1 OE OM OB
  go_wp2_with (fail)
  generalize (w3).setCell ⟨n2, 7, none⟩ (.slice u0 u1 u2) = wc at BC2 BB2 BA2 HB2 OE2 OM2 OB2 a8 ⊢
  clear f7 c7 a8
  have BC := BC2
  have BB := BB2
  have BA := BA2
  have HB := HB2
  have OE := OE2
  have OM := OM2
  have OB := OB2
  clear BC2 BB2 BA2 HB2 OE2 OM2 OB2
  refine (C3.out _ (RG.out.kept HB.out)).mono ?_
  rintro en w4 ⟨vG, rfl, oG, k⟩
  obtain ⟨⟨v0, v1, v2⟩, rfl⟩ := slG oG
  have OG : Hid (Lg.Own w4 n3 (.slice v0 v1 v2) lg) := hidIt (oG.mono (hsz1 _ BC.out.lt))
  have BC1 := hidIt (BC.out.kept k)
  have BB1 := hidIt (BB.out.kept k)
  have BA1 := hidIt (BA.out.kept k)
  have HB1 := hidIt (on HB.out k)
  have OE1 := hidIt (OE.out.kept k)
  have OM1 := hidIt (OM.out.kept k)
  have OB1 := hidIt (OB.out.kept k)
  clear BC BB BA HB OE OM OB
  have BC := BC1
  have BB := BB1
  have BA := BA1
  have HB := HB1
  have OE := OE1
  have OM := OM1
  have OB := OB1
  clear BC1 BB1 BA1 HB1 OE1 OM1 OB1
  clear k C3 oG
  have a9 := BA.out.c 9 (v := .string ap) rfl
  have c0 := BC.out.c 0 (v := .slice x0 x1 x2) rfl
  have c1 := BC.out.c 1 (v := .slice y0 y1 y2) rfl
  have c2 := BC.out.c 2 (v := .int .i64 ph) rfl
  have c3 := BC.out.c 3 (v := .int .i64 mn) rfl
  have c4 := BC.out.c 4 (v := .int .i64 ol) rfl
  have c5 := BC.out.c 5 (v := .int .i64 nw) rfl
  have c6 := BC.out.c 6 (v := .int .i64 tm) rfl
  have c7 := BC.out.c 7 (v := .slice u0 u1 u2) rfl
  have c8 := BC.out.c 8 (v := .slice none 0 0) rfl
  have c9 := BC.out.c 9 (v := .string ⟨#[]⟩) rfl
  have f8 := BC.out.fr 8
  have f9 := BC.out.fr 9
  have b0 := BB.out.c 0 (v := .slice none 0 0) rfl
  have b1 := BB.out.c 1 (v := .slice none 0 0) rfl
  have b2 := BB.out.c 2 (v := .int .i64 0) rfl
  have b3 := BB.out.c 3 (v := .int .i64 0) rfl
  have b4 := BB.out.c 4 (v := .int .i64 0) rfl
  have b5 := BB.out.c 5 (v := .int .i64 0) rfl
  have b6 := BB.out.c 6 (v := .int .i64 0) rfl
  have b7 := BB.out.c 7 (v := .slice none 0 0) rfl
  have b8 := BB.out.c 8 (v := .slice none 0 0) rfl
  have b9 := BB.out.c 9 (v := .string ⟨#[]⟩) rfl
  have g0z := BB.out.fr 0
  have g1z := BB.out.fr 1
  have g2z := BB.out.fr 2
  have g3z := BB.out.fr 3
  have g4z := BB.out.fr 4
  have g5z := BB.out.fr 5
  have g6z := BB.out.fr 6
  have g7z := BB.out.fr 7
  have g8z := BB.out.fr 8
  have g9z := BB.out.fr 9
  have Y1 := hidIt ((((Only.refl n2 w4)).setCell 8 (.slice v0 v1 v2)).setCell 9 (.string ap))
  have Y2 := hidIt ((((((((((((Only.refl n1 (((w4).setCell ⟨n2, 8, none⟩ (.slice v0 v1 v2)).setCell ⟨n2, 9, none⟩ (.string ap)))).setCell 0 (.slice x0 x1 x2)).setCell 1 (.slice y0 y1 y2)).setCell 2 (.int .i64 ph)).setCell 3 (.int .i64 mn)).setCell 4 (.int .i64 ol)).setCell 5 (.int .i64 nw)).setCell 6 (.int .i64 tm)).setCell 7 (.slice u0 u1 u2)).setCell 8 (.slice v0 v1 v2)).setCell 9 (.string ap))
  have PE := hidIt (((OE.out.only Y1.out (.inl hn2)).only Y2.out (.inl hn1)).mono hn3)
  have PM := hidIt (((OM.out.only Y1.out (.inl hn2)).only Y2.out (.inl hn1)).mono hn3)
  have PB := hidIt (((OB.out.only Y1.out (.inl hn2)).only Y2.out (.inl hn1)).mono hn3)
  have PG := hidIt (((OG.out.only Y1.out (.inl hn2)).only Y2.out (.inl hn1)).mono hn3)
  have HBz := hidIt (((((((((((((HB.out).setCell (p := ⟨n2, 8, none⟩) hle (.slice v0 v1 v2)).setCell (p := ⟨n2, 9, none⟩) hle (.string ap)).setCell (p := ⟨n1, 0, none⟩) hle1 (.slice x0 x1 x2)).setCell (p := ⟨n1, 1, none⟩) hle1 (.slice y0 y1 y2)).setCell (p := ⟨n1, 2, none⟩) hle1 (.int .i64 ph)).setCell (p := ⟨n1, 3, none⟩) hle1 (.int .i64 mn)).setCell (p := ⟨n1, 4, none⟩) hle1 (.int .i64 ol)).setCell (p := ⟨n1, 5, none⟩) hle1 (.int .i64 nw)).setCell (p := ⟨n1, 6, none⟩) hle1 (.int .i64 tm)).setCell (p := ⟨n1, 7, none⟩) hle1 (.slice u0 u1 u2)).setCell (p := ⟨n1, 8, none⟩) hle1 (.slice v0 v1 v2)).setCell (p := ⟨n1, 9, none⟩) hle1 (.string ap))
  have RZ := hidIt ((((((((((((((BB.out).other (v := .slice v0 v1 v2) (i := 8) ne21).other (v := .string ap) (i := 9) ne21)).put (c' := #[.slice x0 x1 x2, .slice none 0 0, .int .i64 0, .int .i64 0, .int .i64 0, .int .i64 0, .int .i64 0, .slice none 0 0, .slice none 0 0, .string ⟨#[]⟩]) 0 (.slice x0 x1 x2) (by simp) rfl).put (c' := #[.slice x0 x1 x2, .slice y0 y1 y2, .int .i64 0, .int .i64 0, .int .i64 0, .int .i64 0, .int .i64 0, .slice none 0 0, .slice none 0 0, .string ⟨#[]⟩]) 1 (.slice y0 y1 y2) (by simp) rfl).put (c' := #[.slice x0 x1 x2, .slice y0 y1 y2, .int .i64 ph, .int .i64 0, .int .i64 0, .int .i64 0, .int .i64 0, .slice none 0 0, .slice none 0 0, .string ⟨#[]⟩]) 2 (.int .i64 ph) (by simp) rfl).put (c' := #[.slice x0 x1 x2, .slice y0 y1 y2, .int .i64 ph, .int .i64 mn, .int .i64 0, .int .i64 0, .int .i64 0, .slice none 0 0, .slice none 0 0, .string ⟨#[]⟩]) 3 (.int .i64 mn) (by simp) rfl).put (c' := #[.slice x0 x1 x2, .slice y0 y1 y2, .int .i64 ph, .int .i64 mn, .int .i64 ol, .int .i64 0, .int .i64 0, .slice none 0 0, .slice none 0 0, .string ⟨#[]⟩]) 4 (.int .i64 ol) (by simp) rfl).put (c' := #[.slice x0 x1 x2, .slice y0 y1 y2, .int .i64 ph, .int .i64 mn, .int .i64 ol, .int .i64 nw, .int .i64 0, .slice none 0 0, .slice none 0 0, .string ⟨#[]⟩]) 5 (.int .i64 nw) (by simp) rfl).put (c' := #[.slice x0 x1 x2, .slice y0 y1 y2, .int .i64 ph, .int .i64 mn, .int .i64 ol, .int .i64 nw, .int .i64 tm, .slice none 0 0, .slice none 0 0, .string ⟨#[]⟩]) 6 (.int .i64 tm) (by simp) rfl).put (c' := #[.slice x0 x1 x2, .slice y0 y1 y2, .int .i64 ph, .int .i64 mn, .int .i64 ol, .int .i64 nw, .int .i64 tm, .slice u0 u1 u2, .slice none 0 0, .string ⟨#[]⟩]) 7 (.slice u0 u1 u2) (by simp) rfl).put (c' := #[.slice x0 x1 x2, .slice y0 y1 y2, .int .i64 ph, .int .i64 mn, .int .i64 ol, .int .i64 nw, .int .i64 tm, .slice u0 u1 u2, .slice v0 v1 v2, .string ⟨#[]⟩]) 8 (.slice v0 v1 v2) (by simp) rfl).put (c' := #[.slice x0 x1 x2, .slice y0 y1 y2, .int .i64 ph, .int .i64 mn, .int .i64 ol, .int .i64 nw, .int .i64 tm, .slice u0 u1 u2, .slice v0 v1 v2, .string ap]) 9 (.string ap) (by simp) rfl)
  clear Y1 Y2 BC BB BA HB OE OM OB OG
  go_wp2_with (fail)
  generalize ((((((((((((w4).setCell ⟨n2, 8, none⟩ (.slice v0 v1 v2)).setCell ⟨n2, 9, none⟩ (.string ap)).setCell ⟨n1, 0, none⟩ (.slice x0 x1 x2)).setCell ⟨n1, 1, none⟩ (.slice y0 y1 y2)).setCell ⟨n1, 2, none⟩ (.int .i64 ph)).setCell ⟨n1, 3, none⟩ (.int .i64 mn)).setCell ⟨n1, 4, none⟩ (.int .i64 ol)).setCell ⟨n1, 5, none⟩ (.int .i64 nw)).setCell ⟨n1, 6, none⟩ (.int .i64 tm)).setCell ⟨n1, 7, none⟩ (.slice u0 u1 u2)).setCell ⟨n1, 8, none⟩ (.slice v0 v1 v2)).setCell ⟨n1, 9, none⟩ (.string ap) = wz at PE PM PB PG HBz RZ ⊢
  clear c0 b0 g0z c1 b1 g1z c2 b2 g2z c3 b3 g3z c4 b4 g4z c5 b5 g5z c6 b6 g6z c7 b7 g7z c8 b8 g8z c9 b9 g9z f8 f9 a9
  have q0 := RZ.out.c 0 (v := .slice x0 x1 x2) rfl
  have q1 := RZ.out.c 1 (v := .slice y0 y1 y2) rfl
  have q2 := RZ.out.c 2 (v := .int .i64 ph) rfl
  have q3 := RZ.out.c 3 (v := .int .i64 mn) rfl
  have q4 := RZ.out.c 4 (v := .int .i64 ol) rfl
  have q5 := RZ.out.c 5 (v := .int .i64 nw) rfl
  have q6 := RZ.out.c 6 (v := .int .i64 tm) rfl
  have q7 := RZ.out.c 7 (v := .slice u0 u1 u2) rfl
  have q8 := RZ.out.c 8 (v := .slice v0 v1 v2) rfl
  have q9 := RZ.out.c 9 (v := .string ap) rfl
  refine bodyPost_end (v := .agg #[.slice x0 x1 x2, .slice y0 y1 y2, .int .i64 ph, .int .i64 mn, .int .i64 ol, .int .i64 nw, .int .i64 tm, .slice u0 u1 u2, .slice v0 v1 v2, .string ap]) (by simp [results, Tryz.results24, go_sem, q0, q1, q2, q3, q4, q5, q6, q7, q8, q9]) rfl ?_
  exact NodP.of (e := (x0, x1, x2)) (m := (y0, y1, y2)) (b := (u0, u1, u2)) (g := (v0, v1, v2)) rfl ⟨PE.out, PM.out, PB.out, PG.out⟩ HBz.out
end Go.Proofs.YtceddedlfdgbhaaGreatDoor.Nd
namespace Go.Proofs.YtceddedlfdgbhaaGreatDoor.Ns
open Go.ChangeShapes Go.WideShapes Go.ChangeAt Go.RowKit
open Go.Proofs.YtceddedlfdgbhaaGreatDoor.Vv (Sl sv hidIt)
open Go.Proofs.YtceddedlfdgbhaaGreatDoor.Nd (Nw RdN OwnN)
open Go.Proofs.YtceddedlfdgbhaaGreatDoor.Rp (OnlyIn own_apart row_in row_other)
set_option linter.unusedVariables false
def zN : Nw := ⟨[], [], 0, 0, 0, 0, 0, [], [], ByteArray.empty⟩
def nod (L : List Nw) (i : Nat) : Nw := L.getD i zN
theorem nod_at {L : List Nw} {i : Nat} (h : i < L.length) : nod L i = L[i] := by
  unfold nod
  rw [List.getD_eq_getElem?_getD, List.getElem?_eq_getElem h]
  rfl
theorem nod_mem {L : List Nw} {i : Nat} (h : i < L.length) : nod L i ∈ L := by rw [nod_at h]; exact List.getElem_mem h
theorem nod_set {L : List Nw} {i j : Nat} {x : Nw} (h : i < L.length) : nod (L.set i x) j = if i = j then x else nod L j := by
  unfold nod
  rw [List.getD_eq_getElem?_getD, List.getD_eq_getElem?_getD, List.getElem?_set]
  by_cases e : i = j
  · rw [if_pos e, if_pos e, if_pos h]; rfl
  · rw [if_neg e, if_neg e]
theorem nod_app {L M : List Nw} {i : Nat} (h : i < L.length) : nod (L ++ M) i = nod L i := by
  unfold nod
  rw [List.getD_eq_getElem?_getD, List.getD_eq_getElem?_getD, List.getElem?_append_left h]
theorem nod_last (L : List Nw) (x : Nw) : nod (L ++ [x]) L.length = x := by
  unfold nod
  rw [List.getD_eq_getElem?_getD, List.getElem?_append_right (Nat.le_refl _)]
  simp
theorem nod_take {L : List Nw} {k i : Nat} (h : i < k) : nod (L.take k) i = nod L i := by
  unfold nod
  rw [List.getD_eq_getElem?_getD, List.getD_eq_getElem?_getD, List.getElem?_take_of_lt h]
theorem take_nod {L : List Nw} {i : Nat} (h : i < L.length) : L.take (i + 1) = L.take i ++ [nod L i] := by
  rw [List.take_add_one, List.getElem?_eq_getElem h, nod_at h]
  rfl
theorem ext_nod {L M : List Nw} (h : L.length = M.length) (e : ∀ i, i < L.length → nod L i = nod M i) : L = M := by
  apply List.ext_getElem h
  intro i h1 h2
  rw [← nod_at h1, ← nod_at h2, e i h1]
/-- A Node's cells, as they lie in a row. -/
abbrev nrw (x : Nw) (e m b g : Sl) : Nv.Rw := (e, m, x.ph, x.mn, x.ol, x.nw, x.tm, b, g, x.apex)
/-- Its four slices. -/
def sl4 (r : Nv.Rw) : Nat → Sl
  | 0 => r.1
  | 1 => r.2.1
  | 2 => r.2.2.2.2.2.2.2.1
  | _ => r.2.2.2.2.2.2.2.2.1
structure RdC (w : World) (a : Option Addr) (C : List Nv.Rw) (L : List Nw) : Prop where
  len : C.length = L.length
  row : Nv.Rd w a C
  fl : ∀ i, i < L.length → Nv.rat C i = nrw (nod L i) (sl4 (Nv.rat C i) 0) (sl4 (Nv.rat C i) 1) (sl4 (Nv.rat C i) 2) (sl4 (Nv.rat C i) 3)
  nd : ∀ i, i < L.length → RdN w (nod L i) (sl4 (Nv.rat C i) 0) (sl4 (Nv.rat C i) 1) (sl4 (Nv.rat C i) 2) (sl4 (Nv.rat C i) 3)
def Rd (w : World) (a : Option Addr) (L : List Nw) : Prop := ∃ C, RdC w a C L
theorem Rd.kept {w w' : World} {a : Option Addr} {L : List Nw} (h : Rd w a L) (k : Below w.heap.size w w') : Rd w' a L := by
  obtain ⟨C, h⟩ := h
  exact ⟨C, h.len, h.row.kept k, h.fl, fun i hi => (h.nd i hi).kept k⟩
theorem Rd.nil (w : World) (a : Option Addr) : Rd w a [] := ⟨[], rfl, Nv.Rd.nil _ _, fun i hi => absurd hi (Nat.not_lt_zero _), fun i hi => absurd hi (Nat.not_lt_zero _)⟩
theorem Rd.one {w : World} {a : Option Addr} {L : List Nw} (h : Rd w a L) {i : Nat} (hi : i < L.length) : ∃ (q off : Nat) (e m b g : Sl), a = some ⟨q, off, none⟩ ∧ w.cell? ⟨q, off + i * 10, none⟩ = some (sv e) ∧ w.cell? ⟨q, off + i * 10 + 1, none⟩ = some (sv m) ∧ w.cell? ⟨q, off + i * 10 + 2, none⟩ = some (.int .i64 (nod L i).ph) ∧ w.cell? ⟨q, off + i * 10 + 3, none⟩ = some (.int .i64 (nod L i).mn) ∧ w.cell? ⟨q, off + i * 10 + 4, none⟩ = some (.int .i64 (nod L i).ol) ∧ w.cell? ⟨q, off + i * 10 + 5, none⟩ = some (.int .i64 (nod L i).nw) ∧ w.cell? ⟨q, off + i * 10 + 6, none⟩ = some (.int .i64 (nod L i).tm) ∧ w.cell? ⟨q, off + i * 10 + 7, none⟩ = some (sv b) ∧ w.cell? ⟨q, off + i * 10 + 8, none⟩ = some (sv g) ∧ w.cell? ⟨q, off + i * 10 + 9, none⟩ = some (.string (nod L i).apex) ∧ RdN w (nod L i) e m b g := by
  obtain ⟨C, h⟩ := h
  obtain ⟨q, off, e, c0, c1, c2, c3, c4, c5, c6, c7, c8, c9⟩ := h.row.all (i := i) (by rw [h.len]; exact hi)
  have f := h.fl i hi
  have n := h.nd i hi
  generalize Nv.rat C i = r at *
  rw [f] at c0 c1 c2 c3 c4 c5 c6 c7 c8 c9
  exact ⟨q, off, sl4 r 0, sl4 r 1, sl4 r 2, sl4 r 3, e, c0, c1, c2, c3, c4, c5, c6, c7, c8, c9, n⟩
theorem Rd.addr {w : World} {a : Option Addr} {L : List Nw} (h : Rd w a L) (hn : 0 < L.length) : ∃ b off, a = some ⟨b, off, none⟩ := by
  obtain ⟨b, off, _, _, _, _, e, _⟩ := h.one hn
  exact ⟨b, off, e⟩
/-- A Node's rows, by its cells. -/
abbrev OwnR (w : World) (lo : Nat) (r : Nv.Rw) (x : Nw) : Prop := OwnN w lo x (sl4 r 0) (sl4 r 1) (sl4 r 2) (sl4 r 3)
theorem OwnR.lt {w : World} {lo : Nat} {r : Nv.Rw} {x : Nw} (h : OwnR w lo r x) (t g : Nat) (hg : (sv (sl4 r t)).ownBlock = some g) : lo ≤ g ∧ g < w.heap.size := by
  match t, hg with
  | 0, hg => exact World.ownsRow.lt h.e g hg
  | 1, hg => exact World.ownsRow.lt h.m g hg
  | 2, hg => exact World.ownsRow.lt h.b g hg
  | k + 3, hg => exact World.ownsRow.lt h.g g hg
theorem OwnR.mono {w : World} {lo lo' : Nat} {r : Nv.Rw} {x : Nw} (h : OwnR w lo r x) (k : lo' ≤ lo) : OwnR w lo' r x := ⟨h.e.mono k, h.m.mono k, h.b.mono k, h.g.mono k⟩
theorem OwnR.in {w w' : World} {lo a b : Nat} {r : Nv.Rw} {x : Nw} (h : OwnR w lo r x) (Y : OnlyIn a b w w') (hd : ∀ t g, (sv (sl4 r t)).ownBlock = some g → ¬ (a ≤ g ∧ g < b)) : OwnR w' lo r x :=
  ⟨row_in h.e Y (hd 0), row_in h.m Y (hd 1), row_in h.b Y (hd 2), row_in h.g Y (hd 3)⟩
/-- Rows of Nodes lie in other blocks than what a Node has. -/
theorem OwnR.far {w : World} {lo lo' : Nat} {r : Nv.Rw} {x : Nw} {v : Value} {C : List Nv.Rw} (h : OwnR w lo r x) (hv : Nv.Own w lo' v C) (t g : Nat) (hg : (sv (sl4 r t)).ownBlock = some g) : v.ownBlock ≠ some g := by
  match t, hg with
  | 0, hg => exact own_apart h.e hv (by decide) g hg
  | 1, hg => exact own_apart h.m hv (by decide) g hg
  | 2, hg => exact own_apart h.b hv (by decide) g hg
  | k + 3, hg => exact own_apart h.g hv (by decide) g hg
/-- A list of Nodes of the call's own, in blocks from lo up to hi. -/
structure OwnC (w : World) (lo hi : Nat) (v : Value) (C : List Nv.Rw) (L : List Nw) : Prop where
  len : C.length = L.length
  row : Nv.Own w lo v C
  blk : ∀ g, v.ownBlock = some g → g < hi
  fl : ∀ i, i < L.length → Nv.rat C i = nrw (nod L i) (sl4 (Nv.rat C i) 0) (sl4 (Nv.rat C i) 1) (sl4 (Nv.rat C i) 2) (sl4 (Nv.rat C i) 3)
  nd : ∀ i, i < L.length → OwnR w lo (Nv.rat C i) (nod L i)
  bd : ∀ i, i < L.length → ∀ t g, (sv (sl4 (Nv.rat C i) t)).ownBlock = some g → g < hi
  dj : ∀ i j, i < L.length → j < L.length → i ≠ j → ∀ t g, (sv (sl4 (Nv.rat C i) t)).ownBlock = some g → (sv (sl4 (Nv.rat C j) t)).ownBlock ≠ some g
  hi' : hi ≤ w.heap.size
  lo' : lo ≤ hi
def Own (w : World) (lo hi : Nat) (v : Value) (L : List Nw) : Prop := ∃ C, OwnC w lo hi v C L
theorem Own.rd {w : World} {lo hi : Nat} {L : List Nw} {a : Option Addr} {m cap : Nat} (h : Own w lo hi (.slice a m cap) L) : Rd w a L := by
  obtain ⟨C, h⟩ := h
  obtain ⟨a', c', e', _, _, r, _⟩ := h.row.form
  obtain ⟨rfl, _, _⟩ := Value.slice.inj e'
  exact ⟨C, h.len, r, h.fl, fun i hi => (h.nd i hi).rd⟩
theorem Own.form {w : World} {lo hi : Nat} {v : Value} {L : List Nw} (h : Own w lo hi v L) : ∃ a cap, v = .slice a L.length cap ∧ L.length ≤ cap ∧ cap ≤ 9223372036854775807 ∧ (a = none → cap = 0) := by
  obtain ⟨C, h⟩ := h
  obtain ⟨a', c', e', h1, h2, _, h4, _⟩ := h.row.form
  rw [h.len] at e' h1
  exact ⟨a', c', e', h1, h2, h4⟩
theorem Own.formN {w : World} {lo hi m : Nat} {v : Value} {L : List Nw} (h : Own w lo hi v L) (hn : L.length = m) : ∃ a cap, v = .slice a m cap ∧ m ≤ cap ∧ cap ≤ 9223372036854775807 ∧ (a = none → cap = 0) := by
  subst hn
  exact h.form
theorem OwnC.kept {w w' : World} {lo hi : Nat} {v : Value} {C : List Nv.Rw} {L : List Nw} (h : OwnC w lo hi v C L) (k : Below w.heap.size w w') : OwnC w' lo hi v C L :=
  ⟨h.len, h.row.kept k, h.blk, h.fl, fun i hi => (h.nd i hi).kept k, h.bd, h.dj, Nat.le_trans h.hi' k.size, h.lo'⟩
theorem Own.kept {w w' : World} {lo hi : Nat} {v : Value} {L : List Nw} (h : Own w lo hi v L) (k : Below w.heap.size w w') : Own w' lo hi v L := by
  obtain ⟨C, h⟩ := h
  exact ⟨C, h.kept k⟩
/-- What turns in other blocks leaves it. -/
theorem OwnC.apart {w w' : World} {lo hi lo' hi' : Nat} {v : Value} {C : List Nv.Rw} {L : List Nw} (h : OwnC w lo hi v C L) (Y : OnlyIn lo' hi' w w') (hd : hi ≤ lo' ∨ hi' ≤ lo) : OwnC w' lo hi v C L :=
  ⟨h.len, row_in h.row Y (fun g hg => by have h1 := (World.ownsRow.lt h.row g hg).1; have h2 := h.blk g hg; omega), h.blk, h.fl,
   fun i hi => (h.nd i hi).in Y (fun t g hg => by have h1 := ((h.nd i hi).lt t g hg).1; have h2 := h.bd i hi t g hg; omega), h.bd, h.dj, Nat.le_trans h.hi' Y.size, h.lo'⟩
theorem Own.apart {w w' : World} {lo hi lo' hi' : Nat} {v : Value} {L : List Nw} (h : Own w lo hi v L) (Y : OnlyIn lo' hi' w w') (hd : hi ≤ lo' ∨ hi' ≤ lo) : Own w' lo hi v L := by
  obtain ⟨C, h⟩ := h
  exact ⟨C, h.apart Y hd⟩
theorem Own.mono {w : World} {lo hi lo2 hi2 : Nat} {v : Value} {L : List Nw} (h : Own w lo hi v L) (h1 : lo2 ≤ lo) (h2 : hi ≤ hi2) (h3 : hi2 ≤ w.heap.size) : Own w lo2 hi2 v L := by
  obtain ⟨C, h⟩ := h
  exact ⟨C, h.len, h.row.mono h1, fun g hg => Nat.lt_of_lt_of_le (h.blk g hg) h2, h.fl, fun i hi => (h.nd i hi).mono h1, fun i hi t g hg => Nat.lt_of_lt_of_le (h.bd i hi t g hg) h2, h.dj, h3, by have := h.lo'; omega⟩
theorem Own.lo_le {w : World} {lo hi : Nat} {v : Value} {L : List Nw} (h : Own w lo hi v L) : lo ≤ hi ∧ hi ≤ w.heap.size := by
  obtain ⟨C, h⟩ := h
  exact ⟨h.lo', h.hi'⟩
theorem Own.grow {w : World} {lo hi : Nat} {v : Value} {L : List Nw} (h : Own w lo hi v L) : Own w lo w.heap.size v L := h.mono (Nat.le_refl _) h.lo_le.2 (Nat.le_refl _)
theorem Own.ofNil (w : World) {lo hi : Nat} (h1 : lo ≤ hi) (h2 : hi ≤ w.heap.size) : Own w lo hi (.slice none 0 0) [] :=
  ⟨[], rfl, Nv.Own.ofNil w lo, fun g hg => (by cases hg), fun i hi => absurd hi (Nat.not_lt_zero _), fun i hi => absurd hi (Nat.not_lt_zero _), fun i hi => absurd hi (Nat.not_lt_zero _), fun i j hi => absurd hi (Nat.not_lt_zero _), h2, h1⟩
theorem setTen_only {w : World} {g i : Nat} {v0 v1 v2 v3 v4 v5 v6 v7 v8 v9 : Value} : Only g w (((((((((((w).setCell ⟨g, i * 10, none⟩ (v0)).setCell ⟨g, i * 10 + 1, none⟩ (v1)).setCell ⟨g, i * 10 + 2, none⟩ (v2)).setCell ⟨g, i * 10 + 3, none⟩ (v3)).setCell ⟨g, i * 10 + 4, none⟩ (v4)).setCell ⟨g, i * 10 + 5, none⟩ (v5)).setCell ⟨g, i * 10 + 6, none⟩ (v6)).setCell ⟨g, i * 10 + 7, none⟩ (v7)).setCell ⟨g, i * 10 + 8, none⟩ (v8)).setCell ⟨g, i * 10 + 9, none⟩ (v9)) :=
  ((((((((((Only.refl g w).setCell (i * 10) v0).setCell (i * 10 + 1) v1).setCell (i * 10 + 2) v2).setCell (i * 10 + 3) v3).setCell (i * 10 + 4) v4).setCell (i * 10 + 5) v5).setCell (i * 10 + 6) v6).setCell (i * 10 + 7) v7).setCell (i * 10 + 8) v8).setCell (i * 10 + 9) v9
/-- A Node, younger than all that is there, put in at place i. -/
theorem OwnC.put {w : World} {lo hi q n cap i : Nat} {C : List Nv.Rw} {L : List Nw} (h : OwnC w lo hi (.slice (some ⟨q, 0, none⟩) n cap) C L) (hi' : i < L.length) {x : Nw} {e m b g : Sl} (o : OwnN w hi x e m b g) :
    OwnC (((((((((((w).setCell ⟨q, i * 10, none⟩ (sv e)).setCell ⟨q, i * 10 + 1, none⟩ (sv m)).setCell ⟨q, i * 10 + 2, none⟩ (.int .i64 x.ph)).setCell ⟨q, i * 10 + 3, none⟩ (.int .i64 x.mn)).setCell ⟨q, i * 10 + 4, none⟩ (.int .i64 x.ol)).setCell ⟨q, i * 10 + 5, none⟩ (.int .i64 x.nw)).setCell ⟨q, i * 10 + 6, none⟩ (.int .i64 x.tm)).setCell ⟨q, i * 10 + 7, none⟩ (sv b)).setCell ⟨q, i * 10 + 8, none⟩ (sv g)).setCell ⟨q, i * 10 + 9, none⟩ (.string x.apex)) lo w.heap.size (.slice (some ⟨q, 0, none⟩) n cap) (C.set i (nrw x e m b g)) (L.set i x) := by
  have hC : i < C.length := by rw [h.len]; exact hi'
  have Y := setTen_only (w := w) (g := q) (i := i) (v0 := sv e) (v1 := sv m) (v2 := .int .i64 x.ph) (v3 := .int .i64 x.mn) (v4 := .int .i64 x.ol) (v5 := .int .i64 x.nw) (v6 := .int .i64 x.tm) (v7 := sv b) (v8 := sv g) (v9 := .string x.apex)
  have W := h.row.whole hC (nrw x e m b g)
  have hlo := h.lo'
  generalize hw' : ((((((((((w).setCell ⟨q, i * 10, none⟩ (sv e)).setCell ⟨q, i * 10 + 1, none⟩ (sv m)).setCell ⟨q, i * 10 + 2, none⟩ (.int .i64 x.ph)).setCell ⟨q, i * 10 + 3, none⟩ (.int .i64 x.mn)).setCell ⟨q, i * 10 + 4, none⟩ (.int .i64 x.ol)).setCell ⟨q, i * 10 + 5, none⟩ (.int .i64 x.nw)).setCell ⟨q, i * 10 + 6, none⟩ (.int .i64 x.tm)).setCell ⟨q, i * 10 + 7, none⟩ (sv b)).setCell ⟨q, i * 10 + 8, none⟩ (sv g)).setCell ⟨q, i * 10 + 9, none⟩ (.string x.apex) = w' at Y
  have W' : Nv.Own w' lo (.slice (some ⟨q, 0, none⟩) n cap) (C.set i (nrw x e m b g)) := by rw [← hw']; exact W
  clear W hw'
  have Z : OnlyIn q (q + 1) w w' := OnlyIn.of_only Y (.inr ⟨Nat.le_refl _, Nat.lt_succ_self _⟩)
  have hq : (Value.slice (some ⟨q, 0, none⟩) n cap).ownBlock = some q := rfl
  have K : ∀ {lo' : Nat} {r : Nv.Rw} {y : Nw}, OwnR w lo' r y → OwnR w' lo' r y := fun hr => hr.in Z (fun t g' hg' hz => hr.far h.row t g' hg' (by rw [hq]; congr 1; omega))
  have O : OwnR w hi (nrw x e m b g) x := o
  refine ⟨by rw [List.length_set, List.length_set]; exact h.len, W', fun y hy => Nat.lt_of_lt_of_le (h.blk y hy) h.hi', fun j hj => ?_, fun j hj => ?_, fun j hj t y hy => ?_, fun j k hj hk hne t y hy hz => ?_, Y.size, Nat.le_trans hlo h.hi'⟩
  all_goals rw [List.length_set] at hj
  · rw [Nv.rat_set hC, nod_set hi']
    by_cases e' : i = j
    · rw [if_pos e', if_pos e']
      rfl
    · rw [if_neg e', if_neg e']
      exact h.fl j hj
  · rw [Nv.rat_set hC, nod_set hi']
    by_cases e' : i = j
    · rw [if_pos e', if_pos e']
      exact (K O).mono hlo
    · rw [if_neg e', if_neg e']
      exact K (h.nd j hj)
  · rw [Nv.rat_set hC] at hy
    by_cases e' : i = j
    · rw [if_pos e'] at hy
      exact (O.lt t y hy).2
    · rw [if_neg e'] at hy
      exact Nat.lt_of_lt_of_le (h.bd j hj t y hy) h.hi'
  · rw [List.length_set] at hk
    rw [Nv.rat_set hC] at hy hz
    by_cases e' : i = j
    · rw [if_pos e'] at hy
      rw [if_neg (by omega)] at hz
      have h1 := (O.lt t y hy).1
      have h2 := h.bd k hk t y hz
      omega
    · rw [if_neg e'] at hy
      by_cases e2 : i = k
      · rw [if_pos e2] at hz
        have h1 := (O.lt t y hz).1
        have h2 := h.bd j hj t y hy
        omega
      · rw [if_neg e2] at hz
        exact h.dj j k hj hk hne t y hy hz
theorem Own.put {w : World} {lo hi q n cap i : Nat} {L : List Nw} (h : Own w lo hi (.slice (some ⟨q, 0, none⟩) n cap) L) (hi' : i < L.length) {x : Nw} {e m b g : Sl} (o : OwnN w hi x e m b g) :
    Own (((((((((((w).setCell ⟨q, i * 10, none⟩ (sv e)).setCell ⟨q, i * 10 + 1, none⟩ (sv m)).setCell ⟨q, i * 10 + 2, none⟩ (.int .i64 x.ph)).setCell ⟨q, i * 10 + 3, none⟩ (.int .i64 x.mn)).setCell ⟨q, i * 10 + 4, none⟩ (.int .i64 x.ol)).setCell ⟨q, i * 10 + 5, none⟩ (.int .i64 x.nw)).setCell ⟨q, i * 10 + 6, none⟩ (.int .i64 x.tm)).setCell ⟨q, i * 10 + 7, none⟩ (sv b)).setCell ⟨q, i * 10 + 8, none⟩ (sv g)).setCell ⟨q, i * 10 + 9, none⟩ (.string x.apex)) lo w.heap.size (.slice (some ⟨q, 0, none⟩) n cap) (L.set i x) := by
  obtain ⟨C, h⟩ := h
  exact ⟨_, h.put hi' o⟩
/-- What is read and written at place i. -/
theorem Own.cells {w : World} {lo hi q n cap i : Nat} {L : List Nw} (h : Own w lo hi (.slice (some ⟨q, 0, none⟩) n cap) L) (hi' : i < L.length) : ∃ e m b g : Sl, w.cell? ⟨q, i * 10, none⟩ = some (sv e) ∧ w.cell? ⟨q, i * 10 + 1, none⟩ = some (sv m) ∧ w.cell? ⟨q, i * 10 + 2, none⟩ = some (.int .i64 (nod L i).ph) ∧ w.cell? ⟨q, i * 10 + 3, none⟩ = some (.int .i64 (nod L i).mn) ∧ w.cell? ⟨q, i * 10 + 4, none⟩ = some (.int .i64 (nod L i).ol) ∧ w.cell? ⟨q, i * 10 + 5, none⟩ = some (.int .i64 (nod L i).nw) ∧ w.cell? ⟨q, i * 10 + 6, none⟩ = some (.int .i64 (nod L i).tm) ∧ w.cell? ⟨q, i * 10 + 7, none⟩ = some (sv b) ∧ w.cell? ⟨q, i * 10 + 8, none⟩ = some (sv g) ∧ w.cell? ⟨q, i * 10 + 9, none⟩ = some (.string (nod L i).apex) ∧ w.frozen? ⟨q, i * 10, none⟩ = false ∧ w.frozen? ⟨q, i * 10 + 1, none⟩ = false ∧ w.frozen? ⟨q, i * 10 + 2, none⟩ = false ∧ w.frozen? ⟨q, i * 10 + 3, none⟩ = false ∧ w.frozen? ⟨q, i * 10 + 4, none⟩ = false ∧ w.frozen? ⟨q, i * 10 + 5, none⟩ = false ∧ w.frozen? ⟨q, i * 10 + 6, none⟩ = false ∧ w.frozen? ⟨q, i * 10 + 7, none⟩ = false ∧ w.frozen? ⟨q, i * 10 + 8, none⟩ = false ∧ w.frozen? ⟨q, i * 10 + 9, none⟩ = false ∧ OwnN w lo (nod L i) e m b g := by
  obtain ⟨C, h⟩ := h
  have hC : i < C.length := by rw [h.len]; exact hi'
  have c0 := h.row.at hC (j := 0) (by omega)
  have c1 := h.row.at hC (j := 1) (by omega)
  have c2 := h.row.at hC (j := 2) (by omega)
  have c3 := h.row.at hC (j := 3) (by omega)
  have c4 := h.row.at hC (j := 4) (by omega)
  have c5 := h.row.at hC (j := 5) (by omega)
  have c6 := h.row.at hC (j := 6) (by omega)
  have c7 := h.row.at hC (j := 7) (by omega)
  have c8 := h.row.at hC (j := 8) (by omega)
  have c9 := h.row.at hC (j := 9) (by omega)
  simp only [Nv.rcell, Nat.add_zero] at c0 c1 c2 c3 c4 c5 c6 c7 c8 c9
  have f := h.fl i hi'
  have n := h.nd i hi'
  generalize Nv.rat C i = r at f n c0 c1 c2 c3 c4 c5 c6 c7 c8 c9
  rw [f] at c0 c1 c2 c3 c4 c5 c6 c7 c8 c9
  exact ⟨sl4 r 0, sl4 r 1, sl4 r 2, sl4 r 3, c0, c1, c2, c3, c4, c5, c6, c7, c8, c9, h.row.free _, h.row.free _, h.row.free _, h.row.free _, h.row.free _, h.row.free _, h.row.free _, h.row.free _, h.row.free _, h.row.free _, n⟩
/-- A row that is made: nothing in any place. -/
theorem Own.made {w : World} {lo n : Nat} {v : Value} (h : Nv.Own w lo v (List.replicate n ((none, 0, 0), (none, 0, 0), 0, 0, 0, 0, 0, (none, 0, 0), (none, 0, 0), ByteArray.empty))) (hl : lo ≤ w.heap.size) : Own w lo w.heap.size v (List.replicate n zN) := by
  have ev : ∀ i, Nv.rat (List.replicate n (((none, 0, 0), (none, 0, 0), 0, 0, 0, 0, 0, (none, 0, 0), (none, 0, 0), ByteArray.empty) : Nv.Rw)) i = ((none, 0, 0), (none, 0, 0), 0, 0, 0, 0, 0, (none, 0, 0), (none, 0, 0), ByteArray.empty) := fun i => by
    unfold Nv.rat
    rw [List.getD_eq_getElem?_getD, List.getElem?_replicate]
    split <;> rfl
  have er : ∀ i, nod (List.replicate n zN) i = zN := fun i => by
    unfold nod
    rw [List.getD_eq_getElem?_getD, List.getElem?_replicate]
    split <;> rfl
  refine ⟨_, by simp, h, fun g hg => (World.ownsRow.lt h g hg).2, fun i _ => by rw [ev, er]; rfl, fun i _ => by rw [ev, er]; exact ⟨En.Own.ofNil _ _, Mm.Own.ofNil _ _, Bu.Own.ofNil _ _, World.ownsRow_nil _ _ _ _⟩, fun i _ t g hg => ?_, fun i j _ _ _ t g hg => ?_, Nat.le_refl _, hl⟩
  all_goals
    rw [ev] at hg
    match t, hg with
    | 0, hg => cases hg
    | 1, hg => cases hg
    | 2, hg => cases hg
    | k + 3, hg => cases hg
end Go.Proofs.YtceddedlfdgbhaaGreatDoor.Ns
