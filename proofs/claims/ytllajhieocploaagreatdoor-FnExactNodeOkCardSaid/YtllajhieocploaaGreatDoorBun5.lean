/-
  A Node as it lies in memory: ten cells, four of them slices. (Written by wip/mkNod.py.)
  szNode and eqNode of the laws. (Written by wip/mkNod.py.)
  A Node that came in. (Written by wip/mkNod.py.)
  NodeOk of the specification. (Written by wip/mkNod.py.)
  toNode of the laws: a copy of a Node. (Written by wip/mkNod.py.)
-/
import Derived.Test.YtllajhieocploaaGreatDoorBun4
import Derived.Test.YtllajhieocploaaGreatDoorBuP
import Derived.Test.YtllajhieocploaaGreatDoorLogP
import Derived.Test.YtllajhieocploaaGreatDoorRollM
import Derived.Test.YtllajhieocploaaGreatDoorApxM
import Derived.Test.YtllajhieocploaaGreatDoorBun1
import Derived.Test.YtllajhieocploaaGreatDoorBucL
import Derived.Test.YtllajhieocploaaGreatDoorLogL
import Derived.Test.YtllajhieocploaaGreatDoorBoxM
import Derived.Test.YtllajhieocploaaGreatDoorLogO
import Derived.OpenShut
import Derived.Test.YtllajhieocploaaGreatDoorBokT
import Derived.Test.YtllajhieocploaaGreatDoorBun2
import Derived.Test.YtllajhieocploaaGreatDoorBuS
import Derived.Test.YtllajhieocploaaGreatDoorLogK
import Derived.Test.YtllajhieocploaaGreatDoorNameT
namespace Go.Proofs.YtllajhieocploaaGreatDoor.Nd
open Go.ChangeShapes Go.WideShapes Go.ChangeAt Go.RowKit
open Go.Proofs.YtllajhieocploaaGreatDoor.Vv (Sl sv hidIt)
set_option linter.unusedVariables false
/-- A Node in plain words. -/
structure Nw where
  book : List En.Rw
  mem : List Mm.Rw
  ph : Int
  mn : Int
  ol : Int
  nw : Int
  tm : Int
  buc : List Bu.Rw
  log : List Lg.Ln
  apex : ByteArray
structure RdB (w : World) (s : Sl) (L : List Bu.Rw) : Prop where
  len : s.2.1 = L.length
  rd : Bu.Rd w s.1 L
  na : s.1 = none → s.2.2 = 0
  le : L.length ≤ s.2.2
  cap : s.2.2 ≤ 9223372036854775807
structure RdG (w : World) (s : Sl) (L : List Lg.Ln) : Prop where
  len : s.2.1 = L.length
  rd : Lg.Rd w s.1 L
  le : L.length ≤ s.2.2
  cap : s.2.2 ≤ 9223372036854775807
theorem RdB.kept {w w' : World} {s : Sl} {L : List Bu.Rw} (h : RdB w s L) (k : Below w.heap.size w w') : RdB w' s L := ⟨h.len, h.rd.kept k, h.na, h.le, h.cap⟩
theorem RdG.kept {w w' : World} {s : Sl} {L : List Lg.Ln} (h : RdG w s L) (k : Below w.heap.size w w') : RdG w' s L := ⟨h.len, h.rd.kept k, h.le, h.cap⟩
theorem rdB_of {w : World} {base : Nat} {s : Sl} {L : List Bu.Rw} (h : Bu.Own w base (sv s) L) : RdB w s L := by
  obtain ⟨a, c, e, h1, h2, r, h4, _⟩ := h.form
  obtain ⟨s0, s1, s2⟩ := s
  simp only [sv, Value.slice.injEq] at e
  obtain ⟨rfl, rfl, rfl⟩ := e
  exact ⟨rfl, r, h4, h1, h2⟩
theorem rdG_of {w : World} {base : Nat} {s : Sl} {L : List Lg.Ln} (h : Lg.Own w base (sv s) L) : RdG w s L := by
  obtain ⟨a, c, e, h1, h2, r, h4, _⟩ := h.form
  obtain ⟨s0, s1, s2⟩ := s
  simp only [sv, Value.slice.injEq] at e
  obtain ⟨rfl, rfl, rfl⟩ := e
  exact ⟨rfl, r, h1, h2⟩
theorem slB {w : World} {base : Nat} {v : Value} {L : List Bu.Rw} (h : Bu.Own w base v L) : ∃ s : Sl, v = sv s := by
  obtain ⟨a, c, e, _⟩ := h.form
  exact ⟨(a, L.length, c), e⟩
theorem slG {w : World} {base : Nat} {v : Value} {L : List Lg.Ln} (h : Lg.Own w base v L) : ∃ s : Sl, v = sv s := by
  obtain ⟨a, c, e, _⟩ := h.form
  exact ⟨(a, L.length, c), e⟩
/-- A Node whose lists lie at four slices. -/
structure RdN (w : World) (x : Nw) (e m b g : Sl) : Prop where
  e : Rp.RdE w e x.book
  m : Rp.RdM w m x.mem
  b : RdB w b x.buc
  g : RdG w g x.log
theorem RdN.kept {w w' : World} {x : Nw} {e m b g : Sl} (h : RdN w x e m b g) (k : Below w.heap.size w w') : RdN w' x e m b g := ⟨h.e.kept k, h.m.kept k, h.b.kept k, h.g.kept k⟩
abbrev nc (x : Nw) (e m b g : Sl) : Array Value := #[sv e, sv m, .int .i64 x.ph, .int .i64 x.mn, .int .i64 x.ol, .int .i64 x.nw, .int .i64 x.tm, sv b, sv g, .string x.apex]
abbrev nv (x : Nw) (e m b g : Sl) : Value := .agg (nc x e m b g)
/-- The lists of a Node of the call's own. -/
structure OwnN (w : World) (base : Nat) (x : Nw) (e m b g : Sl) : Prop where
  e : En.Own w base (sv e) x.book
  m : Mm.Own w base (sv m) x.mem
  b : Bu.Own w base (sv b) x.buc
  g : Lg.Own w base (sv g) x.log
theorem OwnN.rd {w : World} {base : Nat} {x : Nw} {e m b g : Sl} (h : OwnN w base x e m b g) : RdN w x e m b g := ⟨Rp.rdE_of h.e, Rp.rdM_of h.m, rdB_of h.b, rdG_of h.g⟩
theorem OwnN.kept {w w' : World} {base : Nat} {x : Nw} {e m b g : Sl} (h : OwnN w base x e m b g) (k : Below w.heap.size w w') : OwnN w' base x e m b g := ⟨h.e.kept k, h.m.kept k, h.b.kept k, h.g.kept k⟩
/-- No text of it is longer than a text may be. -/
structure ShortN (x : Nw) : Prop where
  e : En.shortR x.book
  g : ∀ i, i < x.log.length → (Lg.lat x.log i).1.size ≤ 9223372036854775807
  ap : x.apex.size ≤ 9223372036854775807
/-- It is not too great. -/
structure SmallN (x : Nw) : Prop where
  e : x.book.length ≤ 1048576
  m : x.mem.length ≤ 1048576
  b : x.buc.length ≤ 1048576
  g : x.log.length ≤ 1048576
  ap : x.apex.size ≤ 1048576
structure Le3 (x : Nw) (q l : Int) : Prop where
  le : q ≤ l
  sm : 0 ≤ q → SmallN x
def NodP (w : World) (x : Nw) (en : Ending) (w' : World) : Prop := ∃ e m b g : Sl, en = .returned (nv x e m b g) ∧ OwnN w' w.heap.size x e m b g ∧ Below w.heap.size w w'
theorem NodP.of {w w' : World} {x : Nw} {en : Ending} {e m b g : Sl} (h : en = .returned (nv x e m b g)) (h1 : OwnN w' w.heap.size x e m b g) (h2 : Below w.heap.size w w') : NodP w x en w' := ⟨e, m, b, g, h, h1, h2⟩
theorem NodP.out {w w' : World} {x : Nw} {en : Ending} (h : NodP w x en w') : ∃ e m b g : Sl, en = .returned (nv x e m b g) ∧ OwnN w' w.heap.size x e m b g ∧ Below w.heap.size w w' := h
/-- NodeOk in plain words. -/
def okN (x : Nw) : Bool := Bk.okBk (En.toB x.book) && (Mk.okBk (Mm.toB x.mem) && (Ro.rollOk x.ph x.mn x.ol x.nw x.tm && (Bu.okB x.buc && (Lg.okL x.log && apexB x.apex))))
end Go.Proofs.YtllajhieocploaaGreatDoor.Nd
namespace Go.Proofs.YtllajhieocploaaGreatDoor.Nd
open Go.ChangeShapes Go.WideShapes Go.ChangeAt Go.RowKit
open Go.Proofs.YtllajhieocploaaGreatDoor.Vv (Sl sv hidIt)
set_option linter.unusedVariables false
theorem on {W a b : World} (h : Below W.heap.size W a) (k : Below a.heap.size a b) : Below W.heap.size W b := h.trans (k.mono h.size)
set_option maxRecDepth 100000 in
set_option maxHeartbeats 8000000 in
theorem sz_any (x : Nw) (e m b g : Sl) (l : Int) (w : World) (h : RdN w x e m b g) (hs : ShortN x) (h0 : 0 ≤ l) (h1 : l ≤ 1048576) :
    Calls Tryz.prog 5 #[nv x e m b g, .int .i64 l] w fun en w' => ∃ q : Int, en = .returned (.int .i64 q) ∧ Le3 x q l ∧ Below w.heap.size w w' := by
  have hE := h.e
  have hM := h.m
  obtain ⟨bk, mm, ph, mn, ol, nw, tm, bu, lg, ap⟩ := x
  obtain ⟨e0, e1, e2⟩ := e
  obtain ⟨t0, t1, t2⟩ := m
  obtain ⟨b0, b1, b2⟩ := b
  obtain ⟨g0, g1, g2⟩ := g
  obtain ⟨⟨z1, rE, nE, lE, cE⟩, ⟨z2, rM, nM, lM, cM⟩, ⟨z3, rB, nB, lB, cB⟩, ⟨z4, rG, lG, cG⟩⟩ := h
  simp only at z1 rE nE lE cE z2 rM nM lM cM z3 rB nB lB cB z4 rG lG cG
  obtain ⟨sE, sG, sA⟩ := hs
  simp only at sE sG sA hE hM
  have C1 := hidIt (fun W (k : Rp.RdE W (e0, e1, e2) bk) (k' : Rp.RdM W (t0, t1, t2) mm) => Rp.sz_any (e0, e1, e2) (t0, t1, t2) (bk, mm) l W k k' sE h0 h1)
  have C2 := hidIt (fun l' W (k : Bu.Rd W b0 bu) => Bu.szS_any b0 b2 bu l' W k (by omega))
  have C3 := hidIt (fun l' W (k : Lg.Rd W g0 lg) => Lg.szLineS_any g0 g2 lg l' W k (by omega) sG)
  have HE := hidIt hE
  have HM := hidIt hM
  have RB := hidIt rB
  have RG := hidIt rG
  have MK : Hid (∀ q : Int, q ≤ l → (0 ≤ q → bk.length + mm.length ≤ 1048576 ∧ bu.length ≤ 1048576 ∧ lg.length ≤ 1048576 ∧ ap.size ≤ 1048576) → Le3 ⟨bk, mm, ph, mn, ol, nw, tm, bu, lg, ap⟩ q l) := hidIt (fun q a c => ⟨a, fun z => by obtain ⟨i1, i2, i3, i4⟩ := c z; exact ⟨by show bk.length ≤ _; omega, by show mm.length ≤ _; omega, i2, i3, i4⟩⟩)
  have hbulk : Rp.bulk1 (bk, mm) = bk.length + mm.length := rfl
  rw [hbulk] at C1
  clear hE hM sE sG rE rM rB rG hbulk
  subst z1 z2 z3 z4
  simp only [sv] at C1
  generalize bk.length = m1 at *
  generalize mm.length = m2 at *
  generalize bu.length = m3 at *
  generalize lg.length = m4 at *
  have BX := hidIt (Bo.Box.new w #[.slice e0 m1 e2, .slice t0 m2 t2, .int .i64 ph, .int .i64 mn, .int .i64 ol, .int .i64 nw, .int .i64 tm, .slice b0 m3 b2, .slice g0 m4 g2, .string ap] 31)
  have HB := hidIt ((Below.refl w.heap.size w).alloc (Nat.le_refl _) (.cells #[.slice e0 m1 e2, .slice t0 m2 t2, .int .i64 ph, .int .i64 mn, .int .i64 ol, .int .i64 nw, .int .i64 tm, .slice b0 m3 b2, .slice g0 m4 g2, .string ap] 31))
  have d0 := BX.out.c 0 rfl
  have d1 := BX.out.c 1 rfl
  simp only [nv, nc, sv]
  go_enter Tryz.func5, Tryz.ntmps5
  go_wp2_with (fail)
  refine (C1.out _ (HE.out.kept HB.out) (HM.out.kept HB.out)).mono ?_
  rintro en w1 ⟨q, rfl, hq, k1⟩
  have HQ := hidIt hq
  have HB1 := hidIt (on HB.out k1)
  have BX1 := hidIt (BX.out.kept k1)
  have q1 := hq.le
  clear k1 hq d0 d1
  by_cases hneg : q < 0
  · go_wp2_with (fail)
    go_ret
    first | exact ⟨-1, rfl, MK.out _ (by omega) (fun z => by omega), HB1.out⟩ | exact ⟨MK.out _ (by omega) (fun z => by omega), HB1.out⟩
  have d7 := BX1.out.c 7 rfl
  go_wp2_with (fail)
  refine (C2.out q _ (RB.out.kept HB1.out) (by omega) (by omega)).mono ?_
  rintro en w2 ⟨p, rfl, hp, hp2, k1⟩
  have HB2 := hidIt (on HB1.out k1)
  have BX2 := hidIt (BX1.out.kept k1)
  have p1 := hp.le
  have HP2 := hidIt hp2
  clear k1 hp d7 hp2
  by_cases hneg2 : p < 0
  · go_wp2_with (fail)
    go_ret
    first | exact ⟨-1, rfl, MK.out _ (by omega) (fun z => by omega), HB2.out⟩ | exact ⟨MK.out _ (by omega) (fun z => by omega), HB2.out⟩
  have d8 := BX2.out.c 8 rfl
  go_wp2_with (fail)
  refine (C3.out p _ (RG.out.kept HB2.out) (by omega) (by omega)).mono ?_
  rintro en w3 ⟨r, rfl, hr, hr2, k1⟩
  have HB3 := hidIt (on HB2.out k1)
  have BX3 := hidIt (BX2.out.kept k1)
  have HR2 := hidIt hr2
  clear k1 d8 hr2
  by_cases hneg3 : r < 0
  · go_wp2_with (fail)
    go_ret
    first | exact ⟨-1, rfl, MK.out _ (by omega) (fun z => by omega), HB3.out⟩ | exact ⟨MK.out _ (by omega) (fun z => by omega), HB3.out⟩
  have d9 := BX3.out.c 9 rfl
  have gw : ¬ 9223372036854775807 < r - (ap.size : Int) := by omega
  have gw2 : ¬ r - (ap.size : Int) < -9223372036854775808 := by omega
  by_cases hneg4 : r - (ap.size : Int) < 0
  · go_wp2_with (fail)
    go_ret
    first | exact ⟨-1, rfl, MK.out _ (by omega) (fun z => by omega), HB3.out⟩ | exact ⟨MK.out _ (by omega) (fun z => by omega), HB3.out⟩
  · go_wp2_with (fail)
    go_ret
    have i1 := HQ.out.sum (by omega)
    have i2 := HP2.out (by omega)
    have i3 := HR2.out (by omega)
    first | exact ⟨_, rfl, MK.out _ (by omega) (fun z => ⟨by omega, i2, i3, by omega⟩), HB3.out⟩ | exact ⟨MK.out _ (by omega) (fun z => ⟨by omega, i2, i3, by omega⟩), HB3.out⟩
set_option maxRecDepth 100000 in
set_option maxHeartbeats 8000000 in
theorem eq_same (x : Nw) (e m b g e' m' b' g' : Sl) (w : World) (h : RdN w x e m b g) (h' : RdN w x e' m' b' g') (hlg : x.log.length ≤ 9223372036854775806) :
    Calls Tryz.prog 9 #[nv x e m b g, nv x e' m' b' g'] w fun en w' => en = .returned (.bool true) ∧ Below w.heap.size w w' := by
  have hE := h.e
  have hM := h.m
  have hE' := h'.e
  have hM' := h'.m
  obtain ⟨bk, mm, ph, mn, ol, nw, tm, bu, lg, ap⟩ := x
  obtain ⟨e0, e1, e2⟩ := e
  obtain ⟨t0, t1, t2⟩ := m
  obtain ⟨b0, b1, b2⟩ := b
  obtain ⟨g0, g1, g2⟩ := g
  obtain ⟨⟨z1, rE, nE, lE, cE⟩, ⟨z2, rM, nM, lM, cM⟩, ⟨z3, rB, nB, lB, cB⟩, ⟨z4, rG, lG, cG⟩⟩ := h
  simp only at z1 rE nE lE cE z2 rM nM lM cM z3 rB nB lB cB z4 rG lG cG
  obtain ⟨p0, p1, p2⟩ := e'
  obtain ⟨q0, q1, q2⟩ := m'
  obtain ⟨r0, r1, r2⟩ := b'
  obtain ⟨s0, s1, s2⟩ := g'
  obtain ⟨⟨y1, rE', _, _, _⟩, ⟨y2, rM', _, _, _⟩, ⟨y3, rB', _, _, _⟩, ⟨y4, rG', _, _⟩⟩ := h'
  simp only at hE hM hE' hM' y1 y2 y3 y4 rB' rG'
  have C1 := hidIt (fun W (k : Rp.RdE W (e0, e1, e2) bk) (k' : Rp.RdM W (t0, t1, t2) mm) (j : Rp.RdE W (p0, p1, p2) bk) (j' : Rp.RdM W (q0, q1, q2) mm) => Rp.eq_same (e0, e1, e2) (t0, t1, t2) (p0, p1, p2) (q0, q1, q2) (bk, mm) W k k' j j')
  have C2 := hidIt (fun W (k : Bu.Rd W b0 bu) (k' : Bu.Rd W r0 bu) => Bu.eqS_same b0 r0 b2 r2 bu W k k' (by omega))
  have C3 := hidIt (fun W (k : Lg.Rd W g0 lg) (k' : Lg.Rd W s0 lg) (hl : lg.length ≤ 9223372036854775806) => Lg.eqLineS_any g0 s0 g2 s2 lg W k k' hl)
  have C4 := hidIt (fun W => Ro.eqRoll_same ph mn ol nw tm W)
  have HE := hidIt hE
  have HM := hidIt hM
  have HE' := hidIt hE'
  have HM' := hidIt hM'
  have RB := hidIt rB
  have RG := hidIt rG
  have RB' := hidIt rB'
  have RG' := hidIt rG'
  have hG6 : lg.length ≤ 9223372036854775806 := hlg
  have hap : (ap.toList == ap.toList) = true := by simp
  clear hE hM hE' hM' rE rM rB rG rE' rM' rB' rG'
  subst z1 z2 z3 z4 y1 y2 y3 y4
  simp only [sv] at C1
  generalize bk.length = m1 at *
  generalize mm.length = m2 at *
  generalize bu.length = m3 at *
  generalize lg.length = m4 at *
  have BX := hidIt ((Bo.Box.new w #[.slice e0 m1 e2, .slice t0 m2 t2, .int .i64 ph, .int .i64 mn, .int .i64 ol, .int .i64 nw, .int .i64 tm, .slice b0 m3 b2, .slice g0 m4 g2, .string ap] 42).alloc (.cells #[.slice p0 m1 p2, .slice q0 m2 q2, .int .i64 ph, .int .i64 mn, .int .i64 ol, .int .i64 nw, .int .i64 tm, .slice r0 m3 r2, .slice s0 m4 s2, .string ap] 42))
  have BY := hidIt (Bo.Box.newAt (w := w.alloc (.cells #[.slice e0 m1 e2, .slice t0 m2 t2, .int .i64 ph, .int .i64 mn, .int .i64 ol, .int .i64 nw, .int .i64 tm, .slice b0 m3 b2, .slice g0 m4 g2, .string ap] 42)) (c := #[.slice p0 m1 p2, .slice q0 m2 q2, .int .i64 ph, .int .i64 mn, .int .i64 ol, .int .i64 nw, .int .i64 tm, .slice r0 m3 r2, .slice s0 m4 s2, .string ap]) (T := 42) (k := w.heap.size + 1) (by simp))
  have HB := hidIt (((Below.refl w.heap.size w).alloc (Nat.le_refl _) (.cells #[.slice e0 m1 e2, .slice t0 m2 t2, .int .i64 ph, .int .i64 mn, .int .i64 ol, .int .i64 nw, .int .i64 tm, .slice b0 m3 b2, .slice g0 m4 g2, .string ap] 42)).alloc (by simp) (.cells #[.slice p0 m1 p2, .slice q0 m2 q2, .int .i64 ph, .int .i64 mn, .int .i64 ol, .int .i64 nw, .int .i64 tm, .slice r0 m3 r2, .slice s0 m4 s2, .string ap] 42))
  have d0 := BX.out.c 0 rfl
  have d1 := BX.out.c 1 rfl
  have f0 := BY.out.c 0 rfl
  have f1 := BY.out.c 1 rfl
  simp only [nv, nc, sv]
  go_enter Tryz.func9, Tryz.ntmps9
  go_wp2_with (fail)
  generalize (w.alloc (.cells #[.slice e0 m1 e2, .slice t0 m2 t2, .int .i64 ph, .int .i64 mn, .int .i64 ol, .int .i64 nw, .int .i64 tm, .slice b0 m3 b2, .slice g0 m4 g2, .string ap] 42)).alloc (.cells #[.slice p0 m1 p2, .slice q0 m2 q2, .int .i64 ph, .int .i64 mn, .int .i64 ol, .int .i64 nw, .int .i64 tm, .slice r0 m3 r2, .slice s0 m4 s2, .string ap] 42) = W0 at BX BY HB d0 d1 f0 f1 ⊢
  refine (C1.out _ (HE.out.kept HB.out) (HM.out.kept HB.out) (HE'.out.kept HB.out) (HM'.out.kept HB.out)).mono ?_
  rintro en w1 ⟨rfl, k1⟩
  replace HB := hidIt (on HB.out k1)
  replace BX := hidIt (BX.out.kept k1)
  replace BY := hidIt (BY.out.kept k1)
  clear k1 d0 d1 f0 f1
  have d2 := BX.out.c 2 rfl
  have d3 := BX.out.c 3 rfl
  have d4 := BX.out.c 4 rfl
  have d5 := BX.out.c 5 rfl
  have d6 := BX.out.c 6 rfl
  have f2 := BY.out.c 2 rfl
  have f3 := BY.out.c 3 rfl
  have f4 := BY.out.c 4 rfl
  have f5 := BY.out.c 5 rfl
  have f6 := BY.out.c 6 rfl
  go_wp2_with (fail)
  refine (C4.out _).mono ?_
  rintro en w2 ⟨rfl, k1⟩
  replace HB := hidIt (on HB.out k1)
  replace BX := hidIt (BX.out.kept k1)
  replace BY := hidIt (BY.out.kept k1)
  clear k1 d2 d3 d4 d5 d6 f2 f3 f4 f5 f6
  have d7 := BX.out.c 7 rfl
  have f7 := BY.out.c 7 rfl
  go_wp2_with (fail)
  refine (C2.out _ (RB.out.kept HB.out) (RB'.out.kept HB.out)).mono ?_
  rintro en w3 ⟨rfl, k1⟩
  replace HB := hidIt (on HB.out k1)
  replace BX := hidIt (BX.out.kept k1)
  replace BY := hidIt (BY.out.kept k1)
  clear k1 d7 f7
  have d8 := BX.out.c 8 rfl
  have f8 := BY.out.c 8 rfl
  go_wp2_with (fail)
  refine (C3.out _ (RG.out.kept HB.out) (RG'.out.kept HB.out) hG6).mono ?_
  rintro en w4 ⟨rfl, k1⟩
  replace HB := hidIt (on HB.out k1)
  replace BX := hidIt (BX.out.kept k1)
  replace BY := hidIt (BY.out.kept k1)
  clear k1 d8 f8
  have d9 := BX.out.c 9 rfl
  have f9 := BY.out.c 9 rfl
  go_wp2_with (fail)
  go_ret
  exact ⟨rfl, HB.out⟩
end Go.Proofs.YtllajhieocploaaGreatDoor.Nd
namespace Go.Proofs.YtllajhieocploaaGreatDoor.Nd
open Go.ChangeShapes Go.WideShapes Go.ChangeAt Go.RowKit
open Go.Proofs.YtllajhieocploaaGreatDoor.Vv (Sl sv hidIt)
set_option linter.unusedVariables false
/-- A Node that came in: what its lists read as; no text is longer than a text may be. -/
structure In (w : World) (x : Nw) (e m b g : Sl) : Prop where
  rd : RdN w x e m b g
  short : ShortN x
theorem array10 {cs : Array Value} (h : cs.size = 10) : ∃ a b c d e f g i j k, cs = #[a, b, c, d, e, f, g, i, j, k] := by
  obtain ⟨l⟩ := cs
  match l, h with
  | [a, b, c, d, e, f, g, i, j, k], _ => exact ⟨a, b, c, d, e, f, g, i, j, k, rfl⟩
theorem cellsN : Tryz.prog.cellsOf 31 = 10 := by kernel_rfl
theorem cellsR : Tryz.prog.cellsOf 25 = 2 := by kernel_rfl
theorem cellsRo : Tryz.prog.cellsOf 27 = 5 := by kernel_rfl
theorem cellsB : Tryz.prog.cellsOf 28 = 1 := by kernel_rfl
theorem cellsG : Tryz.prog.cellsOf 29 = 1 := by kernel_rfl
theorem cellsT : Tryz.prog.cellsOf 9 = 1 := by kernel_rfl
theorem cellsE : Tryz.prog.cellsOf 22 = 1 := by kernel_rfl
theorem cellsM : Tryz.prog.cellsOf 23 = 1 := by kernel_rfl
theorem cellsI : Tryz.prog.cellsOf 2 = 1 := by kernel_rfl
set_option maxRecDepth 100000 in
theorem open_roll_in {H : Type} {enc : TypeId × Value → H} {w : World} {base : Nat} {spare : Nat → Bool} {held : Bool} {fuel : Nat} {c0 c1 c2 c3 c4 : Value} {y : DataW H × List MemPlace} (hf : DataW.trod enc Tryz.prog w base spare held fuel 27 [c0, c1, c2, c3, c4] = some y) :
    ∃ q0 q1 q2 q3 q4 : Int, c0 = .int .i64 q0 ∧ c1 = .int .i64 q1 ∧ c2 = .int .i64 q2 ∧ c3 = .int .i64 q3 ∧ c4 = .int .i64 q4 := by
  obtain ⟨xs, k, hk, hxy, _, hxl, hf'⟩ := DataW.trod_struct Tryz.underlying27 hf
  match xs, hxl with
  | [y5, y6, y7, y8, y9], _ =>
    have g0 := hf' 0 _ rfl
    have g1 := hf' 1 _ rfl
    have g2 := hf' 2 _ rfl
    have g3 := hf' 3 _ rfl
    have g4 := hf' 4 _ rfl
    simp [cellsI] at g0 g1 g2 g3 g4
    obtain ⟨q0, e0, _, _⟩ := DataW.trod_int Tryz.underlying2 g0
    obtain ⟨q1, e1, _, _⟩ := DataW.trod_int Tryz.underlying2 g1
    obtain ⟨q2, e2, _, _⟩ := DataW.trod_int Tryz.underlying2 g2
    obtain ⟨q3, e3, _, _⟩ := DataW.trod_int Tryz.underlying2 g3
    obtain ⟨q4, e4, _, _⟩ := DataW.trod_int Tryz.underlying2 g4
    simp at e0 e1 e2 e3 e4
    exact ⟨q0, q1, q2, q3, q4, e0, e1, e2, e3, e4⟩
set_option maxRecDepth 100000 in
theorem open_node_in {H : Type} {enc : TypeId × Value → H} {w : World} {base : Nat} {spare : Nat → Bool} {held : Bool} {fuel : Nat} {c0 c1 c2 c3 c4 c5 c6 c7 c8 c9 : Value} {y : DataW H × List MemPlace} (hf : DataW.trod enc Tryz.prog w base spare held fuel 31 [c0, c1, c2, c3, c4, c5, c6, c7, c8, c9] = some y) :
    ∃ (x : Nw) (e m b g : Sl), (.agg #[c0, c1, c2, c3, c4, c5, c6, c7, c8, c9] : Value) = nv x e m b g ∧ In w x e m b g := by
  obtain ⟨xs, k, hk, hxy, _, hxl, hf'⟩ := DataW.trod_struct Tryz.underlying31 hf
  match xs, hxl with
  | [y5, y6, y7, y8, y9], _ =>
    have g0 := hf' 0 _ rfl
    have g1 := hf' 1 _ rfl
    have g2 := hf' 2 _ rfl
    have g3 := hf' 3 _ rfl
    have g4 := hf' 4 _ rfl
    simp [cellsR, cellsRo, cellsB, cellsG, cellsT] at g0 g1 g2 g3 g4
    obtain ⟨y0, y1, n, _, _, r0, r1⟩ := trod_struct2 Tryz.underlying25 g0
    simp [cellsE, cellsM] at r0 r1
    obtain ⟨a0, k0, L0, e0, I0⟩ := En.open_cells Tryz.underlying22 Tryz.underlying138 (by kernel_rfl) rfl rfl rfl rfl rfl (by kernel_rfl) (by kernel_rfl) (by kernel_rfl) (by kernel_rfl) (by kernel_rfl) Tryz.underlying9 Tryz.underlying9 Tryz.underlying2 Tryz.underlying2 Tryz.underlying4 r0
    obtain ⟨a1, k1, L1, e1, I1⟩ := Mm.open_cells Tryz.underlying23 Tryz.underlying145 (by kernel_rfl) rfl rfl rfl (by kernel_rfl) (by kernel_rfl) (by kernel_rfl) Tryz.underlying2 Tryz.underlying2 Tryz.underlying2 r1
    obtain ⟨q0, q1, q2, q3, q4, rfl, rfl, rfl, rfl, rfl⟩ := open_roll_in g1
    obtain ⟨a2, k2, L2, e2, I2⟩ := Bu.open_cells Tryz.underlying28 Tryz.underlying109 (by kernel_rfl) rfl rfl rfl (by kernel_rfl) (by kernel_rfl) (by kernel_rfl) Tryz.underlying2 Tryz.underlying2 Tryz.underlying2 g2
    obtain ⟨a3, k3, L3, e3, I3⟩ := Lg.open_lines_in g3
    obtain ⟨s, e4, _, hs⟩ := DataW.trod_string Tryz.underlying9 g4
    have e4' : c9 = .string s := by simpa using e4
    subst e0 e1 e2 e3 e4'
    exact ⟨⟨L0, L1, q0, q1, q2, q3, q4, L2, L3, s⟩, (a0, L0.length, k0), (a1, L1.length, k1), (a2, L2.length, k2), (a3, L3.length, k3), rfl, ⟨⟨rfl, I0.rd, I0.na, I0.le, I0.cap⟩, ⟨rfl, I1.rd, I1.na, I1.le, I1.cap⟩, ⟨rfl, I2.rd, I2.na, I2.le, I2.cap⟩, ⟨rfl, I3.rd, I3.le, I3.cap⟩⟩, ⟨I0.short, I3.short, hs⟩⟩
set_option maxRecDepth 100000 in
theorem open_node {H : Type} {enc : TypeId × Value → H} {w : World} {r : Reach} {b0 base : Nat} {spare : Nat → Bool} {held : Bool} {v : Value} {d : DataW H} {p : List MemPlace} (hv : Value.okWide Tryz.prog w r b0 31 v) (h : DataW.Trod enc Tryz.prog w base spare held 31 v d p) :
    ∃ (x : Nw) (e m b g : Sl), v = nv x e m b g ∧ In w x e m b g := by
  obtain ⟨cs, rfl, hsz⟩ := okWide_struct Tryz.underlying31 hv
  obtain ⟨c0, c1, c2, c3, c4, c5, c6, c7, c8, c9, rfl⟩ := array10 (hsz.trans cellsN)
  obtain ⟨fuel, hf⟩ := h
  exact open_node_in (by simpa [Value.cells] using hf)
end Go.Proofs.YtllajhieocploaaGreatDoor.Nd
namespace Go.Proofs.YtllajhieocploaaGreatDoor.Nd
open Go.ChangeShapes Go.WideShapes Go.ChangeAt Go.RowKit
open Go.Proofs.YtllajhieocploaaGreatDoor.Vv (Sl sv hidIt)
set_option linter.unusedVariables false
set_option maxRecDepth 100000 in
set_option maxHeartbeats 16000000 in
theorem spec_NodeOk (x : Nw) (e m b g : Sl) (w : World) (h : RdN w x e m b g) (hs : ShortN x) :
    Calls Tryz.prog 6 #[nv x e m b g] w fun en w' => en = .returned (.bool (okN x)) ∧ Below w.heap.size w w' := by
  obtain ⟨bk, mm, ph, mn, ol, nw, tm, bu, lg, ap⟩ := x
  obtain ⟨e0, e1, e2⟩ := e
  obtain ⟨t0, t1, t2⟩ := m
  obtain ⟨b0, b1, b2⟩ := b
  obtain ⟨g0, g1, g2⟩ := g
  obtain ⟨⟨z1, rE, nE, lE, cE⟩, ⟨z2, rM, nM, lM, cM⟩, ⟨z3, rB, nB, lB, cB⟩, ⟨z4, rG, lG, cG⟩⟩ := h
  simp only at z1 rE nE lE cE z2 rM nM lM cM z3 rB nB lB cB z4 rG lG cG
  obtain ⟨sE, sG, sA⟩ := hs
  simp only at sE sG sA
  have C1 := hidIt (fun W (r : En.Rd W e0 bk) => En.spec_BookOk e0 e2 bk W r (by omega) sE)
  have C2 := hidIt (fun W (r : Mm.Rd W t0 mm) => Mm.spec_MembersOk t0 t2 mm W r (by omega))
  have C3 : Hid (∀ W, Calls Tryz.prog 21 #[.agg #[.int .i64 ph, .int .i64 mn, .int .i64 ol, .int .i64 nw, .int .i64 tm]] W fun en w' => en = .returned (.bool (Ro.rollOk ph mn ol nw tm)) ∧ Below W.heap.size W w') := hidIt (fun W => (Ro.spec_RollOk ph mn ol nw tm W).mono (fun en w' ⟨a, c⟩ => ⟨a, by rw [c]; exact (Below.refl _ _).alloc (Nat.le_refl _) _⟩))
  have C4 := hidIt (fun W (r : Bu.Rd W b0 bu) => Bu.spec_BucketsOk b0 b2 bu W r (by omega))
  have C5 := hidIt (fun W (r : Lg.Rd W g0 lg) => Lg.spec_LogOk g0 g2 lg W r)
  have C6 := hidIt (fun W => spec_l17Apex ap W)
  have HOK : Hid (okN ⟨bk, mm, ph, mn, ol, nw, tm, bu, lg, ap⟩ = (Bk.okBk (En.toB bk) && (Mk.okBk (Mm.toB mm) && (Ro.rollOk ph mn ol nw tm && (Bu.okB bu && (Lg.okL lg && apexB ap)))))) := hidIt rfl
  have RE := hidIt rE
  have RM := hidIt rM
  have RB := hidIt rB
  have RG := hidIt rG
  clear rE rM rB rG sE sG sA
  subst z1 z2 z3 z4
  simp only [nv, nc, sv]
  generalize okN ⟨bk, mm, ph, mn, ol, nw, tm, bu, lg, ap⟩ = r at HOK ⊢
  generalize Bk.okBk (En.toB bk) = k1 at C1 HOK
  generalize Mk.okBk (Mm.toB mm) = k2 at C2 HOK
  generalize Ro.rollOk ph mn ol nw tm = k3 at C3 HOK
  generalize Bu.okB bu = k4 at C4 HOK
  generalize Lg.okL lg = k5 at C5 HOK
  generalize apexB ap = k6 at C6 HOK
  generalize bk.length = m1 at *
  generalize mm.length = m2 at *
  generalize bu.length = m3 at *
  generalize lg.length = m4 at *
  cases k1 with
  | false =>
    have er : r = false := by rw [HOK.out]; rfl
    subst er
    have BX := hidIt (Bo.Box.new w #[.slice e0 m1 e2, .slice t0 m2 t2, .int .i64 ph, .int .i64 mn, .int .i64 ol, .int .i64 nw, .int .i64 tm, .slice b0 m3 b2, .slice g0 m4 g2, .string ap] 42)
    have HB := hidIt ((Below.refl w.heap.size w).alloc (Nat.le_refl _) (.cells #[.slice e0 m1 e2, .slice t0 m2 t2, .int .i64 ph, .int .i64 mn, .int .i64 ol, .int .i64 nw, .int .i64 tm, .slice b0 m3 b2, .slice g0 m4 g2, .string ap] 42))
    have d0 := BX.out.c 0 (v := .slice e0 m1 e2) rfl
    go_enter Tryz.func6, Tryz.ntmps6
    go_wp2_with (fail)
    refine (C1.out _ (RE.out.kept HB.out)).mono ?_
    rintro en w1 ⟨rfl, kk⟩
    replace HB := hidIt (on HB.out kk)
    replace BX := hidIt (BX.out.kept kk)
    clear kk d0
    go_wp2_with (fail)
    go_ret
    exact ⟨rfl, HB.out⟩
  | true =>
    cases k2 with
    | false =>
      have er : r = false := by rw [HOK.out]; rfl
      subst er
      have BX := hidIt (Bo.Box.new w #[.slice e0 m1 e2, .slice t0 m2 t2, .int .i64 ph, .int .i64 mn, .int .i64 ol, .int .i64 nw, .int .i64 tm, .slice b0 m3 b2, .slice g0 m4 g2, .string ap] 42)
      have HB := hidIt ((Below.refl w.heap.size w).alloc (Nat.le_refl _) (.cells #[.slice e0 m1 e2, .slice t0 m2 t2, .int .i64 ph, .int .i64 mn, .int .i64 ol, .int .i64 nw, .int .i64 tm, .slice b0 m3 b2, .slice g0 m4 g2, .string ap] 42))
      have d0 := BX.out.c 0 (v := .slice e0 m1 e2) rfl
      go_enter Tryz.func6, Tryz.ntmps6
      go_wp2_with (fail)
      refine (C1.out _ (RE.out.kept HB.out)).mono ?_
      rintro en w1 ⟨rfl, kk⟩
      replace HB := hidIt (on HB.out kk)
      replace BX := hidIt (BX.out.kept kk)
      clear kk d0
      have d1 := BX.out.c 1 (v := .slice t0 m2 t2) rfl
      go_wp2_with (fail)
      refine (C2.out _ (RM.out.kept HB.out)).mono ?_
      rintro en w2 ⟨rfl, kk⟩
      replace HB := hidIt (on HB.out kk)
      replace BX := hidIt (BX.out.kept kk)
      clear kk d1
      go_wp2_with (fail)
      go_ret
      exact ⟨rfl, HB.out⟩
    | true =>
      cases k3 with
      | false =>
        have er : r = false := by rw [HOK.out]; rfl
        subst er
        have BX := hidIt (Bo.Box.new w #[.slice e0 m1 e2, .slice t0 m2 t2, .int .i64 ph, .int .i64 mn, .int .i64 ol, .int .i64 nw, .int .i64 tm, .slice b0 m3 b2, .slice g0 m4 g2, .string ap] 42)
        have HB := hidIt ((Below.refl w.heap.size w).alloc (Nat.le_refl _) (.cells #[.slice e0 m1 e2, .slice t0 m2 t2, .int .i64 ph, .int .i64 mn, .int .i64 ol, .int .i64 nw, .int .i64 tm, .slice b0 m3 b2, .slice g0 m4 g2, .string ap] 42))
        have d0 := BX.out.c 0 (v := .slice e0 m1 e2) rfl
        go_enter Tryz.func6, Tryz.ntmps6
        go_wp2_with (fail)
        refine (C1.out _ (RE.out.kept HB.out)).mono ?_
        rintro en w1 ⟨rfl, kk⟩
        replace HB := hidIt (on HB.out kk)
        replace BX := hidIt (BX.out.kept kk)
        clear kk d0
        have d1 := BX.out.c 1 (v := .slice t0 m2 t2) rfl
        go_wp2_with (fail)
        refine (C2.out _ (RM.out.kept HB.out)).mono ?_
        rintro en w2 ⟨rfl, kk⟩
        replace HB := hidIt (on HB.out kk)
        replace BX := hidIt (BX.out.kept kk)
        clear kk d1
        have d2 := BX.out.c 2 (v := .int .i64 ph) rfl
        have d3 := BX.out.c 3 (v := .int .i64 mn) rfl
        have d4 := BX.out.c 4 (v := .int .i64 ol) rfl
        have d5 := BX.out.c 5 (v := .int .i64 nw) rfl
        have d6 := BX.out.c 6 (v := .int .i64 tm) rfl
        go_wp2_with (fail)
        refine (C3.out _).mono ?_
        rintro en w3 ⟨rfl, kk⟩
        replace HB := hidIt (on HB.out kk)
        replace BX := hidIt (BX.out.kept kk)
        clear kk d2 d3 d4 d5 d6
        go_wp2_with (fail)
        go_ret
        exact ⟨rfl, HB.out⟩
      | true =>
        cases k4 with
        | false =>
          have er : r = false := by rw [HOK.out]; rfl
          subst er
          have BX := hidIt (Bo.Box.new w #[.slice e0 m1 e2, .slice t0 m2 t2, .int .i64 ph, .int .i64 mn, .int .i64 ol, .int .i64 nw, .int .i64 tm, .slice b0 m3 b2, .slice g0 m4 g2, .string ap] 42)
          have HB := hidIt ((Below.refl w.heap.size w).alloc (Nat.le_refl _) (.cells #[.slice e0 m1 e2, .slice t0 m2 t2, .int .i64 ph, .int .i64 mn, .int .i64 ol, .int .i64 nw, .int .i64 tm, .slice b0 m3 b2, .slice g0 m4 g2, .string ap] 42))
          have d0 := BX.out.c 0 (v := .slice e0 m1 e2) rfl
          go_enter Tryz.func6, Tryz.ntmps6
          go_wp2_with (fail)
          refine (C1.out _ (RE.out.kept HB.out)).mono ?_
          rintro en w1 ⟨rfl, kk⟩
          replace HB := hidIt (on HB.out kk)
          replace BX := hidIt (BX.out.kept kk)
          clear kk d0
          have d1 := BX.out.c 1 (v := .slice t0 m2 t2) rfl
          go_wp2_with (fail)
          refine (C2.out _ (RM.out.kept HB.out)).mono ?_
          rintro en w2 ⟨rfl, kk⟩
          replace HB := hidIt (on HB.out kk)
          replace BX := hidIt (BX.out.kept kk)
          clear kk d1
          have d2 := BX.out.c 2 (v := .int .i64 ph) rfl
          have d3 := BX.out.c 3 (v := .int .i64 mn) rfl
          have d4 := BX.out.c 4 (v := .int .i64 ol) rfl
          have d5 := BX.out.c 5 (v := .int .i64 nw) rfl
          have d6 := BX.out.c 6 (v := .int .i64 tm) rfl
          go_wp2_with (fail)
          refine (C3.out _).mono ?_
          rintro en w3 ⟨rfl, kk⟩
          replace HB := hidIt (on HB.out kk)
          replace BX := hidIt (BX.out.kept kk)
          clear kk d2 d3 d4 d5 d6
          have d7 := BX.out.c 7 (v := .slice b0 m3 b2) rfl
          go_wp2_with (fail)
          refine (C4.out _ (RB.out.kept HB.out)).mono ?_
          rintro en w4 ⟨rfl, kk⟩
          replace HB := hidIt (on HB.out kk)
          replace BX := hidIt (BX.out.kept kk)
          clear kk d7
          go_wp2_with (fail)
          go_ret
          exact ⟨rfl, HB.out⟩
        | true =>
          cases k5 with
          | false =>
            have er : r = false := by rw [HOK.out]; rfl
            subst er
            have BX := hidIt (Bo.Box.new w #[.slice e0 m1 e2, .slice t0 m2 t2, .int .i64 ph, .int .i64 mn, .int .i64 ol, .int .i64 nw, .int .i64 tm, .slice b0 m3 b2, .slice g0 m4 g2, .string ap] 42)
            have HB := hidIt ((Below.refl w.heap.size w).alloc (Nat.le_refl _) (.cells #[.slice e0 m1 e2, .slice t0 m2 t2, .int .i64 ph, .int .i64 mn, .int .i64 ol, .int .i64 nw, .int .i64 tm, .slice b0 m3 b2, .slice g0 m4 g2, .string ap] 42))
            have d0 := BX.out.c 0 (v := .slice e0 m1 e2) rfl
            go_enter Tryz.func6, Tryz.ntmps6
            go_wp2_with (fail)
            refine (C1.out _ (RE.out.kept HB.out)).mono ?_
            rintro en w1 ⟨rfl, kk⟩
            replace HB := hidIt (on HB.out kk)
            replace BX := hidIt (BX.out.kept kk)
            clear kk d0
            have d1 := BX.out.c 1 (v := .slice t0 m2 t2) rfl
            go_wp2_with (fail)
            refine (C2.out _ (RM.out.kept HB.out)).mono ?_
            rintro en w2 ⟨rfl, kk⟩
            replace HB := hidIt (on HB.out kk)
            replace BX := hidIt (BX.out.kept kk)
            clear kk d1
            have d2 := BX.out.c 2 (v := .int .i64 ph) rfl
            have d3 := BX.out.c 3 (v := .int .i64 mn) rfl
            have d4 := BX.out.c 4 (v := .int .i64 ol) rfl
            have d5 := BX.out.c 5 (v := .int .i64 nw) rfl
            have d6 := BX.out.c 6 (v := .int .i64 tm) rfl
            go_wp2_with (fail)
            refine (C3.out _).mono ?_
            rintro en w3 ⟨rfl, kk⟩
            replace HB := hidIt (on HB.out kk)
            replace BX := hidIt (BX.out.kept kk)
            clear kk d2 d3 d4 d5 d6
            have d7 := BX.out.c 7 (v := .slice b0 m3 b2) rfl
            go_wp2_with (fail)
            refine (C4.out _ (RB.out.kept HB.out)).mono ?_
            rintro en w4 ⟨rfl, kk⟩
            replace HB := hidIt (on HB.out kk)
            replace BX := hidIt (BX.out.kept kk)
            clear kk d7
            have d8 := BX.out.c 8 (v := .slice g0 m4 g2) rfl
            go_wp2_with (fail)
            refine (C5.out _ (RG.out.kept HB.out)).mono ?_
            rintro en w5 ⟨rfl, kk⟩
            replace HB := hidIt (on HB.out kk)
            replace BX := hidIt (BX.out.kept kk)
            clear kk d8
            go_wp2_with (fail)
            go_ret
            exact ⟨rfl, HB.out⟩
          | true =>
            cases k6 with
            | false =>
              have er : r = false := by rw [HOK.out]; rfl
              subst er
              have BX := hidIt (Bo.Box.new w #[.slice e0 m1 e2, .slice t0 m2 t2, .int .i64 ph, .int .i64 mn, .int .i64 ol, .int .i64 nw, .int .i64 tm, .slice b0 m3 b2, .slice g0 m4 g2, .string ap] 42)
              have HB := hidIt ((Below.refl w.heap.size w).alloc (Nat.le_refl _) (.cells #[.slice e0 m1 e2, .slice t0 m2 t2, .int .i64 ph, .int .i64 mn, .int .i64 ol, .int .i64 nw, .int .i64 tm, .slice b0 m3 b2, .slice g0 m4 g2, .string ap] 42))
              have d0 := BX.out.c 0 (v := .slice e0 m1 e2) rfl
              go_enter Tryz.func6, Tryz.ntmps6
              go_wp2_with (fail)
              refine (C1.out _ (RE.out.kept HB.out)).mono ?_
              rintro en w1 ⟨rfl, kk⟩
              replace HB := hidIt (on HB.out kk)
              replace BX := hidIt (BX.out.kept kk)
              clear kk d0
              have d1 := BX.out.c 1 (v := .slice t0 m2 t2) rfl
              go_wp2_with (fail)
              refine (C2.out _ (RM.out.kept HB.out)).mono ?_
              rintro en w2 ⟨rfl, kk⟩
              replace HB := hidIt (on HB.out kk)
              replace BX := hidIt (BX.out.kept kk)
              clear kk d1
              have d2 := BX.out.c 2 (v := .int .i64 ph) rfl
              have d3 := BX.out.c 3 (v := .int .i64 mn) rfl
              have d4 := BX.out.c 4 (v := .int .i64 ol) rfl
              have d5 := BX.out.c 5 (v := .int .i64 nw) rfl
              have d6 := BX.out.c 6 (v := .int .i64 tm) rfl
              go_wp2_with (fail)
              refine (C3.out _).mono ?_
              rintro en w3 ⟨rfl, kk⟩
              replace HB := hidIt (on HB.out kk)
              replace BX := hidIt (BX.out.kept kk)
              clear kk d2 d3 d4 d5 d6
              have d7 := BX.out.c 7 (v := .slice b0 m3 b2) rfl
              go_wp2_with (fail)
              refine (C4.out _ (RB.out.kept HB.out)).mono ?_
              rintro en w4 ⟨rfl, kk⟩
              replace HB := hidIt (on HB.out kk)
              replace BX := hidIt (BX.out.kept kk)
              clear kk d7
              have d8 := BX.out.c 8 (v := .slice g0 m4 g2) rfl
              go_wp2_with (fail)
              refine (C5.out _ (RG.out.kept HB.out)).mono ?_
              rintro en w5 ⟨rfl, kk⟩
              replace HB := hidIt (on HB.out kk)
              replace BX := hidIt (BX.out.kept kk)
              clear kk d8
              have d9 := BX.out.c 9 (v := .string ap) rfl
              go_wp2_with (fail)
              refine (C6.out _).mono ?_
              rintro en w6 ⟨rfl, kk⟩
              replace HB := hidIt (on HB.out kk)
              replace BX := hidIt (BX.out.kept kk)
              clear kk d9
              go_wp2_with (fail)
              go_ret
              exact ⟨rfl, HB.out⟩
            | true =>
              have er : r = true := by rw [HOK.out]; rfl
              subst er
              have BX := hidIt (Bo.Box.new w #[.slice e0 m1 e2, .slice t0 m2 t2, .int .i64 ph, .int .i64 mn, .int .i64 ol, .int .i64 nw, .int .i64 tm, .slice b0 m3 b2, .slice g0 m4 g2, .string ap] 42)
              have HB := hidIt ((Below.refl w.heap.size w).alloc (Nat.le_refl _) (.cells #[.slice e0 m1 e2, .slice t0 m2 t2, .int .i64 ph, .int .i64 mn, .int .i64 ol, .int .i64 nw, .int .i64 tm, .slice b0 m3 b2, .slice g0 m4 g2, .string ap] 42))
              have d0 := BX.out.c 0 (v := .slice e0 m1 e2) rfl
              go_enter Tryz.func6, Tryz.ntmps6
              go_wp2_with (fail)
              refine (C1.out _ (RE.out.kept HB.out)).mono ?_
              rintro en w1 ⟨rfl, kk⟩
              replace HB := hidIt (on HB.out kk)
              replace BX := hidIt (BX.out.kept kk)
              clear kk d0
              have d1 := BX.out.c 1 (v := .slice t0 m2 t2) rfl
              go_wp2_with (fail)
              refine (C2.out _ (RM.out.kept HB.out)).mono ?_
              rintro en w2 ⟨rfl, kk⟩
              replace HB := hidIt (on HB.out kk)
              replace BX := hidIt (BX.out.kept kk)
              clear kk d1
              have d2 := BX.out.c 2 (v := .int .i64 ph) rfl
              have d3 := BX.out.c 3 (v := .int .i64 mn) rfl
              have d4 := BX.out.c 4 (v := .int .i64 ol) rfl
              have d5 := BX.out.c 5 (v := .int .i64 nw) rfl
              have d6 := BX.out.c 6 (v := .int .i64 tm) rfl
              go_wp2_with (fail)
              refine (C3.out _).mono ?_
              rintro en w3 ⟨rfl, kk⟩
              replace HB := hidIt (on HB.out kk)
              replace BX := hidIt (BX.out.kept kk)
              clear kk d2 d3 d4 d5 d6
              have d7 := BX.out.c 7 (v := .slice b0 m3 b2) rfl
              go_wp2_with (fail)
              refine (C4.out _ (RB.out.kept HB.out)).mono ?_
              rintro en w4 ⟨rfl, kk⟩
              replace HB := hidIt (on HB.out kk)
              replace BX := hidIt (BX.out.kept kk)
              clear kk d7
              have d8 := BX.out.c 8 (v := .slice g0 m4 g2) rfl
              go_wp2_with (fail)
              refine (C5.out _ (RG.out.kept HB.out)).mono ?_
              rintro en w5 ⟨rfl, kk⟩
              replace HB := hidIt (on HB.out kk)
              replace BX := hidIt (BX.out.kept kk)
              clear kk d8
              have d9 := BX.out.c 9 (v := .string ap) rfl
              go_wp2_with (fail)
              refine (C6.out _).mono ?_
              rintro en w6 ⟨rfl, kk⟩
              replace HB := hidIt (on HB.out kk)
              replace BX := hidIt (BX.out.kept kk)
              clear kk d9
              go_wp2_with (fail)
              go_ret
              exact ⟨rfl, HB.out⟩
end Go.Proofs.YtllajhieocploaaGreatDoor.Nd
namespace Go.Proofs.YtllajhieocploaaGreatDoor.Nd
open Go.ChangeShapes Go.WideShapes Go.ChangeAt Go.RowKit
open Go.Proofs.YtllajhieocploaaGreatDoor.Vv (Sl sv hidIt)
set_option linter.unusedVariables false
set_option maxRecDepth 100000 in
set_option maxHeartbeats 16000000 in
theorem to_any (x : Nw) (e m b g : Sl) (w : World) (h : RdN w x e m b g) (hs : SmallN x) :
    Calls Tryz.prog 7 #[nv x e m b g] w fun en w' => NodP w x en w' := by
  have hE := h.e
  have hM := h.m
  obtain ⟨bk, mm, ph, mn, ol, nw, tm, bu, lg, ap⟩ := x
  obtain ⟨e0, e1, e2⟩ := e
  obtain ⟨t0, t1, t2⟩ := m
  obtain ⟨b0, b1, b2⟩ := b
  obtain ⟨g0, g1, g2⟩ := g
  obtain ⟨⟨z1, rE, nE, lE, cE⟩, ⟨z2, rM, nM, lM, cM⟩, ⟨z3, rB, nB, lB, cB⟩, ⟨z4, rG, lG, cG⟩⟩ := h
  simp only at z1 rE nE lE cE z2 rM nM lM cM z3 rB nB lB cB z4 rG lG cG
  obtain ⟨sE, sM, sB, sG, sA⟩ := hs
  simp only at sE sM sB sG sA hE hM
  have C1 := hidIt (fun W (k : Rp.RdE W (e0, e1, e2) bk) (k' : Rp.RdM W (t0, t1, t2) mm) => Rp.to_any (e0, e1, e2) (t0, t1, t2) (bk, mm) W k k' sE sM)
  have C2 := hidIt (fun W (k : Bu.Rd W b0 bu) => Bu.toS_any b0 b2 bu W k sB)
  have C3 := hidIt (fun W (k : Lg.Rd W g0 lg) => Lg.toLineS_any g0 g2 lg W k sG)
  have C4 := hidIt (fun W => Ro.toRoll_any ph mn ol nw tm W)
  have HE := hidIt hE
  have HM := hidIt hM
  have RB := hidIt rB
  have RG := hidIt rG
  clear hE hM rE rM rB rG sE sM sB sG sA
  subst z1 z2 z3 z4
  simp only [sv] at C1
  generalize bk.length = m1 at *
  generalize mm.length = m2 at *
  generalize bu.length = m3 at *
  generalize lg.length = m4 at *
  have BA : Hid (Bo.Box (((w.alloc (.cells #[.slice e0 m1 e2, .slice t0 m2 t2, .int .i64 ph, .int .i64 mn, .int .i64 ol, .int .i64 nw, .int .i64 tm, .slice b0 m3 b2, .slice g0 m4 g2, .string ap] 31)).alloc (.cells #[.slice none 0 0, .slice none 0 0, .int .i64 0, .int .i64 0, .int .i64 0, .int .i64 0, .int .i64 0, .slice none 0 0, .slice none 0 0, .string ⟨#[]⟩] 42)).alloc (.cells #[.slice none 0 0, .slice none 0 0, .int .i64 0, .int .i64 0, .int .i64 0, .int .i64 0, .int .i64 0, .slice none 0 0, .slice none 0 0, .string ⟨#[]⟩] 42)) w.heap.size #[.slice e0 m1 e2, .slice t0 m2 t2, .int .i64 ph, .int .i64 mn, .int .i64 ol, .int .i64 nw, .int .i64 tm, .slice b0 m3 b2, .slice g0 m4 g2, .string ap]) := hidIt (((Bo.Box.new w _ _).alloc _).alloc _)
  have BB : Hid (Bo.Box (((w.alloc (.cells #[.slice e0 m1 e2, .slice t0 m2 t2, .int .i64 ph, .int .i64 mn, .int .i64 ol, .int .i64 nw, .int .i64 tm, .slice b0 m3 b2, .slice g0 m4 g2, .string ap] 31)).alloc (.cells #[.slice none 0 0, .slice none 0 0, .int .i64 0, .int .i64 0, .int .i64 0, .int .i64 0, .int .i64 0, .slice none 0 0, .slice none 0 0, .string ⟨#[]⟩] 42)).alloc (.cells #[.slice none 0 0, .slice none 0 0, .int .i64 0, .int .i64 0, .int .i64 0, .int .i64 0, .int .i64 0, .slice none 0 0, .slice none 0 0, .string ⟨#[]⟩] 42)) (w.heap.size + 1) #[.slice none 0 0, .slice none 0 0, .int .i64 0, .int .i64 0, .int .i64 0, .int .i64 0, .int .i64 0, .slice none 0 0, .slice none 0 0, .string ⟨#[]⟩]) := hidIt ((Bo.Box.newAt (by simp)).alloc _)
  have BC : Hid (Bo.Box (((w.alloc (.cells #[.slice e0 m1 e2, .slice t0 m2 t2, .int .i64 ph, .int .i64 mn, .int .i64 ol, .int .i64 nw, .int .i64 tm, .slice b0 m3 b2, .slice g0 m4 g2, .string ap] 31)).alloc (.cells #[.slice none 0 0, .slice none 0 0, .int .i64 0, .int .i64 0, .int .i64 0, .int .i64 0, .int .i64 0, .slice none 0 0, .slice none 0 0, .string ⟨#[]⟩] 42)).alloc (.cells #[.slice none 0 0, .slice none 0 0, .int .i64 0, .int .i64 0, .int .i64 0, .int .i64 0, .int .i64 0, .slice none 0 0, .slice none 0 0, .string ⟨#[]⟩] 42)) (w.heap.size + 1 + 1) #[.slice none 0 0, .slice none 0 0, .int .i64 0, .int .i64 0, .int .i64 0, .int .i64 0, .int .i64 0, .slice none 0 0, .slice none 0 0, .string ⟨#[]⟩]) := hidIt (Bo.Box.newAt (by simp))
  have HB : Hid (Below w.heap.size w (((w.alloc (.cells #[.slice e0 m1 e2, .slice t0 m2 t2, .int .i64 ph, .int .i64 mn, .int .i64 ol, .int .i64 nw, .int .i64 tm, .slice b0 m3 b2, .slice g0 m4 g2, .string ap] 31)).alloc (.cells #[.slice none 0 0, .slice none 0 0, .int .i64 0, .int .i64 0, .int .i64 0, .int .i64 0, .int .i64 0, .slice none 0 0, .slice none 0 0, .string ⟨#[]⟩] 42)).alloc (.cells #[.slice none 0 0, .slice none 0 0, .int .i64 0, .int .i64 0, .int .i64 0, .int .i64 0, .int .i64 0, .slice none 0 0, .slice none 0 0, .string ⟨#[]⟩] 42))) := hidIt ((((Below.refl w.heap.size w).alloc (Nat.le_refl _) _).alloc (by simp) _).alloc (by simp; omega) _)
  have hw3 : (((w.alloc (.cells #[.slice e0 m1 e2, .slice t0 m2 t2, .int .i64 ph, .int .i64 mn, .int .i64 ol, .int .i64 nw, .int .i64 tm, .slice b0 m3 b2, .slice g0 m4 g2, .string ap] 31)).alloc (.cells #[.slice none 0 0, .slice none 0 0, .int .i64 0, .int .i64 0, .int .i64 0, .int .i64 0, .int .i64 0, .slice none 0 0, .slice none 0 0, .string ⟨#[]⟩] 42)).alloc (.cells #[.slice none 0 0, .slice none 0 0, .int .i64 0, .int .i64 0, .int .i64 0, .int .i64 0, .int .i64 0, .slice none 0 0, .slice none 0 0, .string ⟨#[]⟩] 42)).heap.size = w.heap.size + 1 + 1 + 1 := by simp
  have a0 := BA.out.c 0 (v := .slice e0 m1 e2) rfl
  have a1 := BA.out.c 1 (v := .slice t0 m2 t2) rfl
  simp only [nv, nc, sv]
  go_enter Tryz.func7, Tryz.ntmps7
  go_wp2_with (fail)
  generalize (((w.alloc (.cells #[.slice e0 m1 e2, .slice t0 m2 t2, .int .i64 ph, .int .i64 mn, .int .i64 ol, .int .i64 nw, .int .i64 tm, .slice b0 m3 b2, .slice g0 m4 g2, .string ap] 31)).alloc (.cells #[.slice none 0 0, .slice none 0 0, .int .i64 0, .int .i64 0, .int .i64 0, .int .i64 0, .int .i64 0, .slice none 0 0, .slice none 0 0, .string ⟨#[]⟩] 42)).alloc (.cells #[.slice none 0 0, .slice none 0 0, .int .i64 0, .int .i64 0, .int .i64 0, .int .i64 0, .int .i64 0, .slice none 0 0, .slice none 0 0, .string ⟨#[]⟩] 42)) = W0 at BA BB BC HB hw3 a0 a1 ⊢
  have ne20 : w.heap.size + 1 + 1 ≠ w.heap.size := by omega
  have ne21 : w.heap.size + 1 + 1 ≠ w.heap.size + 1 := by omega
  have ne12 : w.heap.size + 1 ≠ w.heap.size + 1 + 1 := by omega
  have hle : w.heap.size ≤ w.heap.size + 1 + 1 := by omega
  have hle1 : w.heap.size ≤ w.heap.size + 1 := by omega
  have hn2 : w.heap.size + 1 + 1 < w.heap.size + 1 + 1 + 1 := by omega
  have hn1 : w.heap.size + 1 < w.heap.size + 1 + 1 + 1 := by omega
  have hn3 : w.heap.size ≤ w.heap.size + 1 + 1 + 1 := by omega
  have hb3 : w.heap.size + 1 + 1 + 1 ≤ W0.heap.size := by omega
  have hsz1 : ∀ k, w.heap.size + 1 + 1 < k → w.heap.size + 1 + 1 + 1 ≤ k := fun k h => h
  clear hw3
  generalize w.heap.size + 1 + 1 + 1 = n3 at *
  generalize w.heap.size + 1 + 1 = n2 at *
  generalize w.heap.size + 1 = n1 at *
  refine (C1.out _ (HE.out.kept HB.out) (HM.out.kept HB.out)).mono ?_
  intro en w1 hz
  obtain ⟨⟨x0, x1, x2⟩, ⟨y0, y1, y2⟩, rfl, oE, oM, k⟩ := hz.out
  have OE : Hid (En.Own w1 n3 (.slice x0 x1 x2) bk) := hidIt (oE.mono hb3)
  have OM : Hid (Mm.Own w1 n3 (.slice y0 y1 y2) mm) := hidIt (oM.mono hb3)
  have hb4 : n3 ≤ w1.heap.size := Nat.le_trans hb3 k.size
  have BC1 := hidIt (BC.out.kept k)
  have BB1 := hidIt (BB.out.kept k)
  have BA1 := hidIt (BA.out.kept k)
  have HB1 := hidIt (on HB.out k)
  clear BC BB BA HB
  have BC := BC1
  have BB := BB1
  have BA := BA1
  have HB := HB1
  clear BC1 BB1 BA1 HB1
  clear k oE oM hz a0 a1 C1
  have f0 := BC.out.fr 0
  have f1 := BC.out.fr 1
  have c0 := BC.out.c 0 (v := .slice none 0 0) rfl
  have c1 := BC.out.c 1 (v := .slice none 0 0) rfl
  have BC2 := hidIt (((BC.out).put (c' := #[.slice x0 x1 x2, .slice none 0 0, .int .i64 0, .int .i64 0, .int .i64 0, .int .i64 0, .int .i64 0, .slice none 0 0, .slice none 0 0, .string ⟨#[]⟩]) 0 (.slice x0 x1 x2) (by simp) rfl).put (c' := #[.slice x0 x1 x2, .slice y0 y1 y2, .int .i64 0, .int .i64 0, .int .i64 0, .int .i64 0, .int .i64 0, .slice none 0 0, .slice none 0 0, .string ⟨#[]⟩]) 1 (.slice y0 y1 y2) (by simp) rfl)
  have BB2 := hidIt (((BB.out).other (v := .slice x0 x1 x2) (i := 0) ne21).other (v := .slice y0 y1 y2) (i := 1) ne21)
  have BA2 := hidIt (((BA.out).other (v := .slice x0 x1 x2) (i := 0) ne20).other (v := .slice y0 y1 y2) (i := 1) ne20)
  have HB2 := hidIt (((HB.out).setCell (p := ⟨n2, 0, none⟩) hle (.slice x0 x1 x2)).setCell (p := ⟨n2, 1, none⟩) hle (.slice y0 y1 y2))
  have Y1 := hidIt ((((Only.refl n2 w1)).setCell 0 (.slice x0 x1 x2)).setCell 1 (.slice y0 y1 y2))
  have OE2 := hidIt (OE.out.only Y1.out (.inl hn2))
  have OM2 := hidIt (OM.out.only Y1.out (.inl hn2))
  have a2 := BA2.out.c 2 (v := .int .i64 ph) rfl
  have a3 := BA2.out.c 3 (v := .int .i64 mn) rfl
  have a4 := BA2.out.c 4 (v := .int .i64 ol) rfl
  have a5 := BA2.out.c 5 (v := .int .i64 nw) rfl
  have a6 := BA2.out.c 6 (v := .int .i64 tm) rfl
  clear BC BB BA HB Y1 OE OM
  go_wp2_with (fail)
  generalize ((w1).setCell ⟨n2, 0, none⟩ (.slice x0 x1 x2)).setCell ⟨n2, 1, none⟩ (.slice y0 y1 y2) = wa at BC2 BB2 BA2 HB2 OE2 OM2 a2 a3 a4 a5 a6 ⊢
  clear f0 c0 f1 c1 a2 a3 a4 a5 a6
  have BC := BC2
  have BB := BB2
  have BA := BA2
  have HB := HB2
  have OE := OE2
  have OM := OM2
  clear BC2 BB2 BA2 HB2 OE2 OM2
  refine (C4.out _).mono ?_
  rintro en w2 ⟨rfl, k⟩
  have BC1 := hidIt (BC.out.kept k)
  have BB1 := hidIt (BB.out.kept k)
  have BA1 := hidIt (BA.out.kept k)
  have HB1 := hidIt (on HB.out k)
  have OE1 := hidIt (OE.out.kept k)
  have OM1 := hidIt (OM.out.kept k)
  clear BC BB BA HB OE OM
  have BC := BC1
  have BB := BB1
  have BA := BA1
  have HB := HB1
  have OE := OE1
  have OM := OM1
  clear BC1 BB1 BA1 HB1 OE1 OM1
  clear k C4
  have f2 := BC.out.fr 2
  have f3 := BC.out.fr 3
  have f4 := BC.out.fr 4
  have f5 := BC.out.fr 5
  have f6 := BC.out.fr 6
  have c2 := BC.out.c 2 (v := .int .i64 0) rfl
  have c3 := BC.out.c 3 (v := .int .i64 0) rfl
  have c4 := BC.out.c 4 (v := .int .i64 0) rfl
  have c5 := BC.out.c 5 (v := .int .i64 0) rfl
  have c6 := BC.out.c 6 (v := .int .i64 0) rfl
  have BC2 := hidIt ((((((BC.out).put (c' := #[.slice x0 x1 x2, .slice y0 y1 y2, .int .i64 ph, .int .i64 0, .int .i64 0, .int .i64 0, .int .i64 0, .slice none 0 0, .slice none 0 0, .string ⟨#[]⟩]) 2 (.int .i64 ph) (by simp) rfl).put (c' := #[.slice x0 x1 x2, .slice y0 y1 y2, .int .i64 ph, .int .i64 mn, .int .i64 0, .int .i64 0, .int .i64 0, .slice none 0 0, .slice none 0 0, .string ⟨#[]⟩]) 3 (.int .i64 mn) (by simp) rfl).put (c' := #[.slice x0 x1 x2, .slice y0 y1 y2, .int .i64 ph, .int .i64 mn, .int .i64 ol, .int .i64 0, .int .i64 0, .slice none 0 0, .slice none 0 0, .string ⟨#[]⟩]) 4 (.int .i64 ol) (by simp) rfl).put (c' := #[.slice x0 x1 x2, .slice y0 y1 y2, .int .i64 ph, .int .i64 mn, .int .i64 ol, .int .i64 nw, .int .i64 0, .slice none 0 0, .slice none 0 0, .string ⟨#[]⟩]) 5 (.int .i64 nw) (by simp) rfl).put (c' := #[.slice x0 x1 x2, .slice y0 y1 y2, .int .i64 ph, .int .i64 mn, .int .i64 ol, .int .i64 nw, .int .i64 tm, .slice none 0 0, .slice none 0 0, .string ⟨#[]⟩]) 6 (.int .i64 tm) (by simp) rfl)
  have BB2 := hidIt ((((((BB.out).other (v := .int .i64 ph) (i := 2) ne21).other (v := .int .i64 mn) (i := 3) ne21).other (v := .int .i64 ol) (i := 4) ne21).other (v := .int .i64 nw) (i := 5) ne21).other (v := .int .i64 tm) (i := 6) ne21)
  have BA2 := hidIt ((((((BA.out).other (v := .int .i64 ph) (i := 2) ne20).other (v := .int .i64 mn) (i := 3) ne20).other (v := .int .i64 ol) (i := 4) ne20).other (v := .int .i64 nw) (i := 5) ne20).other (v := .int .i64 tm) (i := 6) ne20)
  have HB2 := hidIt ((((((HB.out).setCell (p := ⟨n2, 2, none⟩) hle (.int .i64 ph)).setCell (p := ⟨n2, 3, none⟩) hle (.int .i64 mn)).setCell (p := ⟨n2, 4, none⟩) hle (.int .i64 ol)).setCell (p := ⟨n2, 5, none⟩) hle (.int .i64 nw)).setCell (p := ⟨n2, 6, none⟩) hle (.int .i64 tm))
  have Y1 := hidIt (((((((Only.refl n2 w2)).setCell 2 (.int .i64 ph)).setCell 3 (.int .i64 mn)).setCell 4 (.int .i64 ol)).setCell 5 (.int .i64 nw)).setCell 6 (.int .i64 tm))
  have OE2 := hidIt (OE.out.only Y1.out (.inl hn2))
  have OM2 := hidIt (OM.out.only Y1.out (.inl hn2))
  have a7 := BA2.out.c 7 (v := .slice b0 m3 b2) rfl
  clear BC BB BA HB Y1 OE OM
  go_wp2_with (fail)
  generalize (((((w2).setCell ⟨n2, 2, none⟩ (.int .i64 ph)).setCell ⟨n2, 3, none⟩ (.int .i64 mn)).setCell ⟨n2, 4, none⟩ (.int .i64 ol)).setCell ⟨n2, 5, none⟩ (.int .i64 nw)).setCell ⟨n2, 6, none⟩ (.int .i64 tm) = wb at BC2 BB2 BA2 HB2 OE2 OM2 a7 ⊢
  clear f2 c2 f3 c3 f4 c4 f5 c5 f6 c6 a7
  have BC := BC2
  have BB := BB2
  have BA := BA2
  have HB := HB2
  have OE := OE2
  have OM := OM2
  clear BC2 BB2 BA2 HB2 OE2 OM2
  refine (C2.out _ (RB.out.kept HB.out)).mono ?_
  rintro en w3 ⟨vB, rfl, oB, k⟩
  obtain ⟨⟨u0, u1, u2⟩, rfl⟩ := slB oB
  have OB : Hid (Bu.Own w3 n3 (.slice u0 u1 u2) bu) := hidIt (oB.mono (hsz1 _ BC.out.lt))
  have BC1 := hidIt (BC.out.kept k)
  have BB1 := hidIt (BB.out.kept k)
  have BA1 := hidIt (BA.out.kept k)
  have HB1 := hidIt (on HB.out k)
  have OE1 := hidIt (OE.out.kept k)
  have OM1 := hidIt (OM.out.kept k)
  clear BC BB BA HB OE OM
  have BC := BC1
  have BB := BB1
  have BA := BA1
  have HB := HB1
  have OE := OE1
  have OM := OM1
  clear BC1 BB1 BA1 HB1 OE1 OM1
  clear k C2 oB
  have f7 := BC.out.fr 7
  have c7 := BC.out.c 7 (v := .slice none 0 0) rfl
  have BC2 := hidIt ((BC.out).put (c' := #[.slice x0 x1 x2, .slice y0 y1 y2, .int .i64 ph, .int .i64 mn, .int .i64 ol, .int .i64 nw, .int .i64 tm, .slice u0 u1 u2, .slice none 0 0, .string ⟨#[]⟩]) 7 (.slice u0 u1 u2) (by simp) rfl)
  have BB2 := hidIt ((BB.out).other (v := .slice u0 u1 u2) (i := 7) ne21)
  have BA2 := hidIt ((BA.out).other (v := .slice u0 u1 u2) (i := 7) ne20)
  have HB2 := hidIt ((HB.out).setCell (p := ⟨n2, 7, none⟩) hle (.slice u0 u1 u2))
  have Y1 := hidIt (((Only.refl n2 w3)).setCell 7 (.slice u0 u1 u2))
  have OE2 := hidIt (OE.out.only Y1.out (.inl hn2))
  have OM2 := hidIt (OM.out.only Y1.out (.inl hn2))
  have OB2 := hidIt (OB.out.only Y1.out (.inl hn2))
  have a8 := BA2.out.c 8 (v := .slice g0 m4 g2) rfl
  clear BC BB BA HB Y1 OE OM OB
  go_wp2_with (fail)
  generalize (w3).setCell ⟨n2, 7, none⟩ (.slice u0 u1 u2) = wc at BC2 BB2 BA2 HB2 OE2 OM2 OB2 a8 ⊢
  clear f7 c7 a8
  have BC := BC2
  have BB := BB2
  have BA := BA2
  have HB := HB2
  have OE := OE2
  have OM := OM2
  have OB := OB2
  clear BC2 BB2 BA2 HB2 OE2 OM2 OB2
  refine (C3.out _ (RG.out.kept HB.out)).mono ?_
  rintro en w4 ⟨vG, rfl, oG, k⟩
  obtain ⟨⟨v0, v1, v2⟩, rfl⟩ := slG oG
  have OG : Hid (Lg.Own w4 n3 (.slice v0 v1 v2) lg) := hidIt (oG.mono (hsz1 _ BC.out.lt))
  have BC1 := hidIt (BC.out.kept k)
  have BB1 := hidIt (BB.out.kept k)
  have BA1 := hidIt (BA.out.kept k)
  have HB1 := hidIt (on HB.out k)
  have OE1 := hidIt (OE.out.kept k)
  have OM1 := hidIt (OM.out.kept k)
  have OB1 := hidIt (OB.out.kept k)
  clear BC BB BA HB OE OM OB
  have BC := BC1
  have BB := BB1
  have BA := BA1
  have HB := HB1
  have OE := OE1
  have OM := OM1
  have OB := OB1
  clear BC1 BB1 BA1 HB1 OE1 OM1 OB1
  clear k C3 oG
  have a9 := BA.out.c 9 (v := .string ap) rfl
  have c0 := BC.out.c 0 (v := .slice x0 x1 x2) rfl
  have c1 := BC.out.c 1 (v := .slice y0 y1 y2) rfl
  have c2 := BC.out.c 2 (v := .int .i64 ph) rfl
  have c3 := BC.out.c 3 (v := .int .i64 mn) rfl
  have c4 := BC.out.c 4 (v := .int .i64 ol) rfl
  have c5 := BC.out.c 5 (v := .int .i64 nw) rfl
  have c6 := BC.out.c 6 (v := .int .i64 tm) rfl
  have c7 := BC.out.c 7 (v := .slice u0 u1 u2) rfl
  have c8 := BC.out.c 8 (v := .slice none 0 0) rfl
  have c9 := BC.out.c 9 (v := .string ⟨#[]⟩) rfl
  have f8 := BC.out.fr 8
  have f9 := BC.out.fr 9
  have b0 := BB.out.c 0 (v := .slice none 0 0) rfl
  have b1 := BB.out.c 1 (v := .slice none 0 0) rfl
  have b2 := BB.out.c 2 (v := .int .i64 0) rfl
  have b3 := BB.out.c 3 (v := .int .i64 0) rfl
  have b4 := BB.out.c 4 (v := .int .i64 0) rfl
  have b5 := BB.out.c 5 (v := .int .i64 0) rfl
  have b6 := BB.out.c 6 (v := .int .i64 0) rfl
  have b7 := BB.out.c 7 (v := .slice none 0 0) rfl
  have b8 := BB.out.c 8 (v := .slice none 0 0) rfl
  have b9 := BB.out.c 9 (v := .string ⟨#[]⟩) rfl
  have g0z := BB.out.fr 0
  have g1z := BB.out.fr 1
  have g2z := BB.out.fr 2
  have g3z := BB.out.fr 3
  have g4z := BB.out.fr 4
  have g5z := BB.out.fr 5
  have g6z := BB.out.fr 6
  have g7z := BB.out.fr 7
  have g8z := BB.out.fr 8
  have g9z := BB.out.fr 9
  have Y1 := hidIt ((((Only.refl n2 w4)).setCell 8 (.slice v0 v1 v2)).setCell 9 (.string ap))
  have Y2 := hidIt ((((((((((((Only.refl n1 (((w4).setCell ⟨n2, 8, none⟩ (.slice v0 v1 v2)).setCell ⟨n2, 9, none⟩ (.string ap)))).setCell 0 (.slice x0 x1 x2)).setCell 1 (.slice y0 y1 y2)).setCell 2 (.int .i64 ph)).setCell 3 (.int .i64 mn)).setCell 4 (.int .i64 ol)).setCell 5 (.int .i64 nw)).setCell 6 (.int .i64 tm)).setCell 7 (.slice u0 u1 u2)).setCell 8 (.slice v0 v1 v2)).setCell 9 (.string ap))
  have PE := hidIt (((OE.out.only Y1.out (.inl hn2)).only Y2.out (.inl hn1)).mono hn3)
  have PM := hidIt (((OM.out.only Y1.out (.inl hn2)).only Y2.out (.inl hn1)).mono hn3)
  have PB := hidIt (((OB.out.only Y1.out (.inl hn2)).only Y2.out (.inl hn1)).mono hn3)
  have PG := hidIt (((OG.out.only Y1.out (.inl hn2)).only Y2.out (.inl hn1)).mono hn3)
  have HBz := hidIt (((((((((((((HB.out).setCell (p := ⟨n2, 8, none⟩) hle (.slice v0 v1 v2)).setCell (p := ⟨n2, 9, none⟩) hle (.string ap)).setCell (p := ⟨n1, 0, none⟩) hle1 (.slice x0 x1 x2)).setCell (p := ⟨n1, 1, none⟩) hle1 (.slice y0 y1 y2)).setCell (p := ⟨n1, 2, none⟩) hle1 (.int .i64 ph)).setCell (p := ⟨n1, 3, none⟩) hle1 (.int .i64 mn)).setCell (p := ⟨n1, 4, none⟩) hle1 (.int .i64 ol)).setCell (p := ⟨n1, 5, none⟩) hle1 (.int .i64 nw)).setCell (p := ⟨n1, 6, none⟩) hle1 (.int .i64 tm)).setCell (p := ⟨n1, 7, none⟩) hle1 (.slice u0 u1 u2)).setCell (p := ⟨n1, 8, none⟩) hle1 (.slice v0 v1 v2)).setCell (p := ⟨n1, 9, none⟩) hle1 (.string ap))
  have RZ := hidIt ((((((((((((((BB.out).other (v := .slice v0 v1 v2) (i := 8) ne21).other (v := .string ap) (i := 9) ne21)).put (c' := #[.slice x0 x1 x2, .slice none 0 0, .int .i64 0, .int .i64 0, .int .i64 0, .int .i64 0, .int .i64 0, .slice none 0 0, .slice none 0 0, .string ⟨#[]⟩]) 0 (.slice x0 x1 x2) (by simp) rfl).put (c' := #[.slice x0 x1 x2, .slice y0 y1 y2, .int .i64 0, .int .i64 0, .int .i64 0, .int .i64 0, .int .i64 0, .slice none 0 0, .slice none 0 0, .string ⟨#[]⟩]) 1 (.slice y0 y1 y2) (by simp) rfl).put (c' := #[.slice x0 x1 x2, .slice y0 y1 y2, .int .i64 ph, .int .i64 0, .int .i64 0, .int .i64 0, .int .i64 0, .slice none 0 0, .slice none 0 0, .string ⟨#[]⟩]) 2 (.int .i64 ph) (by simp) rfl).put (c' := #[.slice x0 x1 x2, .slice y0 y1 y2, .int .i64 ph, .int .i64 mn, .int .i64 0, .int .i64 0, .int .i64 0, .slice none 0 0, .slice none 0 0, .string ⟨#[]⟩]) 3 (.int .i64 mn) (by simp) rfl).put (c' := #[.slice x0 x1 x2, .slice y0 y1 y2, .int .i64 ph, .int .i64 mn, .int .i64 ol, .int .i64 0, .int .i64 0, .slice none 0 0, .slice none 0 0, .string ⟨#[]⟩]) 4 (.int .i64 ol) (by simp) rfl).put (c' := #[.slice x0 x1 x2, .slice y0 y1 y2, .int .i64 ph, .int .i64 mn, .int .i64 ol, .int .i64 nw, .int .i64 0, .slice none 0 0, .slice none 0 0, .string ⟨#[]⟩]) 5 (.int .i64 nw) (by simp) rfl).put (c' := #[.slice x0 x1 x2, .slice y0 y1 y2, .int .i64 ph, .int .i64 mn, .int .i64 ol, .int .i64 nw, .int .i64 tm, .slice none 0 0, .slice none 0 0, .string ⟨#[]⟩]) 6 (.int .i64 tm) (by simp) rfl).put (c' := #[.slice x0 x1 x2, .slice y0 y1 y2, .int .i64 ph, .int .i64 mn, .int .i64 ol, .int .i64 nw, .int .i64 tm, .slice u0 u1 u2, .slice none 0 0, .string ⟨#[]⟩]) 7 (.slice u0 u1 u2) (by simp) rfl).put (c' := #[.slice x0 x1 x2, .slice y0 y1 y2, .int .i64 ph, .int .i64 mn, .int .i64 ol, .int .i64 nw, .int .i64 tm, .slice u0 u1 u2, .slice v0 v1 v2, .string ⟨#[]⟩]) 8 (.slice v0 v1 v2) (by simp) rfl).put (c' := #[.slice x0 x1 x2, .slice y0 y1 y2, .int .i64 ph, .int .i64 mn, .int .i64 ol, .int .i64 nw, .int .i64 tm, .slice u0 u1 u2, .slice v0 v1 v2, .string ap]) 9 (.string ap) (by simp) rfl)
  clear Y1 Y2 BC BB BA HB OE OM OB OG
  go_wp2_with (fail)
  generalize ((((((((((((w4).setCell ⟨n2, 8, none⟩ (.slice v0 v1 v2)).setCell ⟨n2, 9, none⟩ (.string ap)).setCell ⟨n1, 0, none⟩ (.slice x0 x1 x2)).setCell ⟨n1, 1, none⟩ (.slice y0 y1 y2)).setCell ⟨n1, 2, none⟩ (.int .i64 ph)).setCell ⟨n1, 3, none⟩ (.int .i64 mn)).setCell ⟨n1, 4, none⟩ (.int .i64 ol)).setCell ⟨n1, 5, none⟩ (.int .i64 nw)).setCell ⟨n1, 6, none⟩ (.int .i64 tm)).setCell ⟨n1, 7, none⟩ (.slice u0 u1 u2)).setCell ⟨n1, 8, none⟩ (.slice v0 v1 v2)).setCell ⟨n1, 9, none⟩ (.string ap) = wz at PE PM PB PG HBz RZ ⊢
  clear c0 b0 g0z c1 b1 g1z c2 b2 g2z c3 b3 g3z c4 b4 g4z c5 b5 g5z c6 b6 g6z c7 b7 g7z c8 b8 g8z c9 b9 g9z f8 f9 a9
  have q0 := RZ.out.c 0 (v := .slice x0 x1 x2) rfl
  have q1 := RZ.out.c 1 (v := .slice y0 y1 y2) rfl
  have q2 := RZ.out.c 2 (v := .int .i64 ph) rfl
  have q3 := RZ.out.c 3 (v := .int .i64 mn) rfl
  have q4 := RZ.out.c 4 (v := .int .i64 ol) rfl
  have q5 := RZ.out.c 5 (v := .int .i64 nw) rfl
  have q6 := RZ.out.c 6 (v := .int .i64 tm) rfl
  have q7 := RZ.out.c 7 (v := .slice u0 u1 u2) rfl
  have q8 := RZ.out.c 8 (v := .slice v0 v1 v2) rfl
  have q9 := RZ.out.c 9 (v := .string ap) rfl
  refine bodyPost_end (v := .agg #[.slice x0 x1 x2, .slice y0 y1 y2, .int .i64 ph, .int .i64 mn, .int .i64 ol, .int .i64 nw, .int .i64 tm, .slice u0 u1 u2, .slice v0 v1 v2, .string ap]) (by simp [results, Tryz.results7, go_sem, q0, q1, q2, q3, q4, q5, q6, q7, q8, q9]) rfl ?_
  exact NodP.of (e := (x0, x1, x2)) (m := (y0, y1, y2)) (b := (u0, u1, u2)) (g := (v0, v1, v2)) rfl ⟨PE.out, PM.out, PB.out, PG.out⟩ HBz.out
end Go.Proofs.YtllajhieocploaaGreatDoor.Nd
