/-
  A Replica that is right.
  A Node as it lies in memory: ten cells, four of them slices. (Written by wip/mkNod.py.)
  szNode and eqNode of the laws. (Written by wip/mkNod.py.)
  markNode of the laws: a Node of the call's own is marked: its four rows alone turn.
  What the law does with a Deed: markDeed, heldDeed.
-/
import Derived.Test.YtllajhieocploaaGreatDoorBun16
import Derived.Test.YtllajhieocploaaGreatDoorBun9
import Derived.Test.YtllajhieocploaaGreatDoorBun11
import Derived.Test.YtllajhieocploaaGreatDoorBun8
import Derived.Test.YtllajhieocploaaGreatDoorBun3
import Derived.Test.YtllajhieocploaaGreatDoorBun1
import Derived.Test.YtllajhieocploaaGreatDoorBun7
import Derived.Test.YtllajhieocploaaGreatDoorBun10
import Derived.Test.YtllajhieocploaaGreatDoorBun4
import Derived.Test.YtllajhieocploaaGreatDoorBoxM
import Derived.Test.YtllajhieocploaaGreatDoorBun12
import Derived.Test.YtllajhieocploaaGreatDoorBun5
import Derived.Test.YtllajhieocploaaGreatDoorBun14
namespace Go.Proofs.YtllajhieocploaaGreatDoor.Rp
open Go.ChangeShapes Go.WideShapes Go.ChangeAt Go.RowKit
open Go.Proofs.YtllajhieocploaaGreatDoor.Vv (Sl sv hidIt)
set_option linter.unusedVariables false
/-- A Replica that is right. -/
def okR (r : Rep) : Bool := Bk.okBk (En.toB r.1) && Mk.okBk (Mm.toB r.2)
end Go.Proofs.YtllajhieocploaaGreatDoor.Rp
namespace Go.Proofs.YtllajhieocploaaGreatDoor.Nd
open Go.ChangeShapes Go.WideShapes Go.ChangeAt Go.RowKit
open Go.Proofs.YtllajhieocploaaGreatDoor.Vv (Sl sv hidIt)
set_option linter.unusedVariables false
/-- A Node in plain words. -/
structure Nw where
  book : List En.Rw
  mem : List Mm.Rw
  ph : Int
  mn : Int
  ol : Int
  nw : Int
  tm : Int
  buc : List Bu.Rw
  log : List Lg.Ln
  apex : ByteArray
structure RdB (w : World) (s : Sl) (L : List Bu.Rw) : Prop where
  len : s.2.1 = L.length
  rd : Bu.Rd w s.1 L
  na : s.1 = none → s.2.2 = 0
  le : L.length ≤ s.2.2
  cap : s.2.2 ≤ 9223372036854775807
structure RdG (w : World) (s : Sl) (L : List Lg.Ln) : Prop where
  len : s.2.1 = L.length
  rd : Lg.Rd w s.1 L
  le : L.length ≤ s.2.2
  cap : s.2.2 ≤ 9223372036854775807
theorem RdB.kept {w w' : World} {s : Sl} {L : List Bu.Rw} (h : RdB w s L) (k : Below w.heap.size w w') : RdB w' s L := ⟨h.len, h.rd.kept k, h.na, h.le, h.cap⟩
theorem RdG.kept {w w' : World} {s : Sl} {L : List Lg.Ln} (h : RdG w s L) (k : Below w.heap.size w w') : RdG w' s L := ⟨h.len, h.rd.kept k, h.le, h.cap⟩
theorem rdB_of {w : World} {base : Nat} {s : Sl} {L : List Bu.Rw} (h : Bu.Own w base (sv s) L) : RdB w s L := by
  obtain ⟨a, c, e, h1, h2, r, h4, _⟩ := h.form
  obtain ⟨s0, s1, s2⟩ := s
  simp only [sv, Value.slice.injEq] at e
  obtain ⟨rfl, rfl, rfl⟩ := e
  exact ⟨rfl, r, h4, h1, h2⟩
theorem rdG_of {w : World} {base : Nat} {s : Sl} {L : List Lg.Ln} (h : Lg.Own w base (sv s) L) : RdG w s L := by
  obtain ⟨a, c, e, h1, h2, r, h4, _⟩ := h.form
  obtain ⟨s0, s1, s2⟩ := s
  simp only [sv, Value.slice.injEq] at e
  obtain ⟨rfl, rfl, rfl⟩ := e
  exact ⟨rfl, r, h1, h2⟩
theorem slB {w : World} {base : Nat} {v : Value} {L : List Bu.Rw} (h : Bu.Own w base v L) : ∃ s : Sl, v = sv s := by
  obtain ⟨a, c, e, _⟩ := h.form
  exact ⟨(a, L.length, c), e⟩
theorem slG {w : World} {base : Nat} {v : Value} {L : List Lg.Ln} (h : Lg.Own w base v L) : ∃ s : Sl, v = sv s := by
  obtain ⟨a, c, e, _⟩ := h.form
  exact ⟨(a, L.length, c), e⟩
/-- A Node whose lists lie at four slices. -/
structure RdN (w : World) (x : Nw) (e m b g : Sl) : Prop where
  e : Rp.RdE w e x.book
  m : Rp.RdM w m x.mem
  b : RdB w b x.buc
  g : RdG w g x.log
theorem RdN.kept {w w' : World} {x : Nw} {e m b g : Sl} (h : RdN w x e m b g) (k : Below w.heap.size w w') : RdN w' x e m b g := ⟨h.e.kept k, h.m.kept k, h.b.kept k, h.g.kept k⟩
abbrev nc (x : Nw) (e m b g : Sl) : Array Value := #[sv e, sv m, .int .i64 x.ph, .int .i64 x.mn, .int .i64 x.ol, .int .i64 x.nw, .int .i64 x.tm, sv b, sv g, .string x.apex]
abbrev nv (x : Nw) (e m b g : Sl) : Value := .agg (nc x e m b g)
/-- The lists of a Node of the call's own. -/
structure OwnN (w : World) (base : Nat) (x : Nw) (e m b g : Sl) : Prop where
  e : En.Own w base (sv e) x.book
  m : Mm.Own w base (sv m) x.mem
  b : Bu.Own w base (sv b) x.buc
  g : Lg.Own w base (sv g) x.log
theorem OwnN.rd {w : World} {base : Nat} {x : Nw} {e m b g : Sl} (h : OwnN w base x e m b g) : RdN w x e m b g := ⟨Rp.rdE_of h.e, Rp.rdM_of h.m, rdB_of h.b, rdG_of h.g⟩
theorem OwnN.kept {w w' : World} {base : Nat} {x : Nw} {e m b g : Sl} (h : OwnN w base x e m b g) (k : Below w.heap.size w w') : OwnN w' base x e m b g := ⟨h.e.kept k, h.m.kept k, h.b.kept k, h.g.kept k⟩
/-- No text of it is longer than a text may be. -/
structure ShortN (x : Nw) : Prop where
  e : En.shortR x.book
  g : ∀ i, i < x.log.length → (Lg.lat x.log i).1.size ≤ 9223372036854775807
  ap : x.apex.size ≤ 9223372036854775807
/-- It is not too great. -/
structure SmallN (x : Nw) : Prop where
  e : x.book.length ≤ 1048576
  m : x.mem.length ≤ 1048576
  b : x.buc.length ≤ 1048576
  g : x.log.length ≤ 1048576
  ap : x.apex.size ≤ 1048576
structure Le3 (x : Nw) (q l : Int) : Prop where
  le : q ≤ l
  sm : 0 ≤ q → SmallN x
def NodP (w : World) (x : Nw) (en : Ending) (w' : World) : Prop := ∃ e m b g : Sl, en = .returned (nv x e m b g) ∧ OwnN w' w.heap.size x e m b g ∧ Below w.heap.size w w'
theorem NodP.of {w w' : World} {x : Nw} {en : Ending} {e m b g : Sl} (h : en = .returned (nv x e m b g)) (h1 : OwnN w' w.heap.size x e m b g) (h2 : Below w.heap.size w w') : NodP w x en w' := ⟨e, m, b, g, h, h1, h2⟩
theorem NodP.out {w w' : World} {x : Nw} {en : Ending} (h : NodP w x en w') : ∃ e m b g : Sl, en = .returned (nv x e m b g) ∧ OwnN w' w.heap.size x e m b g ∧ Below w.heap.size w w' := h
/-- NodeOk in plain words. -/
def okN (x : Nw) : Bool := Bk.okBk (En.toB x.book) && (Mk.okBk (Mm.toB x.mem) && (Ro.rollOk x.ph x.mn x.ol x.nw x.tm && (Bu.okB x.buc && (Lg.okL x.log && apexB x.apex))))
end Go.Proofs.YtllajhieocploaaGreatDoor.Nd
namespace Go.Proofs.YtllajhieocploaaGreatDoor.Nd
open Go.ChangeShapes Go.WideShapes Go.ChangeAt Go.RowKit
open Go.Proofs.YtllajhieocploaaGreatDoor.Vv (Sl sv hidIt)
set_option linter.unusedVariables false
theorem on {W a b : World} (h : Below W.heap.size W a) (k : Below a.heap.size a b) : Below W.heap.size W b := h.trans (k.mono h.size)
set_option maxRecDepth 100000 in
set_option maxHeartbeats 8000000 in
theorem sz_any (x : Nw) (e m b g : Sl) (l : Int) (w : World) (h : RdN w x e m b g) (hs : ShortN x) (h0 : 0 ≤ l) (h1 : l ≤ 1048576) :
    Calls Tryz.prog 5 #[nv x e m b g, .int .i64 l] w fun en w' => ∃ q : Int, en = .returned (.int .i64 q) ∧ Le3 x q l ∧ Below w.heap.size w w' := by
  have hE := h.e
  have hM := h.m
  obtain ⟨bk, mm, ph, mn, ol, nw, tm, bu, lg, ap⟩ := x
  obtain ⟨e0, e1, e2⟩ := e
  obtain ⟨t0, t1, t2⟩ := m
  obtain ⟨b0, b1, b2⟩ := b
  obtain ⟨g0, g1, g2⟩ := g
  obtain ⟨⟨z1, rE, nE, lE, cE⟩, ⟨z2, rM, nM, lM, cM⟩, ⟨z3, rB, nB, lB, cB⟩, ⟨z4, rG, lG, cG⟩⟩ := h
  simp only at z1 rE nE lE cE z2 rM nM lM cM z3 rB nB lB cB z4 rG lG cG
  obtain ⟨sE, sG, sA⟩ := hs
  simp only at sE sG sA hE hM
  have C1 := hidIt (fun W (k : Rp.RdE W (e0, e1, e2) bk) (k' : Rp.RdM W (t0, t1, t2) mm) => Rp.sz_any (e0, e1, e2) (t0, t1, t2) (bk, mm) l W k k' sE h0 h1)
  have C2 := hidIt (fun l' W (k : Bu.Rd W b0 bu) => Bu.szS_any b0 b2 bu l' W k (by omega))
  have C3 := hidIt (fun l' W (k : Lg.Rd W g0 lg) => Lg.szLineS_any g0 g2 lg l' W k (by omega) sG)
  have HE := hidIt hE
  have HM := hidIt hM
  have RB := hidIt rB
  have RG := hidIt rG
  have MK : Hid (∀ q : Int, q ≤ l → (0 ≤ q → bk.length + mm.length ≤ 1048576 ∧ bu.length ≤ 1048576 ∧ lg.length ≤ 1048576 ∧ ap.size ≤ 1048576) → Le3 ⟨bk, mm, ph, mn, ol, nw, tm, bu, lg, ap⟩ q l) := hidIt (fun q a c => ⟨a, fun z => by obtain ⟨i1, i2, i3, i4⟩ := c z; exact ⟨by show bk.length ≤ _; omega, by show mm.length ≤ _; omega, i2, i3, i4⟩⟩)
  have hbulk : Rp.bulk1 (bk, mm) = bk.length + mm.length := rfl
  rw [hbulk] at C1
  clear hE hM sE sG rE rM rB rG hbulk
  subst z1 z2 z3 z4
  simp only [sv] at C1
  generalize bk.length = m1 at *
  generalize mm.length = m2 at *
  generalize bu.length = m3 at *
  generalize lg.length = m4 at *
  have BX := hidIt (Bo.Box.new w #[.slice e0 m1 e2, .slice t0 m2 t2, .int .i64 ph, .int .i64 mn, .int .i64 ol, .int .i64 nw, .int .i64 tm, .slice b0 m3 b2, .slice g0 m4 g2, .string ap] 31)
  have HB := hidIt ((Below.refl w.heap.size w).alloc (Nat.le_refl _) (.cells #[.slice e0 m1 e2, .slice t0 m2 t2, .int .i64 ph, .int .i64 mn, .int .i64 ol, .int .i64 nw, .int .i64 tm, .slice b0 m3 b2, .slice g0 m4 g2, .string ap] 31))
  have d0 := BX.out.c 0 rfl
  have d1 := BX.out.c 1 rfl
  simp only [nv, nc, sv]
  go_enter Tryz.func5, Tryz.ntmps5
  go_wp2_with (fail)
  refine (C1.out _ (HE.out.kept HB.out) (HM.out.kept HB.out)).mono ?_
  rintro en w1 ⟨q, rfl, hq, k1⟩
  have HQ := hidIt hq
  have HB1 := hidIt (on HB.out k1)
  have BX1 := hidIt (BX.out.kept k1)
  have q1 := hq.le
  clear k1 hq d0 d1
  by_cases hneg : q < 0
  · go_wp2_with (fail)
    go_ret
    first | exact ⟨-1, rfl, MK.out _ (by omega) (fun z => by omega), HB1.out⟩ | exact ⟨MK.out _ (by omega) (fun z => by omega), HB1.out⟩
  have d7 := BX1.out.c 7 rfl
  go_wp2_with (fail)
  refine (C2.out q _ (RB.out.kept HB1.out) (by omega) (by omega)).mono ?_
  rintro en w2 ⟨p, rfl, hp, hp2, k1⟩
  have HB2 := hidIt (on HB1.out k1)
  have BX2 := hidIt (BX1.out.kept k1)
  have p1 := hp.le
  have HP2 := hidIt hp2
  clear k1 hp d7 hp2
  by_cases hneg2 : p < 0
  · go_wp2_with (fail)
    go_ret
    first | exact ⟨-1, rfl, MK.out _ (by omega) (fun z => by omega), HB2.out⟩ | exact ⟨MK.out _ (by omega) (fun z => by omega), HB2.out⟩
  have d8 := BX2.out.c 8 rfl
  go_wp2_with (fail)
  refine (C3.out p _ (RG.out.kept HB2.out) (by omega) (by omega)).mono ?_
  rintro en w3 ⟨r, rfl, hr, hr2, k1⟩
  have HB3 := hidIt (on HB2.out k1)
  have BX3 := hidIt (BX2.out.kept k1)
  have HR2 := hidIt hr2
  clear k1 d8 hr2
  by_cases hneg3 : r < 0
  · go_wp2_with (fail)
    go_ret
    first | exact ⟨-1, rfl, MK.out _ (by omega) (fun z => by omega), HB3.out⟩ | exact ⟨MK.out _ (by omega) (fun z => by omega), HB3.out⟩
  have d9 := BX3.out.c 9 rfl
  have gw : ¬ 9223372036854775807 < r - (ap.size : Int) := by omega
  have gw2 : ¬ r - (ap.size : Int) < -9223372036854775808 := by omega
  by_cases hneg4 : r - (ap.size : Int) < 0
  · go_wp2_with (fail)
    go_ret
    first | exact ⟨-1, rfl, MK.out _ (by omega) (fun z => by omega), HB3.out⟩ | exact ⟨MK.out _ (by omega) (fun z => by omega), HB3.out⟩
  · go_wp2_with (fail)
    go_ret
    have i1 := HQ.out.sum (by omega)
    have i2 := HP2.out (by omega)
    have i3 := HR2.out (by omega)
    first | exact ⟨_, rfl, MK.out _ (by omega) (fun z => ⟨by omega, i2, i3, by omega⟩), HB3.out⟩ | exact ⟨MK.out _ (by omega) (fun z => ⟨by omega, i2, i3, by omega⟩), HB3.out⟩
set_option maxRecDepth 100000 in
set_option maxHeartbeats 8000000 in
theorem eq_same (x : Nw) (e m b g e' m' b' g' : Sl) (w : World) (h : RdN w x e m b g) (h' : RdN w x e' m' b' g') (hlg : x.log.length ≤ 9223372036854775806) :
    Calls Tryz.prog 9 #[nv x e m b g, nv x e' m' b' g'] w fun en w' => en = .returned (.bool true) ∧ Below w.heap.size w w' := by
  have hE := h.e
  have hM := h.m
  have hE' := h'.e
  have hM' := h'.m
  obtain ⟨bk, mm, ph, mn, ol, nw, tm, bu, lg, ap⟩ := x
  obtain ⟨e0, e1, e2⟩ := e
  obtain ⟨t0, t1, t2⟩ := m
  obtain ⟨b0, b1, b2⟩ := b
  obtain ⟨g0, g1, g2⟩ := g
  obtain ⟨⟨z1, rE, nE, lE, cE⟩, ⟨z2, rM, nM, lM, cM⟩, ⟨z3, rB, nB, lB, cB⟩, ⟨z4, rG, lG, cG⟩⟩ := h
  simp only at z1 rE nE lE cE z2 rM nM lM cM z3 rB nB lB cB z4 rG lG cG
  obtain ⟨p0, p1, p2⟩ := e'
  obtain ⟨q0, q1, q2⟩ := m'
  obtain ⟨r0, r1, r2⟩ := b'
  obtain ⟨s0, s1, s2⟩ := g'
  obtain ⟨⟨y1, rE', _, _, _⟩, ⟨y2, rM', _, _, _⟩, ⟨y3, rB', _, _, _⟩, ⟨y4, rG', _, _⟩⟩ := h'
  simp only at hE hM hE' hM' y1 y2 y3 y4 rB' rG'
  have C1 := hidIt (fun W (k : Rp.RdE W (e0, e1, e2) bk) (k' : Rp.RdM W (t0, t1, t2) mm) (j : Rp.RdE W (p0, p1, p2) bk) (j' : Rp.RdM W (q0, q1, q2) mm) => Rp.eq_same (e0, e1, e2) (t0, t1, t2) (p0, p1, p2) (q0, q1, q2) (bk, mm) W k k' j j')
  have C2 := hidIt (fun W (k : Bu.Rd W b0 bu) (k' : Bu.Rd W r0 bu) => Bu.eqS_same b0 r0 b2 r2 bu W k k' (by omega))
  have C3 := hidIt (fun W (k : Lg.Rd W g0 lg) (k' : Lg.Rd W s0 lg) (hl : lg.length ≤ 9223372036854775806) => Lg.eqLineS_any g0 s0 g2 s2 lg W k k' hl)
  have C4 := hidIt (fun W => Ro.eqRoll_same ph mn ol nw tm W)
  have HE := hidIt hE
  have HM := hidIt hM
  have HE' := hidIt hE'
  have HM' := hidIt hM'
  have RB := hidIt rB
  have RG := hidIt rG
  have RB' := hidIt rB'
  have RG' := hidIt rG'
  have hG6 : lg.length ≤ 9223372036854775806 := hlg
  have hap : (ap.toList == ap.toList) = true := by simp
  clear hE hM hE' hM' rE rM rB rG rE' rM' rB' rG'
  subst z1 z2 z3 z4 y1 y2 y3 y4
  simp only [sv] at C1
  generalize bk.length = m1 at *
  generalize mm.length = m2 at *
  generalize bu.length = m3 at *
  generalize lg.length = m4 at *
  have BX := hidIt ((Bo.Box.new w #[.slice e0 m1 e2, .slice t0 m2 t2, .int .i64 ph, .int .i64 mn, .int .i64 ol, .int .i64 nw, .int .i64 tm, .slice b0 m3 b2, .slice g0 m4 g2, .string ap] 42).alloc (.cells #[.slice p0 m1 p2, .slice q0 m2 q2, .int .i64 ph, .int .i64 mn, .int .i64 ol, .int .i64 nw, .int .i64 tm, .slice r0 m3 r2, .slice s0 m4 s2, .string ap] 42))
  have BY := hidIt (Bo.Box.newAt (w := w.alloc (.cells #[.slice e0 m1 e2, .slice t0 m2 t2, .int .i64 ph, .int .i64 mn, .int .i64 ol, .int .i64 nw, .int .i64 tm, .slice b0 m3 b2, .slice g0 m4 g2, .string ap] 42)) (c := #[.slice p0 m1 p2, .slice q0 m2 q2, .int .i64 ph, .int .i64 mn, .int .i64 ol, .int .i64 nw, .int .i64 tm, .slice r0 m3 r2, .slice s0 m4 s2, .string ap]) (T := 42) (k := w.heap.size + 1) (by simp))
  have HB := hidIt (((Below.refl w.heap.size w).alloc (Nat.le_refl _) (.cells #[.slice e0 m1 e2, .slice t0 m2 t2, .int .i64 ph, .int .i64 mn, .int .i64 ol, .int .i64 nw, .int .i64 tm, .slice b0 m3 b2, .slice g0 m4 g2, .string ap] 42)).alloc (by simp) (.cells #[.slice p0 m1 p2, .slice q0 m2 q2, .int .i64 ph, .int .i64 mn, .int .i64 ol, .int .i64 nw, .int .i64 tm, .slice r0 m3 r2, .slice s0 m4 s2, .string ap] 42))
  have d0 := BX.out.c 0 rfl
  have d1 := BX.out.c 1 rfl
  have f0 := BY.out.c 0 rfl
  have f1 := BY.out.c 1 rfl
  simp only [nv, nc, sv]
  go_enter Tryz.func9, Tryz.ntmps9
  go_wp2_with (fail)
  generalize (w.alloc (.cells #[.slice e0 m1 e2, .slice t0 m2 t2, .int .i64 ph, .int .i64 mn, .int .i64 ol, .int .i64 nw, .int .i64 tm, .slice b0 m3 b2, .slice g0 m4 g2, .string ap] 42)).alloc (.cells #[.slice p0 m1 p2, .slice q0 m2 q2, .int .i64 ph, .int .i64 mn, .int .i64 ol, .int .i64 nw, .int .i64 tm, .slice r0 m3 r2, .slice s0 m4 s2, .string ap] 42) = W0 at BX BY HB d0 d1 f0 f1 ⊢
  refine (C1.out _ (HE.out.kept HB.out) (HM.out.kept HB.out) (HE'.out.kept HB.out) (HM'.out.kept HB.out)).mono ?_
  rintro en w1 ⟨rfl, k1⟩
  replace HB := hidIt (on HB.out k1)
  replace BX := hidIt (BX.out.kept k1)
  replace BY := hidIt (BY.out.kept k1)
  clear k1 d0 d1 f0 f1
  have d2 := BX.out.c 2 rfl
  have d3 := BX.out.c 3 rfl
  have d4 := BX.out.c 4 rfl
  have d5 := BX.out.c 5 rfl
  have d6 := BX.out.c 6 rfl
  have f2 := BY.out.c 2 rfl
  have f3 := BY.out.c 3 rfl
  have f4 := BY.out.c 4 rfl
  have f5 := BY.out.c 5 rfl
  have f6 := BY.out.c 6 rfl
  go_wp2_with (fail)
  refine (C4.out _).mono ?_
  rintro en w2 ⟨rfl, k1⟩
  replace HB := hidIt (on HB.out k1)
  replace BX := hidIt (BX.out.kept k1)
  replace BY := hidIt (BY.out.kept k1)
  clear k1 d2 d3 d4 d5 d6 f2 f3 f4 f5 f6
  have d7 := BX.out.c 7 rfl
  have f7 := BY.out.c 7 rfl
  go_wp2_with (fail)
  refine (C2.out _ (RB.out.kept HB.out) (RB'.out.kept HB.out)).mono ?_
  rintro en w3 ⟨rfl, k1⟩
  replace HB := hidIt (on HB.out k1)
  replace BX := hidIt (BX.out.kept k1)
  replace BY := hidIt (BY.out.kept k1)
  clear k1 d7 f7
  have d8 := BX.out.c 8 rfl
  have f8 := BY.out.c 8 rfl
  go_wp2_with (fail)
  refine (C3.out _ (RG.out.kept HB.out) (RG'.out.kept HB.out) hG6).mono ?_
  rintro en w4 ⟨rfl, k1⟩
  replace HB := hidIt (on HB.out k1)
  replace BX := hidIt (BX.out.kept k1)
  replace BY := hidIt (BY.out.kept k1)
  clear k1 d8 f8
  have d9 := BX.out.c 9 rfl
  have f9 := BY.out.c 9 rfl
  go_wp2_with (fail)
  go_ret
  exact ⟨rfl, HB.out⟩
end Go.Proofs.YtllajhieocploaaGreatDoor.Nd
namespace Go.Proofs.YtllajhieocploaaGreatDoor.Nd
open Go.ChangeShapes Go.WideShapes Go.ChangeAt Go.RowKit
open Go.Proofs.YtllajhieocploaaGreatDoor.Vv (Sl sv hidIt)
open Go.Proofs.YtllajhieocploaaGreatDoor.Rp (OnlyIn own_apart row_other)
set_option linter.unusedVariables false
/-- What a mark leaves: blocks from lo up to hi alone turn; rows of other elements than those of the list stay. -/
structure Mk (ts : List Nat) (lo hi : Nat) (w w' : World) : Prop where
  only : OnlyIn lo hi w w'
  stay : ∀ (b e s n : Nat) (v : Value) (xs : List Value), w.ownsRow b e s v n xs → e ∉ ts → w'.ownsRow b e s v n xs
theorem Mk.trans {ts us : List Nat} {lo hi : Nat} {a b d : World} (h : Mk ts lo hi a b) (k : Mk us lo hi b d) : Mk (ts ++ us) lo hi a d :=
  ⟨h.only.trans k.only, fun p e s n v xs r hn => k.stay p e s n v xs (h.stay p e s n v xs r (fun q => hn (List.mem_append_left _ q))) (fun q => hn (List.mem_append_right _ q))⟩
theorem Mk.of_below {lo hi : Nat} {w w' : World} (h : Below w.heap.size w w') : Mk [] lo hi w w' :=
  ⟨.of_below h, fun b e s n v xs r _ => World.ownsRow.kept (row := none) r ⟨h.os, h.tape, h.output, h.size, fun i hi _ => h.block i hi⟩ (by cases v.ownBlock <;> simp)⟩
theorem Mk.of_row {b e s n lo hi : Nat} {v : Value} {xs : List Value} {w w' : World} (r : w.ownsRow b e s v n xs) (Y : Only (v.ownBlock.getD w.heap.size) w w') (hb : lo ≤ b) (hh : ∀ g, v.ownBlock = some g → g < hi) : Mk [e] lo hi w w' := by
  refine ⟨.of_only Y ?_, fun b' e' s' n' v' xs' r' hn => row_other r' r Y (own_apart r' r (fun q => hn (by rw [q]; simp)))⟩
  cases hv : v.ownBlock with
  | none => exact .inl (by simp)
  | some g =>
    have := (World.ownsRow.lt r g hv).1
    exact .inr ⟨by simpa using (by omega : lo ≤ g), by simpa using hh g hv⟩
theorem Mk.box {ts : List Nat} {lo hi b : Nat} {c : Array Value} {w w' : World} (h : Mk ts lo hi w w') (x : Bo.Box w b c) (hb : hi ≤ b) : Bo.Box w' b c :=
  ⟨Nat.lt_of_lt_of_le x.lt h.only.size, fun i => by rw [World.cell?_of_block (w := w) (h.only.block b x.lt (by omega))]; exact x.at' i, fun i => by rw [World.frozen?_of_block (w := w) (h.only.block b x.lt (by omega))]; exact x.fr i⟩
/-- The blocks of a value's row lie below hi. -/
abbrev Lo (hi : Nat) (v : Value) : Prop := ∀ g, v.ownBlock = some g → g < hi
set_option maxRecDepth 100000 in
set_option maxHeartbeats 8000000 in
theorem markRep_any (e m : Sl) (A : List En.Rw) (B : List Mm.Rw) (k lo hi : Nat) (w : World) (hE : En.Own w lo (sv e) A) (hM : Mm.Own w lo (sv m) B) (lE : Lo hi (sv e)) (lM : Lo hi (sv m)) (hhi : hi ≤ w.heap.size) (h1 : 1 ≤ k) (h2 : k + 5 * A.length + 3 * B.length ≤ 1099511627776) :
    Calls Tryz.prog 46 #[.agg #[sv e, sv m], .int .i64 k] w fun en w' => en = .returned (.int .i64 ((k + 5 * A.length + 3 * B.length : Nat) : Int)) ∧ Mk [98, 100] lo hi w w' := by
  obtain ⟨e0, e1, e2⟩ := e
  obtain ⟨m0, m1, m2⟩ := m
  simp only [sv] at hE hM lE lM ⊢
  have BX := hidIt (Bo.Box.new w #[.slice e0 e1 e2, .slice m0 m1 m2] 37)
  have HB := hidIt ((Below.refl w.heap.size w).alloc (Nat.le_refl _) (.cells #[.slice e0 e1 e2, .slice m0 m1 m2] 37))
  have MK0 := hidIt (Mk.of_below (lo := lo) (hi := hi) HB.out)
  have HE := hidIt (hE.alloc (.cells #[.slice e0 e1 e2, .slice m0 m1 m2] 37))
  have HM := hidIt (hM.alloc (.cells #[.slice e0 e1 e2, .slice m0 m1 m2] 37))
  have C1 := hidIt (fun W (h : En.Own W lo (.slice e0 e1 e2) A) => En.markS_any lo (.slice e0 e1 e2) A k W h h1 (by omega))
  have C2 := hidIt (fun W (h : Mm.Own W lo (.slice m0 m1 m2) B) => Mm.markS_any lo (.slice m0 m1 m2) B (k + 5 * A.length) W h (by omega) (by omega))
  clear hE hM
  generalize k + 5 * A.length + 3 * B.length = q2 at *
  generalize k + 5 * A.length = q1 at *
  have d0 := BX.out.c 0 rfl
  go_enter Tryz.func46, Tryz.ntmps46
  go_wp2_with (fail)
  generalize w.alloc (.cells #[.slice e0 e1 e2, .slice m0 m1 m2] 37) = W0 at BX HB MK0 HE HM d0 ⊢
  refine (C1.out _ HE.out).mono ?_
  rintro en w1 ⟨rfl, oE, Y⟩
  have M1 := hidIt (Mk.of_row (lo := lo) (hi := hi) HE.out Y (Nat.le_refl _) lE)
  have BX1 := hidIt (M1.out.box BX.out hhi)
  have HM1 : Hid (Mm.Own w1 lo (.slice m0 m1 m2) B) := hidIt (M1.out.stay _ _ _ _ _ _ HM.out (by decide))
  clear oE Y d0 BX HM HE
  have d1 := BX1.out.c 1 rfl
  go_wp2_with (fail)
  refine (C2.out _ HM1.out).mono ?_
  rintro en w2 ⟨rfl, oM, Y⟩
  have M2 := hidIt (Mk.of_row (lo := lo) (hi := hi) HM1.out Y (Nat.le_refl _) lM)
  clear oM Y d1
  go_wp2_with (fail)
  go_ret
  exact ⟨rfl, (MK0.out.trans M1.out).trans M2.out⟩
set_option maxRecDepth 100000 in
set_option maxHeartbeats 8000000 in
theorem mark_any (x : Nw) (e m b g : Sl) (k lo hi : Nat) (w : World) (h : OwnN w lo x e m b g) (lE : Lo hi (sv e)) (lM : Lo hi (sv m)) (lB : Lo hi (sv b)) (lG : Lo hi (sv g)) (hhi : hi ≤ w.heap.size) (h1 : 1 ≤ k) (hs : SmallN x) (hk : k ≤ 1000) :
    Calls Tryz.prog 13 #[nv x e m b g, .int .i64 k] w fun en w' => ∃ q : Nat, en = .returned (.int .i64 (q : Int)) ∧ Mk [98, 100, 103, 104] lo hi w w' := by
  obtain ⟨bk, mm, ph, mn, ol, nw, tm, bu, lg, ap⟩ := x
  obtain ⟨e0, e1, e2⟩ := e
  obtain ⟨t0, t1, t2⟩ := m
  obtain ⟨b0, b1, b2⟩ := b
  obtain ⟨g0, g1, g2⟩ := g
  obtain ⟨oE, oM, oB, oG⟩ := h
  obtain ⟨sE, sM, sB, sG, _⟩ := hs
  simp only [sv] at oE oM oB oG sE sM sB sG lE lM lB lG
  have CR := hidIt (fun W (hE : En.Own W lo (.slice e0 e1 e2) bk) (hM : Mm.Own W lo (.slice t0 t1 t2) mm) (hh : hi ≤ W.heap.size) => markRep_any (e0, e1, e2) (t0, t1, t2) bk mm k lo hi W hE hM lE lM hh h1 (by omega))
  have CB := hidIt (fun W (h : Bu.Own W lo (.slice b0 b1 b2) bu) => Bu.markS_any lo (.slice b0 b1 b2) bu (k + 5 * bk.length + 3 * mm.length) W h (by omega) (by omega))
  have CG := hidIt (fun W (h : Lg.Own W lo (.slice g0 g1 g2) lg) => Lg.markLineS_any lo (.slice g0 g1 g2) lg (k + 5 * bk.length + 3 * mm.length + 3 * bu.length) W h (by omega) (by omega))
  have BX := hidIt (Bo.Box.new w #[.slice e0 e1 e2, .slice t0 t1 t2, .int .i64 ph, .int .i64 mn, .int .i64 ol, .int .i64 nw, .int .i64 tm, .slice b0 b1 b2, .slice g0 g1 g2, .string ap] 42)
  have HB := hidIt ((Below.refl w.heap.size w).alloc (Nat.le_refl _) (.cells #[.slice e0 e1 e2, .slice t0 t1 t2, .int .i64 ph, .int .i64 mn, .int .i64 ol, .int .i64 nw, .int .i64 tm, .slice b0 b1 b2, .slice g0 g1 g2, .string ap] 42))
  have MK0 := hidIt (Mk.of_below (lo := lo) (hi := hi) HB.out)
  have HE := hidIt (oE.kept HB.out)
  have HM := hidIt (oM.kept HB.out)
  have HBu := hidIt (oB.kept HB.out)
  have HG := hidIt (oG.kept HB.out)
  have hh0 : hi ≤ (w.alloc (.cells #[.slice e0 e1 e2, .slice t0 t1 t2, .int .i64 ph, .int .i64 mn, .int .i64 ol, .int .i64 nw, .int .i64 tm, .slice b0 b1 b2, .slice g0 g1 g2, .string ap] 42)).heap.size := Nat.le_trans hhi HB.out.size
  clear oE oM oB oG sE sM sB sG
  simp only [nv, nc, sv] at CR ⊢
  generalize k + 5 * bk.length + 3 * mm.length + 3 * bu.length + 2 * lg.length = q3 at *
  generalize k + 5 * bk.length + 3 * mm.length + 3 * bu.length = q2 at *
  generalize k + 5 * bk.length + 3 * mm.length = q1 at *
  have d0 := BX.out.c 0 rfl
  have d1 := BX.out.c 1 rfl
  go_enter Tryz.func13, Tryz.ntmps13
  go_wp2_with (fail)
  generalize w.alloc (.cells #[.slice e0 e1 e2, .slice t0 t1 t2, .int .i64 ph, .int .i64 mn, .int .i64 ol, .int .i64 nw, .int .i64 tm, .slice b0 b1 b2, .slice g0 g1 g2, .string ap] 42) = W0 at BX HB MK0 HE HM HBu HG d0 d1 hh0 ⊢
  refine (CR.out _ HE.out HM.out hh0).mono ?_
  rintro en w1 ⟨rfl, m1⟩
  have M1 := hidIt m1
  have BX1 := hidIt (M1.out.box BX.out hhi)
  have HB1 : Hid (Bu.Own w1 lo (.slice b0 b1 b2) bu) := hidIt (M1.out.stay _ _ _ _ _ _ HBu.out (by decide))
  have HG1 : Hid (Lg.Own w1 lo (.slice g0 g1 g2) lg) := hidIt (M1.out.stay _ _ _ _ _ _ HG.out (by decide))
  clear m1 d0 d1 BX HE HM HBu HG hh0
  have d7 := BX1.out.c 7 rfl
  go_wp2_with (fail)
  refine (CB.out _ HB1.out).mono ?_
  rintro en w2 ⟨rfl, oM, Y⟩
  have M2 := hidIt (Mk.of_row (lo := lo) (hi := hi) HB1.out Y (Nat.le_refl _) lB)
  have BX2 := hidIt (M2.out.box BX1.out hhi)
  have HG2 : Hid (Lg.Own w2 lo (.slice g0 g1 g2) lg) := hidIt (M2.out.stay _ _ _ _ _ _ HG1.out (by decide))
  clear oM Y d7 BX1 HG1 HB1
  have d8 := BX2.out.c 8 rfl
  go_wp2_with (fail)
  refine (CG.out _ HG2.out).mono ?_
  rintro en w3 ⟨rfl, oM, Y⟩
  have M3 := hidIt (Mk.of_row (lo := lo) (hi := hi) HG2.out Y (Nat.le_refl _) lG)
  clear oM Y d8
  go_wp2_with (fail)
  go_ret
  exact ⟨_, rfl, ((MK0.out.trans M1.out).trans M2.out).trans M3.out⟩
end Go.Proofs.YtllajhieocploaaGreatDoor.Nd
namespace Go.Proofs.YtllajhieocploaaGreatDoor.Nd
open Go.ChangeShapes Go.WideShapes Go.ChangeAt Go.RowKit
open Go.Proofs.YtllajhieocploaaGreatDoor.Vv (Sl sv hidIt)
set_option linter.unusedVariables false
theorem box_in {lo hi b : Nat} {c : Array Value} {w w' : World} (h : Rp.OnlyIn lo hi w w') (x : Bo.Box w b c) (hb : ¬ (lo ≤ b ∧ b < hi)) : Bo.Box w' b c :=
  ⟨Nat.lt_of_lt_of_le x.lt h.size, fun i => by rw [World.cell?_of_block (w := w) (h.block b x.lt hb)]; exact x.at' i, fun i => by rw [World.frozen?_of_block (w := w) (h.block b x.lt hb)]; exact x.fr i⟩
theorem box_only {b c : Nat} {cs : Array Value} {w w' : World} (h : Only c w w') (x : Bo.Box w b cs) (hne : b ≠ c) : Bo.Box w' b cs :=
  ⟨Nat.lt_of_lt_of_le x.lt h.size, fun i => by rw [World.cell?_of_block (w := w) (h.block b x.lt hne)]; exact x.at' i, fun i => by rw [World.frozen?_of_block (w := w) (h.block b x.lt hne)]; exact x.fr i⟩
theorem only_box {w w' : World} {o : Obj} {v : Value} (y : Only (Pt.ob (w.alloc o) v) (w.alloc o) w') : Only (Pt.ob w v) w w' := by
  have k := (Below.refl w.heap.size w).alloc (Nat.le_refl _) o
  refine ⟨y.os.trans k.os, y.tape.trans k.tape, y.output.trans k.output, Nat.le_trans k.size y.size, fun j hj hne => ?_⟩
  rw [← k.block j hj]
  refine y.block j (Nat.lt_of_lt_of_le hj k.size) ?_
  unfold Pt.ob at hne ⊢
  cases hv : v.ownBlock with
  | none => simp; omega
  | some g => rw [hv] at hne; simpa using hne
theorem ob_ne {W : World} {v : Value} {b : Nat} (hb : b < W.heap.size) (h : ∀ g, v.ownBlock = some g → b ≠ g) : b ≠ Pt.ob W v := by
  unfold Pt.ob
  cases hv : v.ownBlock with
  | none => simp; omega
  | some g => simpa using h g hv
theorem rd_own {w : World} {b n c : Nat} {x : Option Addr} {L : List Pt.Ln} (h : Pt.Own w b (.slice x n c) L) : Pt.Rd w x L := by
  obtain ⟨a, c, e, _, _, r, _⟩ := h.form
  simp only [Value.slice.injEq] at e
  rw [e.1]
  exact r
set_option maxRecDepth 100000 in
set_option maxHeartbeats 4000000 in
theorem markDeed_any (z : ByteArray) (v : Value) (k1 k2 u r1 r2 t : Int) (L : List Pt.Ln) (base k : Nat) (w : World) (h : Pt.Own w base v L) (h1 : 1 ≤ k) (h2 : k + 2 * L.length ≤ 1099511627776) :
    Calls Tryz.prog 14 #[Dd.dv z v k1 k2 u r1 r2 t, .int .i64 k] w fun e w' => e = .returned (.int .i64 ((k + 2 * L.length : Nat) : Int)) ∧ Pt.Own w' base v (Pt.markP k L.length) ∧ Only (Pt.ob w v) w w' := by
  have kA := (Below.refl w.heap.size w).alloc (Nat.le_refl _) (.cells (Dd.dc z v k1 k2 u r1 r2 t) 54)
  have CM := hidIt (Pt.markPointS_any base v L k _ (h.kept kA) h1 h2)
  have BA := Bo.Box.new w (Dd.dc z v k1 k2 u r1 r2 t) 54
  have c1 := BA.c 1 (v := v) rfl
  clear kA BA h
  generalize k + 2 * L.length = s at CM ⊢
  simp only [Dd.dc] at c1 CM
  go_enter Tryz.func14, Tryz.ntmps14
  go_wp2_with (fail)
  refine CM.out.mono ?_
  rintro e w1 ⟨rfl, o, y⟩
  have HO := hidIt o
  have HY := hidIt (only_box y)
  clear o y
  go_wp2_with (fail)
  go_ret
  exact ⟨rfl, HO.out, HY.out⟩
set_option maxRecDepth 100000 in
set_option maxHeartbeats 4000000 in
theorem heldDeed_any (z : ByteArray) (a : Option Addr) (cap n : Nat) (k1 k2 u r1 r2 t : Int) (k : Nat) (w : World) (h : Pt.Rd w a (Pt.markP k n)) (h1 : 1 ≤ k) (h2 : k + 2 * n ≤ 1099511627776) :
    Calls Tryz.prog 15 #[Dd.dv z (.slice a n cap) k1 k2 u r1 r2 t, .int .i64 k] w fun e w' => e = .returned (.int .i64 ((k + 2 * n : Nat) : Int)) ∧ Below w.heap.size w w' := by
  have kA := (Below.refl w.heap.size w).alloc (Nat.le_refl _) (.cells (Dd.dc z (.slice a n cap) k1 k2 u r1 r2 t) 54)
  have CM := hidIt (Pt.heldPointS_any a cap n k _ (h.kept kA) h1 h2)
  have BA := Bo.Box.new w (Dd.dc z (.slice a n cap) k1 k2 u r1 r2 t) 54
  have c1 := BA.c 1 (v := .slice a n cap) rfl
  have HB := hidIt kA
  clear kA BA h
  generalize k + 2 * n = s at CM ⊢
  simp only [Dd.dc] at c1 CM HB
  have hs : ¬ ((s : Nat) : Int) < 0 := by omega
  go_enter Tryz.func15, Tryz.ntmps15
  go_wp2_with (fail)
  refine CM.out.mono ?_
  rintro e w1 ⟨rfl, k1⟩
  have HB1 := hidIt (HB.out.trans (k1.mono HB.out.size))
  clear k1
  go_wp2_with (fail)
  go_ret
  exact ⟨rfl, HB1.out⟩
end Go.Proofs.YtllajhieocploaaGreatDoor.Nd
