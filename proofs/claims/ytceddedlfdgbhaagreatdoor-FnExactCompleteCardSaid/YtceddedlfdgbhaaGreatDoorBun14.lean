/-
  A Cluster in memory: three cells, two of them slices. (Written by wip/mkKc.py.)
  szNodeS and eqNodeS of the laws. (Written by wip/mkNs.py.)
  A list of Nodes that came in. (Written by wip/mkKc.py.)
  A Cluster that came in. (Written by wip/mkKc.py.)
  toNodeS of the laws. (Written by wip/mkNs.py.)
-/
import Derived.Test.YtceddedlfdgbhaaGreatDoorBun13
import Derived.Test.YtceddedlfdgbhaaGreatDoorBun7
import Derived.Test.YtceddedlfdgbhaaGreatDoorBoxM
import Derived.Test.YtceddedlfdgbhaaGreatDoorQuiet
import Derived.Deep.SlicePairs
import Derived.Test.YtceddedlfdgbhaaGreatDoorBun8
namespace Go.Proofs.YtceddedlfdgbhaaGreatDoor.Kc
open Go.ChangeShapes Go.WideShapes Go.ChangeAt Go.RowKit
open Go.Proofs.YtceddedlfdgbhaaGreatDoor.Vv (Sl sv hidIt)
open Go.Proofs.YtceddedlfdgbhaaGreatDoor.Nd (Nw RdN OwnN ShortN SmallN)
set_option linter.unusedVariables false
structure Cw where
  now : Int
  nodes : List Nw
  clock : List Int
/-- What its slices read as. -/
structure RdK (w : World) (c : Cw) (n k : Sl) : Prop where
  nl : n.2.1 = c.nodes.length
  nr : Ns.Rd w n.1 c.nodes
  nc : c.nodes.length ≤ 9223372036854775807
  kl : k.2.1 = c.clock.length
  kr : Iv.Rd w k.1 c.clock
  kc : c.clock.length ≤ 9223372036854775807
theorem RdK.kept {w w' : World} {c : Cw} {n k : Sl} (h : RdK w c n k) (q : Below w.heap.size w w') : RdK w' c n k := ⟨h.nl, h.nr.kept q, h.nc, h.kl, h.kr.kept q, h.kc⟩
abbrev kc (c : Cw) (n k : Sl) : Array Value := #[.int .i64 c.now, sv n, sv k]
abbrev kv (c : Cw) (n k : Sl) : Value := .agg (kc c n k)
/-- No text is longer than a text may be. -/
def ShortK (c : Cw) : Prop := ∀ i, i < c.nodes.length → ShortN (Ns.nod c.nodes i)
/-- It is not too great. -/
structure SmallK (c : Cw) : Prop where
  n : c.nodes.length ≤ 1048576
  nd : ∀ i, i < c.nodes.length → SmallN (Ns.nod c.nodes i)
  k : c.clock.length ≤ 1048576
/-- A Cluster of the call's own, in blocks from lo up to hi. -/
structure OwnK (w : World) (lo hi : Nat) (c : Cw) (n k : Sl) : Prop where
  on : Ns.Own w lo hi (sv n) c.nodes
  ok : Iv.Own w lo (sv k) c.clock
  b : ∀ g, (sv k).ownBlock = some g → g < hi
theorem OwnK.kept {w w' : World} {lo hi : Nat} {c : Cw} {n k : Sl} (h : OwnK w lo hi c n k) (q : Below w.heap.size w w') : OwnK w' lo hi c n k := ⟨h.on.kept q, h.ok.kept q, h.b⟩
theorem OwnK.rd {w : World} {lo hi : Nat} {c : Cw} {n k : Sl} (h : OwnK w lo hi c n k) : RdK w c n k := by
  obtain ⟨n0, n1, n2⟩ := n
  obtain ⟨k0, k1, k2⟩ := k
  obtain ⟨a, cp, e, l1, l2, _⟩ := h.on.form
  obtain ⟨a', cp', e', l1', l2', r', _⟩ := h.ok.form
  have z := h.on
  simp only [sv, Value.slice.injEq] at e e'
  obtain ⟨rfl, rfl, rfl⟩ := e
  obtain ⟨rfl, rfl, rfl⟩ := e'
  unfold maxLen at l2'
  exact ⟨rfl, z.rd, by omega, rfl, r', by omega⟩
def KluP (w : World) (c : Cw) (en : Ending) (w' : World) : Prop := ∃ n k : Sl, en = .returned (kv c n k) ∧ OwnK w' w.heap.size w'.heap.size c n k ∧ Below w.heap.size w w'
theorem KluP.of {w w' : World} {c : Cw} {en : Ending} {n k : Sl} (h : en = .returned (kv c n k)) (h1 : OwnK w' w.heap.size w'.heap.size c n k) (h2 : Below w.heap.size w w') : KluP w c en w' := ⟨n, k, h, h1, h2⟩
theorem KluP.out {w w' : World} {c : Cw} {en : Ending} (h : KluP w c en w') : ∃ n k : Sl, en = .returned (kv c n k) ∧ OwnK w' w.heap.size w'.heap.size c n k ∧ Below w.heap.size w w' := h
end Go.Proofs.YtceddedlfdgbhaaGreatDoor.Kc
namespace Go.Proofs.YtceddedlfdgbhaaGreatDoor.Ns
open Go.ChangeShapes Go.WideShapes Go.ChangeAt Go.RowKit
open Go.Proofs.YtceddedlfdgbhaaGreatDoor.Vv (Sl sv hidIt)
open Go.Proofs.YtceddedlfdgbhaaGreatDoor.Nd (Nw RdN OwnN)
open Go.Proofs.YtceddedlfdgbhaaGreatDoor.Rp (OnlyIn own_apart row_in row_other)
set_option linter.unusedVariables false
open Go.Proofs.YtceddedlfdgbhaaGreatDoor.Rc (BelowBy wp_region_below calls_below calls_same)
open Go.Proofs.YtceddedlfdgbhaaGreatDoor.Nd (ShortN SmallN on)
/-- What szNodeS says of a list: it is not too great. -/
structure Le5 (L : List Nw) (q l : Int) : Prop where
  le : q ≤ l
  sm : 0 ≤ q → L.length ≤ 1048576 ∧ ∀ i, i < L.length → SmallN (nod L i)
set_option maxRecDepth 100000 in
set_option maxHeartbeats 8000000 in
theorem szS_any (a : Option Addr) (cap : Nat) (L : List Nw) (l : Int) (w : World) (h : Rd w a L) (hl : L.length ≤ 9223372036854775807) (hs : ∀ i, i < L.length → ShortN (nod L i)) (h0 : 0 ≤ l) (h1 : l ≤ 1048576) :
    Calls Tryz.prog 9 #[.slice a L.length cap, .int .i64 l] w fun e w' => ∃ q : Int, e = .returned (.int .i64 q) ∧ Le5 L q l ∧ Below w.heap.size w w' := by
  have HLe : Hid (∀ q : Int, q ≤ l → (0 ≤ q → L.length ≤ 1048576 ∧ ∀ i, i < L.length → SmallN (nod L i)) → Le5 L q l) := hidIt (fun q h h' => ⟨h, h'⟩)
  generalize hn : L.length = m at *
  have HR := hidIt h
  have HN := hidIt hn
  have HS := hidIt hs
  clear h hn hs
  have h2 : -9223372036854775808 ≤ l - (m : Int) := by omega
  have h3 : l - (m : Int) ≤ 9223372036854775807 := by omega
  by_cases hs2 : l - (m : Int) < 0
  · go_enter Tryz.func9, Tryz.ntmps9
    go_wp2
    go_ret
    have z := HLe.out (-1) (by omega) (fun h => by omega)
    first | exact ⟨-1, rfl, z, Below.refl _ _⟩ | exact ⟨z, Below.refl _ _⟩
  · have hn2 : m ≤ 1048576 := by omega
    go_enter Tryz.func9, Tryz.ntmps9
    go_wp2_with (fail)
    go_loopw [1, 5] (fun z y wx => ∃ (i : Nat) (r : Int), y = .int .i64 i ∧ z = .int .i64 r ∧ 0 ≤ r ∧ r ≤ l ∧ Hid (∀ j, j < i → SmallN (nod L j)) ∧ i ≤ m ∧ Hid (Below w.heap.size w wx)) (fun _ y _ => (m - intOf y).toNat)
    case atStart => exact ⟨0, _, rfl, rfl, by omega, by omega, hidIt (fun j hj => by omega), by omega, hidIt (Below.refl _ _)⟩
    case round =>
      obtain ⟨i, r, rfl, rfl, r0, r1, HL, hi, HB⟩ := hrel
      by_cases hin : i < m
      · have hin' : (i : Int) < (m : Int) := by omega
        obtain ⟨q, off, e, m, b, g, rfl, c0, c1, c2, c3, c4, c5, c6, c7, c8, c9, rN⟩ := (HR.out.kept HB.out).one (i := i) (by rw [HN.out]; exact hin)
        have HC := hidIt (Nd.sz_any (nod L i) e m b g r wr rN (HS.out i hin) r0 (by omega))
        generalize hx : nod L i = x at *
        have HX := hidIt hx
        clear rN hx
        obtain ⟨bk, mm, ph, mn, ol, nw, tm, bu, lg, ap⟩ := x
        obtain ⟨e0, e1, e2⟩ := e
        obtain ⟨t0, t1, t2⟩ := m
        obtain ⟨b0, b1, b2⟩ := b
        obtain ⟨g0, g1, g2⟩ := g
        simp only [Nd.nv, Nd.nc, sv] at c0 c1 c2 c3 c4 c5 c6 c7 c8 c9 HC
        go_wp2_with (fail)
        refine HC.out.mono ?_
        rintro en w1 ⟨k, rfl, hq, hb1⟩
        have HB1 := hidIt (on HB.out hb1)
        have HQ := hidIt hq
        have q1 := hq.le
        clear hb1 HB HC hq c0 c1 c2 c3 c4 c5 c6 c7 c8 c9
        by_cases hneg : k < 0
        · go_wp2_with (fail)
          go_ret
          have z := HLe.out (-1) (by omega) (fun h => by omega)
          first | exact ⟨-1, rfl, z, HB1.out⟩ | exact ⟨z, HB1.out⟩
        · go_wp2_with (fail)
          refine ⟨⟨i + 1, k, by simp, rfl, by omega, by omega, hidIt (fun j hj => ?_), by omega, HB1⟩, by simp [intOf]; omega⟩
          by_cases hj2 : j < i
          · exact HL.out j hj2
          · obtain rfl : j = i := by omega
            rw [HX.out]
            exact HQ.out.sm (by omega)
      · have hin' : ¬ (i : Int) < (m : Int) := by omega
        obtain rfl : i = m := by omega
        go_wp2_with (fail)
        go_ret
        have z := HLe.out r (by omega) (fun _ => ⟨hn2, HL.out⟩)
        first | exact ⟨r, rfl, z, HB.out⟩ | exact ⟨z, HB.out⟩
set_option maxRecDepth 100000 in
set_option maxHeartbeats 8000000 in
theorem eqS_same (a a' : Option Addr) (cap cap' : Nat) (L : List Nw) (w : World) (h : Rd w a L) (h' : Rd w a' L) (hl : L.length ≤ 9223372036854775807) (hs : ∀ i, i < L.length → (nod L i).log.length ≤ 9223372036854775806) :
    Calls Tryz.prog 16 #[.slice a L.length cap, .slice a' L.length cap'] w fun e w' => e = .returned (.bool true) ∧ Below w.heap.size w w' := by
  generalize hn : L.length = m at *
  have HR := hidIt h
  have HR' := hidIt h'
  have HN := hidIt hn
  have HS := hidIt hs
  clear h h' hn hs
  have hq : ((m : Int) != (m : Int)) = false := by simp
  go_enter Tryz.func16, Tryz.ntmps16
  go_wp2_with (fail)
  go_loopw [5] (fun y wx => ∃ (i : Nat), y = .int .i64 i ∧ i ≤ m ∧ Hid (Below w.heap.size w wx)) (fun y _ => (m - intOf y).toNat)
  case atStart => exact ⟨0, rfl, by omega, hidIt (Below.refl _ _)⟩
  case round =>
    obtain ⟨i, rfl, hi, HB⟩ := hrel
    by_cases hin : i < m
    · have hin' : (i : Int) < (m : Int) := by omega
      have hi0 : (0 : Int) ≤ (i : Int) := by omega
      obtain ⟨q, off, e, m, b, g, rfl, c0, c1, c2, c3, c4, c5, c6, c7, c8, c9, rN⟩ := (HR.out.kept HB.out).one (i := i) (by rw [HN.out]; exact hin)
      obtain ⟨q', off', e', m', b', g', rfl, d0, d1, d2, d3, d4, d5, d6, d7, d8, d9, rN'⟩ := (HR'.out.kept HB.out).one (i := i) (by rw [HN.out]; exact hin)
      have CE := hidIt (fun W (k : Below wr.heap.size wr W) => Nd.eq_same (nod L i) e m b g e' m' b' g' W (rN.kept k) (rN'.kept k) (HS.out i hin))
      generalize nod L i = x at *
      clear rN rN'
      obtain ⟨bk, mm, ph, mn, ol, nw, tm, bu, lg, ap⟩ := x
      obtain ⟨e0, e1, e2⟩ := e
      obtain ⟨t0, t1, t2⟩ := m
      obtain ⟨b0, b1, b2⟩ := b
      obtain ⟨g0, g1, g2⟩ := g
      obtain ⟨x0, x1, x2⟩ := e'
      obtain ⟨y0, y1, y2⟩ := m'
      obtain ⟨u0, u1, u2⟩ := b'
      obtain ⟨v0, v1, v2⟩ := g'
      simp only [Nd.nv, Nd.nc, sv] at c0 c1 c2 c3 c4 c5 c6 c7 c8 c9 d0 d1 d2 d3 d4 d5 d6 d7 d8 d9 CE
      haveI := BelowBy.one wr
      have f0 := fun p : BelowBy wr => p.cell c0
      have f1 := fun p : BelowBy wr => p.cell c1
      have f2 := fun p : BelowBy wr => p.cell c2
      have f3 := fun p : BelowBy wr => p.cell c3
      have f4 := fun p : BelowBy wr => p.cell c4
      have f5 := fun p : BelowBy wr => p.cell c5
      have f6 := fun p : BelowBy wr => p.cell c6
      have f7 := fun p : BelowBy wr => p.cell c7
      have f8 := fun p : BelowBy wr => p.cell c8
      have f9 := fun p : BelowBy wr => p.cell c9
      have h0 := fun p : BelowBy wr => p.cell d0
      have h1 := fun p : BelowBy wr => p.cell d1
      have h2 := fun p : BelowBy wr => p.cell d2
      have h3 := fun p : BelowBy wr => p.cell d3
      have h4 := fun p : BelowBy wr => p.cell d4
      have h5 := fun p : BelowBy wr => p.cell d5
      have h6 := fun p : BelowBy wr => p.cell d6
      have h7 := fun p : BelowBy wr => p.cell d7
      have h8 := fun p : BelowBy wr => p.cell d8
      have h9 := fun p : BelowBy wr => p.cell d9
      clear c0 c1 c2 c3 c4 c5 c6 c7 c8 c9 d0 d1 d2 d3 d4 d5 d6 d7 d8 d9
      go_wp2_with (fail)
      refine wp_region_below (by kernel_rfl) (by kernel_rfl) ?_
      repeat (go_big_quiet_step (first | (go_at_call 28; refine calls_below (CE.out _ (BelowBy.h _)))))
      refine wpQuiet_nil ?_
      intro _ hw'
      obtain ⟨pq, rfl⟩ := hw'
      have HB1 := hidIt (on HB.out pq.h)
      generalize pq.world = w2 at HB1 ⊢
      clear f0 f1 f2 f3 f4 f5 f6 f7 f8 f9 h0 h1 h2 h3 h4 h5 h6 h7 h8 h9
      go_wp2_with (fail)
      exact ⟨⟨i + 1, by simp, by omega, HB1⟩, by simp [intOf]; omega⟩
    · have hin' : ¬ (i : Int) < (m : Int) := by omega
      go_wp2_with (fail)
      go_ret
      exact ⟨rfl, HB.out⟩
end Go.Proofs.YtceddedlfdgbhaaGreatDoor.Ns
namespace Go.Proofs.YtceddedlfdgbhaaGreatDoor.Ns
open Go.ChangeShapes Go.WideShapes Go.ChangeAt Go.RowKit
open Go.Proofs.YtceddedlfdgbhaaGreatDoor.Vv (Sl sv hidIt)
open Go.Proofs.YtceddedlfdgbhaaGreatDoor.Nd (Nw RdN OwnN ShortN SmallN)
set_option linter.unusedVariables false
/-- The slice at a, of capacity cap, that came in reads as the Nodes L. -/
structure In (w : World) (a : Option Addr) (cap : Nat) (L : List Nw) : Prop where
  rd : Rd w a L
  na : a = none → cap = 0
  le : L.length ≤ cap
  cap : cap ≤ 9223372036854775807
  short : ∀ i, i < L.length → ShortN (nod L i)
theorem nod_map (m : Nat) (f : Nat → Nw) (i : Nat) (hi : i < m) : nod ((List.range m).map f) i = f i := by
  unfold nod
  rw [List.getD_eq_getElem?_getD, List.getElem?_map, List.getElem?_range hi]
  rfl
theorem agg_ten {a0 a1 a2 a3 a4 a5 a6 a7 a8 a9 b0 b1 b2 b3 b4 b5 b6 b7 b8 b9 : Value} (h : (.agg #[a0, a1, a2, a3, a4, a5, a6, a7, a8, a9] : Value) = .agg #[b0, b1, b2, b3, b4, b5, b6, b7, b8, b9]) : a0 = b0 ∧ a1 = b1 ∧ a2 = b2 ∧ a3 = b3 ∧ a4 = b4 ∧ a5 = b5 ∧ a6 = b6 ∧ a7 = b7 ∧ a8 = b8 ∧ a9 = b9 := by
  simpa using h
set_option maxRecDepth 100000 in
theorem open_nodes_in {H : Type} {enc : TypeId × Value → H} {w : World} {base : Nat} {spare : Nat → Bool} {held : Bool} {v : Value} {fuel : Nat} {z : DataW H × List MemPlace}
    (hf : DataW.trod enc Tryz.prog w base spare held fuel 22 [v] = some z) : ∃ (a : Option Addr) (cap : Nat) (L : List Nw), v = .slice a L.length cap ∧ In w a cap L := by
  rcases Go.Deep.open_slice Tryz.underlying22 hf with ⟨hcs, _⟩ | ⟨x, len, cap, m, n, D, Pl, hcs, _, hl, hc, hm, _, hx⟩
  · simp at hcs
    subst hcs
    exact ⟨none, 0, [], rfl, Rd.nil _ _, fun _ => rfl, Nat.zero_le _, by decide, fun i hi => by simp at hi⟩
  · simp at hcs
    subst hcs
    have hlm : len ≤ m := by rw [hm]; split <;> omega
    have each : ∀ i, i < len → ∃ y : Nv.Rw × Nw, (∀ j, j < 10 → w.cell? (x.add (i * 10 + j)) = some (Nv.rcell y.1 j)) ∧ y.1 = nrw y.2 (sl4 y.1 0) (sl4 y.1 1) (sl4 y.1 2) (sl4 y.1 3) ∧ RdN w y.2 (sl4 y.1 0) (sl4 y.1 1) (sl4 y.1 2) (sl4 y.1 3) ∧ ShortN y.2 := by
      intro i hi
      obtain ⟨cs', h1, h2⟩ := hx i (by omega)
      rw [Nd.cellsN] at h1
      obtain ⟨_, hlen, hcell⟩ := World.cells?_some h1
      match cs', hlen with
      | [v0, v1, v2, v3, v4, v5, v6, v7, v8, v9], _ =>
        obtain ⟨y, e, m', b, g, ee, I⟩ := Nd.open_node_in h2
        obtain ⟨rfl, rfl, rfl, rfl, rfl, rfl, rfl, rfl, rfl, rfl⟩ := agg_ten ee
        refine ⟨(nrw y e m' b g, y), fun j hj => ?_, rfl, I.rd, I.short⟩
        have e := hcell j hj
        rw [Go.Deep.add_add] at e
        rw [e]
        match j, hj with
        | 0, _ => rfl
        | 1, _ => rfl
        | 2, _ => rfl
        | 3, _ => rfl
        | 4, _ => rfl
        | 5, _ => rfl
        | 6, _ => rfl
        | 7, _ => rfl
        | 8, _ => rfl
        | 9, _ => rfl
    haveI : Inhabited (Nv.Rw × Nw) := ⟨(Nv.rat [] 0, zN)⟩
    obtain ⟨f, hf'⟩ := Go.Deep.choose_lt each
    refine ⟨some x, cap, (List.range len).map (fun i => (f i).2), by simp, ⟨(List.range len).map (fun i => (f i).1), by simp, ⟨fun i hi => ?_⟩, fun i hi => ?_, fun i hi => ?_⟩, (fun e => by cases e), by simpa using hl, hc, fun i hi => ?_⟩
    · have hi' : i < len := by simpa using hi
      have z0 := (hf' 0 (by omega)).1 0 (by omega)
      obtain ⟨b, off, spot⟩ := x
      have hspot : spot = none := by simpa [Addr.add] using World.cell?_spot z0
      subst hspot
      refine ⟨b, off, rfl, fun j hj => ?_⟩
      have d0 := (hf' i hi').1 j hj
      rw [Go.WideShapes.add_plain] at d0
      rw [Nv.rat_map _ _ _ hi']
      first
        | exact d0
        | (rw [← Nat.add_assoc] at d0; exact d0)
    · have hi' : i < len := by simpa using hi
      rw [Nv.rat_map _ _ _ hi', nod_map _ _ _ hi']
      exact (hf' i hi').2.1
    · have hi' : i < len := by simpa using hi
      rw [Nv.rat_map _ _ _ hi', nod_map _ _ _ hi']
      exact (hf' i hi').2.2.1
    · have hi' : i < len := by simpa using hi
      rw [nod_map _ _ _ hi']
      exact (hf' i hi').2.2.2
end Go.Proofs.YtceddedlfdgbhaaGreatDoor.Ns
namespace Go.Proofs.YtceddedlfdgbhaaGreatDoor.Kc
open Go.ChangeShapes Go.WideShapes Go.ChangeAt Go.RowKit
open Go.Proofs.YtceddedlfdgbhaaGreatDoor.Vv (Sl sv hidIt)
open Go.Proofs.YtceddedlfdgbhaaGreatDoor.Nd (Nw RdN OwnN ShortN SmallN)
set_option linter.unusedVariables false
/-- A Cluster that came in. -/
structure In (w : World) (c : Cw) (n k : Sl) : Prop where
  rd : RdK w c n k
  short : ShortK c
theorem array3 {cs : Array Value} (h : cs.size = 3) : ∃ a b c, cs = #[a, b, c] := by
  obtain ⟨l⟩ := cs
  match l, h with
  | [a, b, c], _ => exact ⟨a, b, c, rfl⟩
theorem cellsK : Tryz.prog.cellsOf 25 = 3 := by kernel_rfl
theorem cellsNs : Tryz.prog.cellsOf 22 = 1 := by kernel_rfl
theorem cellsIs : Tryz.prog.cellsOf 23 = 1 := by kernel_rfl
theorem cellsI1 : Tryz.prog.cellsOf 2 = 1 := by kernel_rfl
set_option maxRecDepth 100000 in
theorem open_cluster {H : Type} {enc : TypeId × Value → H} {w : World} {r : Reach} {b0 base : Nat} {spare : Nat → Bool} {held : Bool} {v : Value} {d : DataW H} {p : List MemPlace} (hv : Value.okWide Tryz.prog w r b0 25 v) (h : DataW.Trod enc Tryz.prog w base spare held 25 v d p) :
    ∃ (c : Cw) (n k : Sl), v = kv c n k ∧ In w c n k := by
  obtain ⟨cs, rfl, hsz⟩ := okWide_struct Tryz.underlying25 hv
  obtain ⟨c0, c1, c2, rfl⟩ := array3 (hsz.trans cellsK)
  obtain ⟨fuel, hf⟩ := h
  have hf0 : DataW.trod enc Tryz.prog w base spare held fuel 25 [c0, c1, c2] = some (d, p) := by simpa [Value.cells] using hf
  obtain ⟨xs, k, hk, hxy, _, hxl, hf'⟩ := DataW.trod_struct Tryz.underlying25 hf0
  match xs, hxl with
  | [y0, y1, y2], _ =>
    have g0 := hf' 0 _ rfl
    have g1 := hf' 1 _ rfl
    have g2 := hf' 2 _ rfl
    simp [cellsNs, cellsIs, cellsI1] at g0 g1 g2
    obtain ⟨q0, e0, _, _⟩ := DataW.trod_int Tryz.underlying2 g0
    simp at e0
    obtain ⟨a1, k1, L1, e1, I1⟩ := Ns.open_nodes_in g1
    obtain ⟨a2, k2, L2, e2, I2⟩ := Zn.open_ints_in Tryz.underlying23 Tryz.underlying2 cellsI1 g2
    subst e0 e1 e2
    have h1 := I1.le
    have h2 := I1.cap
    have h3 := I2.le
    have h4 := I2.cap
    exact ⟨⟨q0, L1, L2⟩, (a1, L1.length, k1), (a2, L2.length, k2), rfl, ⟨rfl, I1.rd, by show L1.length ≤ _; omega, rfl, I2.rd, by show L2.length ≤ _; omega⟩, I1.short⟩
end Go.Proofs.YtceddedlfdgbhaaGreatDoor.Kc
namespace Go.Proofs.YtceddedlfdgbhaaGreatDoor.Ns
open Go.ChangeShapes Go.WideShapes Go.ChangeAt Go.RowKit
open Go.Proofs.YtceddedlfdgbhaaGreatDoor.Vv (Sl sv hidIt)
open Go.Proofs.YtceddedlfdgbhaaGreatDoor.Nd (Nw RdN OwnN)
open Go.Proofs.YtceddedlfdgbhaaGreatDoor.Rp (OnlyIn own_apart row_in row_other)
set_option linter.unusedVariables false
open Go.Proofs.YtceddedlfdgbhaaGreatDoor.Nd (SmallN on)
def LstP (w : World) (L : List Nw) (e : Ending) (w' : World) : Prop := ∃ v, e = .returned v ∧ Own w' w.heap.size w'.heap.size v L ∧ Below w.heap.size w w'
theorem LstP.of {w w' : World} {L : List Nw} {e : Ending} {v : Value} (h : e = .returned v) (h1 : Own w' w.heap.size w'.heap.size v L) (h2 : Below w.heap.size w w') : LstP w L e w' := ⟨v, h, h1, h2⟩
theorem LstP.out {w w' : World} {L : List Nw} {e : Ending} (h : LstP w L e w') : ∃ v, e = .returned v ∧ Own w' w.heap.size w'.heap.size v L ∧ Below w.heap.size w w' := h
theorem pcells_zero (m : Nat) : Nv.rcells (List.replicate m ((none, 0, 0), (none, 0, 0), 0, 0, 0, 0, 0, (none, 0, 0), (none, 0, 0), ByteArray.empty)) = (madeCells #[.slice none 0 0, .slice none 0 0, .int .i64 0, .int .i64 0, .int .i64 0, .int .i64 0, .int .i64 0, .slice none 0 0, .slice none 0 0, .string ByteArray.empty] (m * 10)).toList := by
  apply List.ext_getElem?
  intro x
  by_cases hx : x < m * 10
  · have e : x = x / 10 * 10 + x % 10 := by omega
    have h1 := Nv.rcells_get (List.replicate m ((none, 0, 0), (none, 0, 0), 0, 0, 0, 0, 0, (none, 0, 0), (none, 0, 0), ByteArray.empty)) (x / 10) (x % 10) (by rw [List.length_replicate]; omega) (by omega)
    rw [← e] at h1
    have h2 : Nv.rat (List.replicate m ((none, 0, 0), (none, 0, 0), 0, 0, 0, 0, 0, (none, 0, 0), (none, 0, 0), ByteArray.empty)) (x / 10) = ((none, 0, 0), (none, 0, 0), 0, 0, 0, 0, 0, (none, 0, 0), (none, 0, 0), ByteArray.empty) := by
      rw [Nv.rat_at (by rw [List.length_replicate]; omega), List.getElem_replicate]
    rw [h1, h2]
    have h3 : x % 10 = 0 ∨ x % 10 = 1 ∨ x % 10 = 2 ∨ x % 10 = 3 ∨ x % 10 = 4 ∨ x % 10 = 5 ∨ x % 10 = 6 ∨ x % 10 = 7 ∨ x % 10 = 8 ∨ x % 10 = 9 := by omega
    rcases h3 with h | h | h | h | h | h | h | h | h | h <;> simp [madeCells, hx, h, Nv.rcell]
  · rw [List.getElem?_eq_none (by rw [Nv.rcells_length, List.length_replicate]; omega), List.getElem?_eq_none (by simp [madeCells]; omega)]
set_option maxRecDepth 100000 in
set_option maxHeartbeats 16000000 in
theorem toS_any (a : Option Addr) (cap : Nat) (L : List Nw) (w : World) (h : Rd w a L) (hl : L.length ≤ 1048576) (hb : ∀ i, i < L.length → SmallN (nod L i)) :
    Calls Tryz.prog 13 #[.slice a L.length cap] w fun e w' => LstP w L e w' := by
  have HS := hidIt hb
  generalize hn : L.length = m at *
  obtain ⟨i0, hi, hz0, hz1, hz2⟩ := info_parts Nv.infoRw
  have HR := hidIt h
  have HN := hidIt hn
  clear h hn hb
  go_enter Tryz.func13, Tryz.ntmps13
  go_wp2_with (first
    | (at_make; refine wpList_make_full _ rfl _ _ 28 rfl w.heap.size 46 i0 (.agg #[.slice none 0 0, .slice none 0 0, .int .i64 0, .int .i64 0, .int .i64 0, .int .i64 0, .int .i64 0, .slice none 0 0, .slice none 0 0, .string ByteArray.empty]) 10 Tryz.underlying28 hi hz0 hz1 _ _ _ _ m rfl rfl (by omega) (by omega) (by rw [hz2]; omega) (by unfold maxLen; omega) (Nat.le_refl _) ?_)
    | fail)
  intro w1 hown hgrow
  have HV : Nv.Own w1 w.heap.size (.slice (some ⟨w.heap.size, 0, none⟩) m m) (List.replicate m ((none, 0, 0), (none, 0, 0), 0, 0, 0, 0, 0, (none, 0, 0), (none, 0, 0), ByteArray.empty)) := by
    unfold Nv.Own
    rw [List.length_replicate, pcells_zero]
    exact hown
  have HB := hidIt ((Below.refl w.heap.size w).grown hgrow (Nat.le_refl _) (fun k hk => by cases hk))
  have HO := hidIt (Own.made HV HB.out.size)
  clear hown hgrow HV
  go_wp2_with (fail)
  go_loopw [4] (fun y wx => ∃ (i : Nat) (M : List Nw), y = .int .i64 i ∧ i ≤ m ∧ M.length = m ∧ Hid (∀ j, j < i → nod M j = nod L j) ∧ Hid (Own wx w.heap.size wx.heap.size (.slice (some ⟨w.heap.size, 0, none⟩) m m) M) ∧ Hid (Below w.heap.size w wx)) (fun y _ => (m - intOf y).toNat)
  case atStart => exact ⟨0, _, rfl, by omega, by simp, hidIt (fun j hj => by omega), HO, HB⟩
  case round =>
    obtain ⟨i, M, rfl, hin0, hM, hE, HOx, HBx⟩ := hrel
    have HM := hidIt hM
    clear HO HB hM
    by_cases hin : i < m
    · have hin' : (i : Int) < (m : Int) := by omega
      obtain ⟨q, off, e, mm', b, g, rfl, c0, c1, c2, c3, c4, c5, c6, c7, c8, c9, rN⟩ := (HR.out.kept HBx.out).one (i := i) (by rw [HN.out]; exact hin)
      have HC := hidIt (Nd.to_any (nod L i) e mm' b g wr rN (HS.out i hin))
      have hiM : i < M.length := by rw [HM.out]; exact hin
      generalize hx : nod L i = x at *
      have HX := hidIt hx
      clear rN hx
      obtain ⟨bk, mm, ph, mn, ol, nw, tm, bu, lg, ap⟩ := x
      obtain ⟨e0, e1, e2⟩ := e
      obtain ⟨t0, t1, t2⟩ := mm'
      obtain ⟨b0, b1, b2⟩ := b
      obtain ⟨g0, g1, g2⟩ := g
      simp only [Nd.nv, Nd.nc, sv] at c0 c1 c2 c3 c4 c5 c6 c7 c8 c9 HC
      go_wp2_with (fail)
      refine HC.out.mono ?_
      intro en w2 hz
      obtain ⟨⟨x0, x1, x2⟩, ⟨y0, y1, y2⟩, ⟨u0, u1, u2⟩, ⟨v0, v1, v2⟩, rfl, oN, hb2⟩ := hz.out
      have HB2 := hidIt (on HBx.out hb2)
      have HO2 := hidIt (HOx.out.kept hb2)
      have HO3 := hidIt (HO2.out.put hiM oN)
      obtain ⟨e', m', b', g', z0, z1, z2, z3, z4, z5, z6, z7, z8, z9, k0, k1, k2, k3, k4, k5, k6, k7, k8, k9, _⟩ := HO2.out.cells hiM
      have HB3 := hidIt (((((((((((HB2.out).setCell (p := ⟨w.heap.size, i * 10, none⟩) (Nat.le_refl _) (.slice x0 x1 x2)).setCell (p := ⟨w.heap.size, i * 10 + 1, none⟩) (Nat.le_refl _) (.slice y0 y1 y2)).setCell (p := ⟨w.heap.size, i * 10 + 2, none⟩) (Nat.le_refl _) (.int .i64 ph)).setCell (p := ⟨w.heap.size, i * 10 + 3, none⟩) (Nat.le_refl _) (.int .i64 mn)).setCell (p := ⟨w.heap.size, i * 10 + 4, none⟩) (Nat.le_refl _) (.int .i64 ol)).setCell (p := ⟨w.heap.size, i * 10 + 5, none⟩) (Nat.le_refl _) (.int .i64 nw)).setCell (p := ⟨w.heap.size, i * 10 + 6, none⟩) (Nat.le_refl _) (.int .i64 tm)).setCell (p := ⟨w.heap.size, i * 10 + 7, none⟩) (Nat.le_refl _) (.slice u0 u1 u2)).setCell (p := ⟨w.heap.size, i * 10 + 8, none⟩) (Nat.le_refl _) (.slice v0 v1 v2)).setCell (p := ⟨w.heap.size, i * 10 + 9, none⟩) (Nat.le_refl _) (.string ap))
      have HO4 := hidIt HO3.out.grow
      clear hz oN hb2 HC HO2 HB2 HOx HBx HO3 c0 c1 c2 c3 c4 c5 c6 c7 c8 c9
      generalize nod M i = xm at z0 z1 z2 z3 z4 z5 z6 z7 z8 z9
      obtain ⟨bk', mm', ph', mn', ol', nw', tm', bu', lg', ap'⟩ := xm
      obtain ⟨p0, p1, p2⟩ := e'
      obtain ⟨r0, r1, r2⟩ := m'
      obtain ⟨s0, s1, s2⟩ := b'
      obtain ⟨j0, j1, j2⟩ := g'
      simp only [Nd.nv, Nd.nc, sv] at z0 z1 z2 z3 z4 z5 z6 z7 z8 z9 HO4 ⊢
      go_wp2_with (fail)
      refine ⟨⟨i + 1, M.set i ⟨bk, mm, ph, mn, ol, nw, tm, bu, lg, ap⟩, by simp, by omega, by rw [List.length_set]; exact HM.out, hidIt (fun j hj => ?_), HO4, HB3⟩, by simp [intOf]; omega⟩
      rw [nod_set hiM]
      split
      · rename_i e'; rw [← e', HX.out]
      · exact hE.out j (by omega)
    · have hin' : ¬ (i : Int) < (m : Int) := by omega
      have eM : M = L := ext_nod (by rw [HM.out, HN.out]) (fun j hj => hE.out j (by rw [HM.out] at hj; omega))
      subst eM
      go_wp2_with (fail)
      go_ret
      exact LstP.of rfl HOx.out HBx.out
end Go.Proofs.YtceddedlfdgbhaaGreatDoor.Ns
