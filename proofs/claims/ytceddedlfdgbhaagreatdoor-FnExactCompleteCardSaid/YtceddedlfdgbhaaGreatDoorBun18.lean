/-
  l13Whole of the specification: all books joined, all Members merged. (Written by wip/mk13.py.)
  GroupOk of the specification.
  A right Cluster in plain words; l18Group and ClusterOk of the specification. (Written by wip/mkKs.py.)
  The program's keysTogether, replicaOk and GroupOk.
  replicasOf, nodesOk, clocksOk and ClusterOk of the program. (Written by wip/mkKx.py.)
-/
import Derived.Test.YtceddedlfdgbhaaGreatDoorBun16
import Derived.Test.YtceddedlfdgbhaaGreatDoorBun10
import Derived.Test.YtceddedlfdgbhaaGreatDoorBun17
import Derived.Test.YtceddedlfdgbhaaGreatDoorBun4
import Derived.Test.YtceddedlfdgbhaaGreatDoorBun8
import Derived.Test.YtceddedlfdgbhaaGreatDoorBun12
import Derived.Test.YtceddedlfdgbhaaGreatDoorBun9
import Derived.Test.YtceddedlfdgbhaaGreatDoorBun14
import Derived.Test.YtceddedlfdgbhaaGreatDoorBun13
import Derived.Test.YtceddedlfdgbhaaGreatDoorQuiet
import Derived.Test.YtceddedlfdgbhaaGreatDoorBun15
namespace Go.Proofs.YtceddedlfdgbhaaGreatDoor.Rp
open Go.ChangeShapes Go.WideShapes Go.ChangeAt Go.RowKit
open Go.Proofs.YtceddedlfdgbhaaGreatDoor.Vv (Sl sv hidIt)
open Go.Proofs.YtceddedlfdgbhaaGreatDoor.Rg (upd waits wp_region_inv op_at)
set_option linter.unusedVariables false
/-- The books, and the Members, in plain words. -/
def bks (L : List Rep) : List (List Bk.En) := L.map fun r => En.toB r.1
def mbs (L : List Rep) : List (List Mk.En) := L.map fun r => Mm.toB r.2
theorem bks_take {L : List Rep} {i : Nat} (h : i < L.length) : (bks L).take (i + 1) = (bks L).take i ++ [En.toB (rat L i).1] := by
  unfold bks
  rw [← List.map_take, ← List.map_take, take_rat h, List.map_append]
  rfl
theorem mbs_take {L : List Rep} {i : Nat} (h : i < L.length) : (mbs L).take (i + 1) = (mbs L).take i ++ [Mm.toB (rat L i).2] := by
  unfold mbs
  rw [← List.map_take, ← List.map_take, take_rat h, List.map_append]
  rfl
/-- Right ones, as far as it matters here. -/
structure Tame (L : List Rep) : Prop where
  n : L.length ≤ 6
  bl : ∀ i, i < L.length → (rat L i).1.length ≤ 80
  ml : ∀ i, i < L.length → (rat L i).2.length ≤ 8
  br : ∀ i, i < L.length → Bk.Ris (En.toB (rat L i).1)
  mr : ∀ i, i < L.length → Mk.Ris (Mm.toB (rat L i).2)
theorem Tame.bris {L : List Rep} (h : Tame L) : Bk.AllRis (bks L) := by
  intro b hb
  obtain ⟨r, hr, rfl⟩ := List.mem_map.1 hb
  obtain ⟨i, hi, rfl⟩ := List.mem_iff_getElem.1 hr
  have := h.br i hi
  rw [rat_at hi] at this
  exact this
theorem Tame.mris {L : List Rep} (h : Tame L) : Mk.AllRis (mbs L) := by
  intro b hb
  obtain ⟨r, hr, rfl⟩ := List.mem_map.1 hb
  obtain ⟨i, hi, rfl⟩ := List.mem_iff_getElem.1 hr
  have := h.mr i hi
  rw [rat_at hi] at this
  exact this
/-- What l13Whole comes to. -/
def WhoP (L : List Rep) (w : World) (e : Ending) (w' : World) : Prop := ∃ J : Rep, TwoP w J e w' ∧ En.toB J.1 = Bk.whole (bks L) ∧ Mm.toB J.2 = Mk.whole (mbs L)
theorem WhoP.of {L : List Rep} {w w' : World} {e : Ending} (J : Rep) (h : TwoP w J e w') (h1 : En.toB J.1 = Bk.whole (bks L)) (h2 : Mm.toB J.2 = Mk.whole (mbs L)) : WhoP L w e w' := ⟨J, h, h1, h2⟩
theorem WhoP.out {L : List Rep} {w w' : World} {e : Ending} (h : WhoP L w e w') : ∃ J : Rep, TwoP w J e w' ∧ En.toB J.1 = Bk.whole (bks L) ∧ Mm.toB J.2 = Mk.whole (mbs L) := h
def CPBw (go b off i m cap o1 o2 b1 b2 : Nat) (oa ba : Option Addr) (A B : List En.Rw) (w0 : World) (W : World) (v : Value) : Prop := ∃ (s : Sl) (J : List En.Rw), v = sv s ∧ En.Own W w0.heap.size (sv s) J ∧ Bk.IsJoin (En.toB A) (En.toB B) (En.toB J) ∧ J.length ≤ o1 + b1 ∧ Below w0.heap.size w0 W
theorem CPBw.of {go b off i m cap o1 o2 b1 b2 : Nat} {oa ba : Option Addr} {A B : List En.Rw} {w0 : World} {W : World} {v : Value} {J : List En.Rw} (h : En.Own W w0.heap.size v J) (j : Bk.IsJoin (En.toB A) (En.toB B) (En.toB J)) (l : J.length ≤ o1 + b1) (k : Below w0.heap.size w0 W) : CPBw go b off i m cap o1 o2 b1 b2 oa ba A B w0 W v := by
  obtain ⟨a, c, e, _⟩ := h.form
  subst e
  exact ⟨(a, J.length, c), J, rfl, h, j, l, k⟩
def SPBw (go b off i m cap o1 o2 b1 b2 : Nat) (oa ba : Option Addr) (A B : List En.Rw) (w0 : World) (W : World) : Prop := ∃ (W1 : World) (s : Sl) (J : List En.Rw), W = W1.setCell ⟨go, 0, none⟩ (sv s) ∧ En.Own W1 w0.heap.size (sv s) J ∧ Bk.IsJoin (En.toB A) (En.toB B) (En.toB J) ∧ J.length ≤ o1 + b1 ∧ Below w0.heap.size w0 W1
structure RK_Bw (go b off i m cap o1 o2 b1 b2 : Nat) (oa ba : Option Addr) (A B : List En.Rw) (w0 : World) (W0 : World) (L : Nat → Bool) (u12 u13 u14 u15 u16 u17 u18 u19 u20 : Value) (W : World) : Prop where
  st0 : L 7 = false → W = W0
  st1 : L 7 = true → L 9 = false → CPBw go b off i m cap o1 o2 b1 b2 oa ba A B w0 W u19
  st2 : L 9 = true → SPBw go b off i m cap o1 o2 b1 b2 oa ba A B w0 W
  dep : L 7 = true → L 1 = true ∧ L 6 = true
  dps : L 9 = true → L 7 = true
  k0 : L 0 = true → u12 = .pointer (some ⟨go, 0, none⟩)
  k1 : L 1 = true → u13 = .slice oa o1 o2
  k2 : L 2 = true → u14 = .slice (some ⟨b, off, none⟩) m cap
  k3 : L 3 = true → u15 = .int .i64 i
  k4 : L 4 = true → u16 = .pointer (some ⟨b, off + i * 2, none⟩)
  k5 : L 5 = true → u17 = .pointer (some ⟨b, off + i * 2, none⟩)
  k6 : L 6 = true → u18 = .slice ba b1 b2
  k8 : L 8 = true → u20 = .pointer (some ⟨go, 0, none⟩)
def KK_Bw (go b off i m cap o1 o2 b1 b2 : Nat) (oa ba : Option Addr) (A B : List En.Rw) (w0 : World) (W0 : World) (y0 y1 y2 y3 y4 y5 y6 y7 y8 y9 y10 y11 y21 y22 y23 y24 y25 y26 y27 y28 y29 y30 : Value) (L : Nat → Bool) (a : Act) (W : World) : Prop := ∃ u12 u13 u14 u15 u16 u17 u18 u19 u20 : Value, a = ⟨(y0 :: y1 :: y2 :: y3 :: y4 :: y5 :: y6 :: y7 :: y8 :: y9 :: y10 :: y11 :: u12 :: u13 :: u14 :: u15 :: u16 :: u17 :: u18 :: u19 :: u20 :: y21 :: y22 :: y23 :: y24 :: y25 :: y26 :: y27 :: y28 :: y29 :: y30 :: []).toArray, []⟩ ∧ RK_Bw go b off i m cap o1 o2 b1 b2 oa ba A B w0 W0 L u12 u13 u14 u15 u16 u17 u18 u19 u20 W
def CPMw (go b off i m cap o1 o2 b1 b2 : Nat) (oa ba : Option Addr) (A B : List Mm.Rw) (w0 : World) (W : World) (v : Value) : Prop := ∃ (s : Sl) (J : List Mm.Rw), v = sv s ∧ Mm.Own W w0.heap.size (sv s) J ∧ Mk.IsJoin (Mm.toB A) (Mm.toB B) (Mm.toB J) ∧ J.length ≤ o1 + b1 ∧ Below w0.heap.size w0 W
theorem CPMw.of {go b off i m cap o1 o2 b1 b2 : Nat} {oa ba : Option Addr} {A B : List Mm.Rw} {w0 : World} {W : World} {v : Value} {J : List Mm.Rw} (h : Mm.Own W w0.heap.size v J) (j : Mk.IsJoin (Mm.toB A) (Mm.toB B) (Mm.toB J)) (l : J.length ≤ o1 + b1) (k : Below w0.heap.size w0 W) : CPMw go b off i m cap o1 o2 b1 b2 oa ba A B w0 W v := by
  obtain ⟨a, c, e, _⟩ := h.form
  subst e
  exact ⟨(a, J.length, c), J, rfl, h, j, l, k⟩
def SPMw (go b off i m cap o1 o2 b1 b2 : Nat) (oa ba : Option Addr) (A B : List Mm.Rw) (w0 : World) (W : World) : Prop := ∃ (W1 : World) (s : Sl) (J : List Mm.Rw), W = W1.setCell ⟨go, 1, none⟩ (sv s) ∧ Mm.Own W1 w0.heap.size (sv s) J ∧ Mk.IsJoin (Mm.toB A) (Mm.toB B) (Mm.toB J) ∧ J.length ≤ o1 + b1 ∧ Below w0.heap.size w0 W1
structure RK_Mw (go b off i m cap o1 o2 b1 b2 : Nat) (oa ba : Option Addr) (A B : List Mm.Rw) (w0 : World) (W0 : World) (L : Nat → Bool) (u21 u22 u23 u24 u25 u26 u27 u28 u29 : Value) (W : World) : Prop where
  st0 : L 7 = false → W = W0
  st1 : L 7 = true → L 9 = false → CPMw go b off i m cap o1 o2 b1 b2 oa ba A B w0 W u28
  st2 : L 9 = true → SPMw go b off i m cap o1 o2 b1 b2 oa ba A B w0 W
  dep : L 7 = true → L 1 = true ∧ L 6 = true
  dps : L 9 = true → L 7 = true
  k0 : L 0 = true → u21 = .pointer (some ⟨go, 1, none⟩)
  k1 : L 1 = true → u22 = .slice oa o1 o2
  k2 : L 2 = true → u23 = .slice (some ⟨b, off, none⟩) m cap
  k3 : L 3 = true → u24 = .int .i64 i
  k4 : L 4 = true → u25 = .pointer (some ⟨b, off + i * 2, none⟩)
  k5 : L 5 = true → u26 = .pointer (some ⟨b, off + i * 2 + 1, none⟩)
  k6 : L 6 = true → u27 = .slice ba b1 b2
  k8 : L 8 = true → u29 = .pointer (some ⟨go, 1, none⟩)
def KK_Mw (go b off i m cap o1 o2 b1 b2 : Nat) (oa ba : Option Addr) (A B : List Mm.Rw) (w0 : World) (W0 : World) (y0 y1 y2 y3 y4 y5 y6 y7 y8 y9 y10 y11 y12 y13 y14 y15 y16 y17 y18 y19 y20 y30 : Value) (L : Nat → Bool) (a : Act) (W : World) : Prop := ∃ u21 u22 u23 u24 u25 u26 u27 u28 u29 : Value, a = ⟨(y0 :: y1 :: y2 :: y3 :: y4 :: y5 :: y6 :: y7 :: y8 :: y9 :: y10 :: y11 :: y12 :: y13 :: y14 :: y15 :: y16 :: y17 :: y18 :: y19 :: y20 :: u21 :: u22 :: u23 :: u24 :: u25 :: u26 :: u27 :: u28 :: u29 :: y30 :: []).toArray, []⟩ ∧ RK_Mw go b off i m cap o1 o2 b1 b2 oa ba A B w0 W0 L u21 u22 u23 u24 u25 u26 u27 u28 u29 W
set_option maxRecDepth 100000 in
set_option maxHeartbeats 16000000 in
theorem spec_l13Whole (a : Option Addr) (cap : Nat) (L : List Rep) (w : World) (h : Rd w a L) (hT : Tame L) :
    Calls Tryz.prog 38 #[.slice a L.length cap] w fun e w' => WhoP L w e w' := by
  have HBT := hidIt (fun i (hi : i < L.length) => bks_take hi)
  have HMT := hidIt (fun i (hi : i < L.length) => mbs_take hi)
  have HBE : Hid ((bks L).take L.length = bks L) := hidIt (by rw [show L.length = (bks L).length by simp [bks], List.take_length])
  have HME : Hid ((mbs L).take L.length = mbs L) := hidIt (by rw [show L.length = (mbs L).length by simp [mbs], List.take_length])
  have HBR := hidIt hT.bris
  have HMR := hidIt hT.mris
  have HTT := hidIt hT
  have hm6 := hT.n
  have HR := hidIt h
  clear h hT
  generalize hn : L.length = m at *
  have HN := hidIt hn
  clear hn
  have BR := hidIt ((Bo.Box.new w #[.slice none 0 0, .slice none 0 0] 40).alloc (.cells #[.slice none 0 0, .slice none 0 0] 40))
  have BO : Hid (Bo.Box ((w.alloc (.cells #[.slice none 0 0, .slice none 0 0] 40)).alloc (.cells #[.slice none 0 0, .slice none 0 0] 40)) (w.heap.size + 1) #[.slice none 0 0, .slice none 0 0]) := hidIt (Bo.Box.newAt (by simp))
  have HB0 := hidIt (((Below.refl w.heap.size w).alloc (Nat.le_refl _) (.cells #[.slice none 0 0, .slice none 0 0] 40)).alloc (by simp) (.cells #[.slice none 0 0, .slice none 0 0] 40))
  go_enter Tryz.func38, Tryz.ntmps38
  go_wp2_with (fail)
  go_loopw [4] (fun y wx => ∃ (i : Nat) (s t : Sl) (J : Rep), y = .int .i64 i ∧ i ≤ m ∧ J.1.length ≤ 80 * i ∧ J.2.length ≤ 8 * i ∧ Hid (Bo.Box wx (w.heap.size + 1) #[sv s, sv t]) ∧ Hid (Bo.Box wx w.heap.size #[.slice none 0 0, .slice none 0 0]) ∧ Hid (En.Own wx (w.heap.size + 2) (sv s) J.1) ∧ Hid (Mm.Own wx (w.heap.size + 2) (sv t) J.2) ∧ Hid (En.toB J.1 = Bk.whole ((bks L).take i)) ∧ Hid (Mm.toB J.2 = Mk.whole ((mbs L).take i)) ∧ Hid (Below w.heap.size w wx)) (fun y _ => (m - intOf y).toNat)
  case atStart => exact ⟨0, (none, 0, 0), (none, 0, 0), ([], []), rfl, by omega, by simp, by simp, BO, BR, hidIt (En.Own.ofNil _ _), hidIt (Mm.Own.ofNil _ _), hidIt rfl, hidIt rfl, HB0⟩
  case round =>
    obtain ⟨i, s, t, J, rfl, hi, hl1, hl2, BO', BR', OE, OM, EB, EM, HB⟩ := hrel
    clear BO BR HB0
    by_cases hin : i < m
    · have hin' : (i : Int) < (m : Int) := by omega
      have hi0 : (0 : Int) ≤ (i : Int) := by omega
      have hiL : i < L.length := by rw [HN.out]; exact hin
      obtain ⟨b, off, p, q, ea, c0w, c1w, rEw, rMw⟩ := HR.out.one (i := i) hiL
      subst ea
      have hbw : b < w.heap.size := World.block_lt_of_cell? _ _ c0w
      have HRc := hidIt (fun W (k : Below w.heap.size w W) => show W.cell? ⟨b, off + i * 2 + 1, none⟩ = some (sv q) by rw [k.cell hbw]; exact c1w)
      have HR4 := hidIt (fun W (k : Below w.heap.size w W) => (rMw.kept k).rd)
      have c0 : wr.cell? ⟨b, off + i * 2, none⟩ = some (sv p) := by rw [HB.out.cell hbw]; exact c0w
      have c1 := HRc.out wr HB.out
      have rE := rEw.kept HB.out
      have rM := rMw.kept HB.out
      clear c0w c1w rEw rMw
      have rs := rdE_of OE.out
      have rt := rdM_of OM.out
      have hb80 := HTT.out.bl i hiL
      have hm8 := HTT.out.ml i hiL
      have Ri1 : Bk.Ris (En.toB J.1) := by rw [EB.out]; exact Bk.whole_ris (Bk.take_ris HBR.out _)
      have Ri2 : Mk.Ris (Mm.toB J.2) := by rw [EM.out]; exact Mk.whole_ris (Mk.take_ris HMR.out _)
      have HJ1 := hidIt (fun K (j : Bk.IsJoin (En.toB J.1) (En.toB (rat L i).1) K) => show K = Bk.whole ((bks L).take (i + 1)) by
        rw [HBT.out i hin, Bk.whole_snoc, ← EB.out]
        exact j.unique (Bk.merge_join _ _ Ri1 (HTT.out.br i hiL)))
      have HJ2 := hidIt (fun K (j : Mk.IsJoin (Mm.toB J.2) (Mm.toB (rat L i).2) K) => show K = Mk.whole ((mbs L).take (i + 1)) by
        rw [HMT.out i hin, Mk.whole_snoc, ← EM.out]
        exact j.unique (Mk.merge_join _ _ Ri2 (HTT.out.mr i hiL)))
      obtain ⟨s0, s1, s2⟩ := s
      obtain ⟨t0, t1, t2⟩ := t
      obtain ⟨p0, p1, p2⟩ := p
      obtain ⟨q0, q1, q2⟩ := q
      obtain ⟨e1, r1, n1, _, _⟩ := rs
      obtain ⟨e2, r2, n2, _, _⟩ := rt
      obtain ⟨e3, r3, n3, _, _⟩ := rE
      obtain ⟨e4, r4, n4, _, _⟩ := rM
      simp only at e1 r1 n1 e2 r2 n2 e3 r3 n3 e4 r4 n4
      simp only [sv] at c0 c1 BO' OE OM HRc HR4
      have C1 := hidIt (fun W (k : En.Rd W s0 J.1) (k' : En.Rd W p0 (rat L i).1) => En.spec_l11Join s0 p0 s2 p2 J.1 (rat L i).1 W k k' n1 Ri1 (HTT.out.br i hiL) (by omega))
      have C2 := hidIt (fun W (k : Mm.Rd W t0 J.2) (k' : Mm.Rd W q0 (rat L i).2) => Mm.spec_l12Merge t0 q0 t2 q2 J.2 (rat L i).2 W k k' n2 Ri2 (HTT.out.mr i hiL) (by omega))
      rw [← e1, ← e3] at C1
      rw [← e2, ← e4] at C2
      have hgo : w.heap.size + 1 < wr.heap.size := BO'.out.lt
      have H1 := hidIt r1
      have H2 := hidIt r2
      have H3 := hidIt r3
      have H4 := hidIt r4
      have HE1 := hidIt e1
      have HE2 := hidIt e2
      have HE3 := hidIt e3
      have HE4 := hidIt e4
      clear r1 r2 r3 r4 n1 n2 n3 n4 e1 e2 e3 e4 Ri1 Ri2
      have K0 : wr.drew.cell? ⟨w.heap.size + 1, 0, none⟩ = some (.slice s0 s1 s2) := BO'.out.c 0 rfl
      have K1 : wr.drew.cell? ⟨b, off + i * 2, none⟩ = some (.slice p0 p1 p2) := c0
      have Kz : wr.drew.frozen? ⟨w.heap.size + 1, 0, none⟩ = false := BO'.out.fr 0
      have Kg : w.heap.size + 1 < wr.drew.heap.size := hgo
      have HC := hidIt (C1.out wr.drew H1.out.drew H3.out.drew)
      go_wp2_with (fail)
      refine wp_region_inv (by kernel_rfl) (by kernel_rfl) (KK_Bw (w.heap.size + 1) b off i m cap s1 s2 p1 p2 s0 p0 J.1 (rat L i).1 wr.drew (wr.drew) _ _ _ _ _ _ _ _ _ _ _ _ _ _ _ _ _ _ _ _ _ _) ⟨_, _, _, _, _, _, _, _, _, rfl, ⟨fun _ => rfl, (fun q => by cases q), (fun q => by cases q), (fun q => by cases q), (fun q => by cases q), (fun q => by cases q), (fun q => by cases q), (fun q => by cases q), (fun q => by cases q), (fun q => by cases q), (fun q => by cases q), (fun q => by cases q), (fun q => by cases q)⟩⟩ ?_ ?_
      case refine_1 =>
        have c0 := K0
        have c1 := K1
        have z := Kz
        have hgo := Kg
        clear K0 K1 Kz Kg
        generalize wr.drew = W0 at c0 c1 z hgo HC ⊢
        intro Lb a' W i hi hI hL hD
        have hcases : i = 0 ∨ i = 1 ∨ i = 2 ∨ i = 3 ∨ i = 4 ∨ i = 5 ∨ i = 6 ∨ i = 7 ∨ i = 8 ∨ i = 9 := by simp at hi; omega
        clear hi
        obtain ⟨u12, u13, u14, u15, u16, u17, u18, u19, u20, rfl, R⟩ := hI
        rcases hcases with rfl | rfl | rfl | rfl | rfl | rfl | rfl | rfl | rfl | rfl
        · skip
          refine op_at rfl (fun K hK => ?_)
          go_simp
          refine hK _ _ ?_
          exact ⟨_, _, _, _, _, _, _, _, _, rfl, R.st0, R.st1, R.st2, R.dep, R.dps, (fun _ => rfl), R.k1, R.k2, R.k3, R.k4, R.k5, R.k6, R.k8⟩
        · skip
          have e0 := R.k0 (hD 0 (by kernel_rfl))
          subst e0
          have hc : Lb 7 = false := by
            cases q : Lb 7 with
            | false => rfl
            | true => have z := R.dep q; simp [hL] at z
          have eW := R.st0 hc
          subst eW
          refine op_at rfl (fun K hK => ?_)
          go_simp
          refine hK _ _ ?_
          exact ⟨_, _, _, _, _, _, _, _, _, rfl, R.st0, R.st1, R.st2, (fun q => by have q2 : Lb 7 = true := q; rw [hc] at q2; cases q2), R.dps, R.k0, (fun _ => rfl), R.k2, R.k3, R.k4, R.k5, R.k6, R.k8⟩
        · skip
          refine op_at rfl (fun K hK => ?_)
          go_simp
          refine hK _ _ ?_
          exact ⟨_, _, _, _, _, _, _, _, _, rfl, R.st0, R.st1, R.st2, R.dep, R.dps, R.k0, R.k1, (fun _ => rfl), R.k3, R.k4, R.k5, R.k6, R.k8⟩
        · skip
          refine op_at rfl (fun K hK => ?_)
          go_simp
          refine hK _ _ ?_
          exact ⟨_, _, _, _, _, _, _, _, _, rfl, R.st0, R.st1, R.st2, R.dep, R.dps, R.k0, R.k1, R.k2, (fun _ => rfl), R.k4, R.k5, R.k6, R.k8⟩
        · skip
          have e2 := R.k2 (hD 2 (by kernel_rfl))
          subst e2
          have e3 := R.k3 (hD 3 (by kernel_rfl))
          subst e3
          refine op_at rfl (fun K hK => ?_)
          go_simp
          refine hK _ _ ?_
          exact ⟨_, _, _, _, _, _, _, _, _, rfl, R.st0, R.st1, R.st2, R.dep, R.dps, R.k0, R.k1, R.k2, R.k3, (fun _ => rfl), R.k5, R.k6, R.k8⟩
        · skip
          have e4 := R.k4 (hD 4 (by kernel_rfl))
          subst e4
          refine op_at rfl (fun K hK => ?_)
          go_simp
          refine hK _ _ ?_
          exact ⟨_, _, _, _, _, _, _, _, _, rfl, R.st0, R.st1, R.st2, R.dep, R.dps, R.k0, R.k1, R.k2, R.k3, R.k4, (fun _ => rfl), R.k6, R.k8⟩
        · skip
          have e5 := R.k5 (hD 5 (by kernel_rfl))
          subst e5
          have hc : Lb 7 = false := by
            cases q : Lb 7 with
            | false => rfl
            | true => have z := R.dep q; simp [hL] at z
          have eW := R.st0 hc
          subst eW
          refine op_at rfl (fun K hK => ?_)
          go_simp
          refine hK _ _ ?_
          exact ⟨_, _, _, _, _, _, _, _, _, rfl, R.st0, R.st1, R.st2, (fun q => by have q2 : Lb 7 = true := q; rw [hc] at q2; cases q2), R.dps, R.k0, R.k1, R.k2, R.k3, R.k4, R.k5, (fun _ => rfl), R.k8⟩
        · skip
          have e1 := R.k1 (hD 1 (by kernel_rfl))
          subst e1
          have e6 := R.k6 (hD 6 (by kernel_rfl))
          subst e6
          have eW := R.st0 hL
          subst eW
          refine op_at rfl (fun K hK => ?_)
          go_simp
          refine (HC.out).mono ?_
          rintro e W1 ⟨v, J, rfl, _, o1', j1, l1, k1⟩
          go_simp
          refine hK _ _ ?_
          exact ⟨_, _, _, _, _, _, _, _, _, rfl, (fun q => by cases q), (fun _ _ => CPBw.of o1' j1 l1 k1), (fun q => by have q2 := R.dps q; rw [hL] at q2; cases q2), (fun _ => ⟨hD 1 (by kernel_rfl), hD 6 (by kernel_rfl)⟩), (fun _ => rfl), R.k0, R.k1, R.k2, R.k3, R.k4, R.k5, R.k6, R.k8⟩
        · skip
          refine op_at rfl (fun K hK => ?_)
          go_simp
          refine hK _ _ ?_
          exact ⟨_, _, _, _, _, _, _, _, _, rfl, R.st0, R.st1, R.st2, R.dep, R.dps, R.k0, R.k1, R.k2, R.k3, R.k4, R.k5, R.k6, (fun _ => rfl)⟩
        · skip
          have e8 := R.k8 (hD 8 (by kernel_rfl))
          subst e8
          have hcc := hD 7 (by kernel_rfl)
          have hc := R.st1 hcc hL
          obtain ⟨⟨z0, z1, z2⟩, J, rfl, hO, hj, hl, hb⟩ := hc
          have g0 : W.cell? ⟨w.heap.size + 1, 0, none⟩ = some (.slice s0 s1 s2) := by rw [hb.cell hgo]; exact c0
          have g1 : W.frozen? ⟨w.heap.size + 1, 0, none⟩ = false := by rw [hb.frozen hgo]; exact z
          simp only [sv] at hO
          refine op_at rfl (fun K hK => ?_)
          go_simp
          refine hK _ _ ?_
          exact ⟨_, _, _, _, _, _, _, _, _, rfl, (fun q => by have q2 : Lb 7 = false := q; rw [hcc] at q2; cases q2), (fun _ q => by cases q), (fun _ => ⟨W, (z0, z1, z2), J, rfl, hO, hj, hl, hb⟩), R.dep, (fun _ => hcc), R.k0, R.k1, R.k2, R.k3, R.k4, R.k5, R.k6, R.k8⟩
      case refine_2 =>
        intro Lb a' W hI hall
        obtain ⟨u12, u13, u14, u15, u16, u17, u18, u19, u20, rfl, R⟩ := hI
        have hS := R.st2 (hall 9)
        clear R hall
        obtain ⟨W1, ⟨z0, z1, z2⟩, K, rfl, oK, jK, lK, kK⟩ := hS
        have kk : Below wr.heap.size wr W1 := ⟨kK.os, kK.tape, kK.output, kK.size, kK.block⟩
        have eK := HJ1.out _ jK
        have HEK := hidIt eK
        have OK1 := hidIt (show En.Own W1 wr.heap.size (.slice z0 z1 z2) K from oK)
        have Y := hidIt ((Only.refl (w.heap.size + 1) W1).setCell 0 (.slice z0 z1 z2))
        have OK2 := hidIt (OK1.out.only Y.out (.inl hgo))
        have OM2 := hidIt ((OM.out.kept kk).only Y.out (.inl (by omega)))
        have BO2 := hidIt ((BO'.out.kept kk).put (c' := #[.slice z0 z1 z2, .slice t0 t1 t2]) 0 (.slice z0 z1 z2) (by simp) rfl)
        have BR2 := hidIt ((BR'.out.kept kk).other (v := .slice z0 z1 z2) (i := 0) (show w.heap.size + 1 ≠ w.heap.size by omega))
        have HB2 := hidIt ((on HB.out kk).setCell (p := ⟨w.heap.size + 1, 0, none⟩) (by show w.heap.size ≤ w.heap.size + 1; omega) (.slice z0 z1 z2))
        have OK3 := hidIt (OK2.out.mono (show w.heap.size + 2 ≤ wr.heap.size by omega))
        have lK' : K.length ≤ 80 * (i + 1) := by have := HE1.out; have := HE3.out; omega
        have H4' := hidIt (HR4.out _ HB2.out)
        have hc1' := HRc.out _ HB2.out
        clear HC C1 OK1 OK2 Y kK kk jK oK eK lK BO' BR' OE OM HB H1 H3 K0 K1 Kz Kg c0 c1
        generalize W1.setCell ⟨w.heap.size + 1, 0, none⟩ (.slice z0 z1 z2) = wr at OM2 BO2 BR2 HB2 OK3 H4' hc1' ⊢
        have hgo : w.heap.size + 1 < wr.heap.size := BO2.out.lt
        have HM2 : Hid (Mm.Rd wr t0 J.2) := hidIt (rdM_of (s := (t0, t1, t2)) OM2.out).rd
        have K0 : wr.drew.cell? ⟨w.heap.size + 1, 1, none⟩ = some (.slice t0 t1 t2) := BO2.out.c 1 rfl
        have K1 : wr.drew.cell? ⟨b, off + i * 2 + 1, none⟩ = some (.slice q0 q1 q2) := hc1'
        have Kz : wr.drew.frozen? ⟨w.heap.size + 1, 1, none⟩ = false := BO2.out.fr 1
        have Kg : w.heap.size + 1 < wr.drew.heap.size := hgo
        have HC := hidIt (C2.out wr.drew HM2.out.drew H4'.out.drew)
        go_wp2_with (fail)
        refine wp_region_inv (by kernel_rfl) (by kernel_rfl) (KK_Mw (w.heap.size + 1) b off i m cap t1 t2 q1 q2 t0 q0 J.2 (rat L i).2 wr.drew (wr.drew) _ _ _ _ _ _ _ _ _ _ _ _ _ _ _ _ _ _ _ _ _ _) ⟨_, _, _, _, _, _, _, _, _, rfl, ⟨fun _ => rfl, (fun q => by cases q), (fun q => by cases q), (fun q => by cases q), (fun q => by cases q), (fun q => by cases q), (fun q => by cases q), (fun q => by cases q), (fun q => by cases q), (fun q => by cases q), (fun q => by cases q), (fun q => by cases q), (fun q => by cases q)⟩⟩ ?_ ?_
        case refine_1 =>
          have c0 := K0
          have c1 := K1
          have z := Kz
          have hgo := Kg
          clear K0 K1 Kz Kg
          generalize wr.drew = W0 at c0 c1 z hgo HC ⊢
          intro Lb a' W i hi hI hL hD
          have hcases : i = 0 ∨ i = 1 ∨ i = 2 ∨ i = 3 ∨ i = 4 ∨ i = 5 ∨ i = 6 ∨ i = 7 ∨ i = 8 ∨ i = 9 := by simp at hi; omega
          clear hi
          obtain ⟨u21, u22, u23, u24, u25, u26, u27, u28, u29, rfl, R⟩ := hI
          rcases hcases with rfl | rfl | rfl | rfl | rfl | rfl | rfl | rfl | rfl | rfl
          · skip
            refine op_at rfl (fun K hK => ?_)
            go_simp
            refine hK _ _ ?_
            exact ⟨_, _, _, _, _, _, _, _, _, rfl, R.st0, R.st1, R.st2, R.dep, R.dps, (fun _ => rfl), R.k1, R.k2, R.k3, R.k4, R.k5, R.k6, R.k8⟩
          · skip
            have e0 := R.k0 (hD 0 (by kernel_rfl))
            subst e0
            have hc : Lb 7 = false := by
              cases q : Lb 7 with
              | false => rfl
              | true => have z := R.dep q; simp [hL] at z
            have eW := R.st0 hc
            subst eW
            refine op_at rfl (fun K hK => ?_)
            go_simp
            refine hK _ _ ?_
            exact ⟨_, _, _, _, _, _, _, _, _, rfl, R.st0, R.st1, R.st2, (fun q => by have q2 : Lb 7 = true := q; rw [hc] at q2; cases q2), R.dps, R.k0, (fun _ => rfl), R.k2, R.k3, R.k4, R.k5, R.k6, R.k8⟩
          · skip
            refine op_at rfl (fun K hK => ?_)
            go_simp
            refine hK _ _ ?_
            exact ⟨_, _, _, _, _, _, _, _, _, rfl, R.st0, R.st1, R.st2, R.dep, R.dps, R.k0, R.k1, (fun _ => rfl), R.k3, R.k4, R.k5, R.k6, R.k8⟩
          · skip
            refine op_at rfl (fun K hK => ?_)
            go_simp
            refine hK _ _ ?_
            exact ⟨_, _, _, _, _, _, _, _, _, rfl, R.st0, R.st1, R.st2, R.dep, R.dps, R.k0, R.k1, R.k2, (fun _ => rfl), R.k4, R.k5, R.k6, R.k8⟩
          · skip
            have e2 := R.k2 (hD 2 (by kernel_rfl))
            subst e2
            have e3 := R.k3 (hD 3 (by kernel_rfl))
            subst e3
            refine op_at rfl (fun K hK => ?_)
            go_simp
            refine hK _ _ ?_
            exact ⟨_, _, _, _, _, _, _, _, _, rfl, R.st0, R.st1, R.st2, R.dep, R.dps, R.k0, R.k1, R.k2, R.k3, (fun _ => rfl), R.k5, R.k6, R.k8⟩
          · skip
            have e4 := R.k4 (hD 4 (by kernel_rfl))
            subst e4
            refine op_at rfl (fun K hK => ?_)
            go_simp
            refine hK _ _ ?_
            exact ⟨_, _, _, _, _, _, _, _, _, rfl, R.st0, R.st1, R.st2, R.dep, R.dps, R.k0, R.k1, R.k2, R.k3, R.k4, (fun _ => rfl), R.k6, R.k8⟩
          · skip
            have e5 := R.k5 (hD 5 (by kernel_rfl))
            subst e5
            have hc : Lb 7 = false := by
              cases q : Lb 7 with
              | false => rfl
              | true => have z := R.dep q; simp [hL] at z
            have eW := R.st0 hc
            subst eW
            refine op_at rfl (fun K hK => ?_)
            go_simp
            refine hK _ _ ?_
            exact ⟨_, _, _, _, _, _, _, _, _, rfl, R.st0, R.st1, R.st2, (fun q => by have q2 : Lb 7 = true := q; rw [hc] at q2; cases q2), R.dps, R.k0, R.k1, R.k2, R.k3, R.k4, R.k5, (fun _ => rfl), R.k8⟩
          · skip
            have e1 := R.k1 (hD 1 (by kernel_rfl))
            subst e1
            have e6 := R.k6 (hD 6 (by kernel_rfl))
            subst e6
            have eW := R.st0 hL
            subst eW
            refine op_at rfl (fun K hK => ?_)
            go_simp
            refine (HC.out).mono ?_
            rintro e W1 ⟨v, J, rfl, _, o1', j1, l1, k1⟩
            go_simp
            refine hK _ _ ?_
            exact ⟨_, _, _, _, _, _, _, _, _, rfl, (fun q => by cases q), (fun _ _ => CPMw.of o1' j1 l1 k1), (fun q => by have q2 := R.dps q; rw [hL] at q2; cases q2), (fun _ => ⟨hD 1 (by kernel_rfl), hD 6 (by kernel_rfl)⟩), (fun _ => rfl), R.k0, R.k1, R.k2, R.k3, R.k4, R.k5, R.k6, R.k8⟩
          · skip
            refine op_at rfl (fun K hK => ?_)
            go_simp
            refine hK _ _ ?_
            exact ⟨_, _, _, _, _, _, _, _, _, rfl, R.st0, R.st1, R.st2, R.dep, R.dps, R.k0, R.k1, R.k2, R.k3, R.k4, R.k5, R.k6, (fun _ => rfl)⟩
          · skip
            have e8 := R.k8 (hD 8 (by kernel_rfl))
            subst e8
            have hcc := hD 7 (by kernel_rfl)
            have hc := R.st1 hcc hL
            obtain ⟨⟨z0, z1, z2⟩, J, rfl, hO, hj, hl, hb⟩ := hc
            have g0 : W.cell? ⟨w.heap.size + 1, 1, none⟩ = some (.slice t0 t1 t2) := by rw [hb.cell hgo]; exact c0
            have g1 : W.frozen? ⟨w.heap.size + 1, 1, none⟩ = false := by rw [hb.frozen hgo]; exact z
            simp only [sv] at hO
            refine op_at rfl (fun K hK => ?_)
            go_simp
            refine hK _ _ ?_
            exact ⟨_, _, _, _, _, _, _, _, _, rfl, (fun q => by have q2 : Lb 7 = false := q; rw [hcc] at q2; cases q2), (fun _ q => by cases q), (fun _ => ⟨W, (z0, z1, z2), J, rfl, hO, hj, hl, hb⟩), R.dep, (fun _ => hcc), R.k0, R.k1, R.k2, R.k3, R.k4, R.k5, R.k6, R.k8⟩
        case refine_2 =>
          intro Lb a' W hI hall
          obtain ⟨u21, u22, u23, u24, u25, u26, u27, u28, u29, rfl, R⟩ := hI
          have hS := R.st2 (hall 9)
          clear R hall
          obtain ⟨W1, ⟨x0, x1, x2⟩, K2, rfl, oK, jK, lK, kK⟩ := hS
          have kk : Below wr.heap.size wr W1 := ⟨kK.os, kK.tape, kK.output, kK.size, kK.block⟩
          have eK := HJ2.out _ jK
          have HEK2 := hidIt eK
          have OK1 := hidIt (show Mm.Own W1 wr.heap.size (.slice x0 x1 x2) K2 from oK)
          have Y := hidIt ((Only.refl (w.heap.size + 1) W1).setCell 1 (.slice x0 x1 x2))
          have OK2 := hidIt (OK1.out.only Y.out (.inl hgo))
          have OM3 := hidIt ((OK3.out.kept kk).only Y.out (.inl (by omega)))
          have BO3 := hidIt ((BO2.out.kept kk).put (c' := #[.slice z0 z1 z2, .slice x0 x1 x2]) 1 (.slice x0 x1 x2) (by simp) rfl)
          have BR3 := hidIt ((BR2.out.kept kk).other (v := .slice x0 x1 x2) (i := 1) (show w.heap.size + 1 ≠ w.heap.size by omega))
          have HB3 := hidIt ((on HB2.out kk).setCell (p := ⟨w.heap.size + 1, 1, none⟩) (by show w.heap.size ≤ w.heap.size + 1; omega) (.slice x0 x1 x2))
          have OK4 := hidIt (OK2.out.mono (show w.heap.size + 2 ≤ wr.heap.size by omega))
          have lK2' : K2.length ≤ 8 * (i + 1) := by have := HE2.out; have := HE4.out; omega
          clear HC C2 OK1 OK2 Y kK kk jK oK eK lK BO2 BR2 OM2 OK3 HB2 K0 K1 Kz Kg H4'
          go_wp2_with (fail)
          exact ⟨⟨i + 1, (z0, z1, z2), (x0, x1, x2), (K, K2), by simp, by omega, lK', lK2', BO3, BR3, OM3, OK4, HEK, HEK2, HB3⟩, by simp [intOf]; omega⟩
    · have hin' : ¬ (i : Int) < (m : Int) := by omega
      obtain rfl : i = m := by omega
      have EB' := EB.out
      have EM' := EM.out
      rw [HBE.out] at EB'
      rw [HME.out] at EM'
      obtain ⟨s0, s1, s2⟩ := s
      obtain ⟨t0, t1, t2⟩ := t
      simp only [sv] at BO' OE OM
      have a0 := BO'.out.c 0 (v := .slice s0 s1 s2) rfl
      have a1 := BO'.out.c 1 (v := .slice t0 t1 t2) rfl
      have b0 := BR'.out.c 0 (v := .slice none 0 0) rfl
      have b1 := BR'.out.c 1 (v := .slice none 0 0) rfl
      have g0 := BR'.out.fr 0
      have g1 := BR'.out.fr 1
      have hb0 : w.heap.size ≠ w.heap.size + 1 := by omega
      have Y := hidIt (((Only.refl w.heap.size wr).setCell 0 (.slice s0 s1 s2)).setCell 1 (.slice t0 t1 t2))
      have OE2 := hidIt ((OE.out.only Y.out (.inl (by omega))).mono (show w.heap.size ≤ w.heap.size + 2 by omega))
      have OM2 := hidIt ((OM.out.only Y.out (.inl (by omega))).mono (show w.heap.size ≤ w.heap.size + 2 by omega))
      have HB2 := hidIt ((HB.out.setCell (p := ⟨w.heap.size, 0, none⟩) (Nat.le_refl _) (.slice s0 s1 s2)).setCell (p := ⟨w.heap.size, 1, none⟩) (Nat.le_refl _) (.slice t0 t1 t2))
      have RB := hidIt ((BR'.out.put (c' := #[.slice s0 s1 s2, .slice none 0 0]) 0 (.slice s0 s1 s2) (by simp) rfl).put (c' := #[.slice s0 s1 s2, .slice t0 t1 t2]) 1 (.slice t0 t1 t2) (by simp) rfl)
      clear BO' BR' OE OM HB Y
      go_wp2_with (fail)
      generalize (wr.setCell ⟨w.heap.size, 0, none⟩ (.slice s0 s1 s2)).setCell ⟨w.heap.size, 1, none⟩ (.slice t0 t1 t2) = wz at OE2 OM2 HB2 RB ⊢
      have r0 := RB.out.c 0 (v := .slice s0 s1 s2) rfl
      have r1 := RB.out.c 1 (v := .slice t0 t1 t2) rfl
      clear a0 a1 b0 b1 g0 g1
      refine bodyPost_ret (v := .agg #[.slice s0 s1 s2, .slice t0 t1 t2]) (by simp [results, Tryz.results38, go_sem, r0, r1]) rfl ?_
      exact WhoP.of J (TwoP.of (s := (s0, s1, s2)) (t := (t0, t1, t2)) rfl OE2.out OM2.out HB2.out) EB' EM'
end Go.Proofs.YtceddedlfdgbhaaGreatDoor.Rp
namespace Go.Proofs.YtceddedlfdgbhaaGreatDoor.Rp
open Go.ChangeShapes Go.WideShapes Go.ChangeAt Go.RowKit
open Go.Proofs.YtceddedlfdgbhaaGreatDoor.Vv (Sl sv hidIt)
set_option linter.unusedVariables false
/-- A group. -/
def okG (L : List Rep) : Bool := decide (1 ≤ L.length) && (decide (L.length ≤ 6) && (L.all okR && decide ((Bk.whole (bks L)).length ≤ 80)))
theorem okG_all {L : List Rep} (h : okG L = true) : 1 ≤ L.length ∧ L.length ≤ 6 ∧ (∀ i, i < L.length → okR (rat L i) = true) ∧ (Bk.whole (bks L)).length ≤ 80 := by
  unfold okG at h
  simp only [Bool.and_eq_true, decide_eq_true_eq, List.all_eq_true] at h
  exact ⟨h.1, h.2.1, fun i hi => h.2.2.1 _ (rat_mem hi), h.2.2.2⟩
theorem okG_mk {L : List Rep} (h1 : 1 ≤ L.length) (h2 : L.length ≤ 6) (h3 : ∀ i, i < L.length → okR (rat L i) = true) (h4 : (Bk.whole (bks L)).length ≤ 80) : okG L = true := by
  unfold okG
  simp only [Bool.and_eq_true, decide_eq_true_eq, List.all_eq_true]
  refine ⟨h1, h2, fun r hr => ?_, h4⟩
  obtain ⟨i, hi, rfl⟩ := List.mem_iff_getElem.1 hr
  have := h3 i hi
  rw [rat_at hi] at this
  exact this
theorem tame_of {L : List Rep} (h2 : L.length ≤ 6) (h3 : ∀ i, i < L.length → okR (rat L i) = true) : Tame L := by
  have hb : ∀ i, i < L.length → Bk.okBk (En.toB (rat L i).1) = true := fun i hi => by
    have := h3 i hi
    unfold okR at this
    rw [Bool.and_eq_true] at this
    exact this.1
  have hm : ∀ i, i < L.length → Mk.okBk (Mm.toB (rat L i).2) = true := fun i hi => by
    have := h3 i hi
    unfold okR at this
    rw [Bool.and_eq_true] at this
    exact this.2
  exact ⟨h2, fun i hi => by have := Bk.ok_len (hb i hi); rwa [List.length_map] at this, fun i hi => by have := Mk.ok_len (hm i hi); rwa [List.length_map] at this, fun i hi => Bk.ok_ris (hb i hi), fun i hi => Mk.ok_ris (hm i hi)⟩
theorem okG_tame {L : List Rep} (h : okG L = true) : Tame L := tame_of (okG_all h).2.1 (okG_all h).2.2.1
theorem run_field0 (a d : Option Addr) (b c e f : Nat) (W : World) : (Instr.field 40 (.agg #[.slice a b c, .slice d e f]) 0).run Tryz.prog W = .ok (.slice a b c) W := by kernel_rfl
attribute [local go_sem] run_field0
set_option maxRecDepth 100000 in
set_option maxHeartbeats 8000000 in
theorem spec_GroupOk (a : Option Addr) (cap : Nat) (L : List Rep) (w : World) (h : Rd w a L) (hs : Short L) (hl : L.length ≤ 9223372036854775807) (hlb : ∀ i, i < L.length → (rat L i).1.length ≤ 9223372036854775807 ∧ (rat L i).2.length ≤ 9223372036854775807) :
    Calls Tryz.prog 21 #[.slice a L.length cap] w fun e w' => e = .returned (.bool (okG L)) ∧ Below w.heap.size w w' := by
  have N1 : Hid (¬ 1 ≤ L.length → okG L = false) := hidIt (fun q => by cases e : okG L with | false => rfl | true => exact absurd (okG_all e).1 q)
  have N2 : Hid (¬ L.length ≤ 6 → okG L = false) := hidIt (fun q => by cases e : okG L with | false => rfl | true => exact absurd (okG_all e).2.1 q)
  have N3 : Hid (∀ i, i < L.length → okR (rat L i) = false → okG L = false) := hidIt (fun i hi q => by cases e : okG L with | false => rfl | true => exact absurd ((okG_all e).2.2.1 i hi) (by rw [q]; decide))
  have N4 : Hid (1 ≤ L.length → L.length ≤ 6 → (∀ i, i < L.length → okR (rat L i) = true) → okG L = decide ((Bk.whole (bks L)).length ≤ 80)) := hidIt (fun h1 h2 h3 => by
    by_cases q : (Bk.whole (bks L)).length ≤ 80
    · rw [okG_mk h1 h2 h3 q, decide_eq_true q]
    · rw [decide_eq_false q]
      cases e : okG L with
      | false => rfl
      | true => exact absurd (okG_all e).2.2.2 q)
  have CW := hidIt (fun W (r : Rd W a L) (t : Tame L) => spec_l13Whole a cap L W r t)
  have HTM := hidIt (fun h2 h3 => tame_of (L := L) h2 h3)
  have HR := hidIt h
  have HS := hidIt hs
  have HLB := hidIt hlb
  clear h hs hlb
  generalize okG L = r at N1 N2 N3 N4 ⊢
  generalize hn : L.length = m at *
  have HN := hidIt hn
  clear hn
  by_cases h1 : 1 ≤ m
  · by_cases h6 : m ≤ 6
    · have g1 : ¬ (m : Int) < 1 := by omega
      have g1' : decide ((m : Int) < 1) = false := decide_eq_false g1
      have g2 : decide ((6 : Int) < (m : Int)) = false := decide_eq_false (by omega)
      go_enter Tryz.func21, Tryz.ntmps21
      go_wp2_with (fail)
      go_loopw [3] (fun y wx => ∃ i : Nat, y = .int .i64 i ∧ i ≤ m ∧ Hid (∀ j, j < i → okR (rat L j) = true) ∧ Hid (Below w.heap.size w wx)) (fun y _ => (m - intOf y).toNat)
      case atStart => exact ⟨0, rfl, by omega, hidIt (fun j hj => by omega), hidIt (Below.refl _ _)⟩
      case round =>
        obtain ⟨i, rfl, hi, HO, HB⟩ := hrel
        by_cases hin : i < m
        · have hin' : (i : Int) < (m : Int) := by omega
          have hiL : i < L.length := by rw [HN.out]; exact hin
          obtain ⟨b, off, p, q, ea, c0, c1, rE, rM⟩ := (HR.out.kept HB.out).one (i := i) hiL
          subst ea
          have hlb := HLB.out i hin
          have hsi := HS.out i hiL
          obtain ⟨p0, p1, p2⟩ := p
          obtain ⟨q0, q1, q2⟩ := q
          obtain ⟨e1, r1, _, _, _⟩ := rE
          obtain ⟨e2, r2, _, _, _⟩ := rM
          simp only at e1 r1 e2 r2
          simp only [sv] at c0 c1
          have C1 := hidIt (fun W (k : En.Rd W p0 (rat L i).1) => En.spec_BookOk p0 p2 (rat L i).1 W k hlb.1 hsi)
          have C2 := hidIt (fun W (k : Mm.Rd W q0 (rat L i).2) => Mm.spec_MembersOk q0 q2 (rat L i).2 W k hlb.2)
          rw [← e1] at C1
          rw [← e2] at C2
          have HOK : Hid (okR (rat L i) = (Bk.okBk (En.toB (rat L i).1) && Mk.okBk (Mm.toB (rat L i).2))) := hidIt rfl
          have H1 := hidIt r1
          have H2 := hidIt r2
          clear r1 r2 e1 e2 hlb hsi
          generalize Bk.okBk (En.toB (rat L i).1) = k1 at C1 HOK
          generalize Mk.okBk (Mm.toB (rat L i).2) = k2 at C2 HOK
          cases k1 with
          | false =>
            have er := N3.out i hin HOK.out
            subst er
            go_wp2_with (fail)
            refine (C1.out _ H1.out).mono ?_
            rintro e w1 ⟨rfl, k⟩
            have HB1 := hidIt (on HB.out k)
            clear k
            go_wp2_with (fail)
            go_ret
            exact ⟨rfl, HB1.out⟩
          | true =>
            go_wp2_with (fail)
            refine (C1.out _ H1.out).mono ?_
            rintro e w1 ⟨rfl, k⟩
            have HB1 := hidIt (on HB.out k)
            have c1' : w1.cell? ⟨b, off + i * 2 + 1, none⟩ = some (.slice q0 q1 q2) := by rw [k.cell (by simpa using World.block_lt_of_cell? _ _ c1)]; exact c1
            have H3 := hidIt (H2.out.kept k)
            clear k c0 c1
            go_wp2_with (fail)
            refine (C2.out _ H3.out).mono ?_
            rintro e w2 ⟨rfl, k⟩
            have HB2 := hidIt (on HB1.out k)
            clear k
            cases k2 with
            | false =>
              have er := N3.out i hin HOK.out
              subst er
              go_wp2_with (fail)
              go_ret
              exact ⟨rfl, HB2.out⟩
            | true =>
              go_wp2_with (fail)
              refine ⟨⟨i + 1, by simp, by omega, hidIt (fun j hj => ?_), HB2⟩, by simp [intOf]; omega⟩
              rcases Nat.lt_succ_iff_lt_or_eq.1 hj with q | q
              · exact HO.out j q
              · subst q; exact HOK.out
        · have hin' : ¬ (i : Int) < (m : Int) := by omega
          obtain rfl : i = m := by omega
          have er := N4.out h1 h6 HO.out
          have HT := hidIt (HTM.out h6 HO.out)
          go_wp2_with (fail)
          refine (CW.out _ (HR.out.kept HB.out) HT.out).mono ?_
          intro e w1 hz
          obtain ⟨J, hz2, e1, e2⟩ := hz.out
          obtain ⟨⟨s0, s1, s2⟩, ⟨t0, t1, t2⟩, rfl, oE, oM, k⟩ := hz2.out
          have HB1 := hidIt (on HB.out k)
          have hlen : s1 = (Bk.whole (bks L)).length := by
            have := (rdE_of oE).len
            simp only at this
            rw [this, ← e1, List.length_map]
          rw [← hlen] at er
          clear hz hz2 oE oM k e1 e2 hlen
          subst er
          have hd : decide ((s1 : Int) ≤ 80) = decide (s1 ≤ 80) := decide_eq_decide.2 (by omega)
          simp only [sv]
          go_wp2_with (fail)
          go_ret
          first | exact ⟨rfl, HB1.out⟩ | exact ⟨by rw [hd], HB1.out⟩
    · have g1' : decide ((m : Int) < 1) = false := decide_eq_false (by omega)
      have g2 : decide ((6 : Int) < (m : Int)) = true := decide_eq_true (by omega)
      have er := N2.out h6
      subst er
      go_enter Tryz.func21, Tryz.ntmps21
      go_wp2
      go_ret
      exact ⟨rfl, Below.refl _ _⟩
  · have g1' : decide ((m : Int) < 1) = true := decide_eq_true (by omega)
    have er := N1.out h1
    subst er
    go_enter Tryz.func21, Tryz.ntmps21
    go_wp2
    go_ret
    exact ⟨rfl, Below.refl _ _⟩
end Go.Proofs.YtceddedlfdgbhaaGreatDoor.Rp
namespace Go.Proofs.YtceddedlfdgbhaaGreatDoor.Kc
open Go.ChangeShapes Go.WideShapes Go.ChangeAt Go.RowKit
open Go.Proofs.YtceddedlfdgbhaaGreatDoor.Vv (Sl sv hidIt)
open Go.Proofs.YtceddedlfdgbhaaGreatDoor.Nd (Nw RdN OwnN ShortN SmallN)
open Go.Proofs.YtceddedlfdgbhaaGreatDoor.Ns (nod)
open Go.Proofs.YtceddedlfdgbhaaGreatDoor.Rc (BelowBy wp_region_below calls_below calls_same)
set_option linter.unusedVariables false
theorem on {W a b : World} (h : Below W.heap.size W a) (k : Below a.heap.size a b) : Below W.heap.size W b := h.trans (k.mono h.size)
/-- The Replicas of Nodes. -/
def reps (L : List Nw) : List Rp.Rep := L.map (fun x => (x.book, x.mem))
theorem reps_length (L : List Nw) : (reps L).length = L.length := by simp [reps]
theorem rat_reps {L : List Nw} {i : Nat} (h : i < L.length) : Rp.rat (reps L) i = ((nod L i).book, (nod L i).mem) := by
  rw [Rp.rat_at (by rw [reps_length]; exact h), Ns.nod_at h]
  simp [reps]
/-- What is asked of Node i and its Clock. -/
def eachB (c : Cw) (i : Nat) : Bool := Nd.okN (nod c.nodes i) && (((nod c.nodes i).apex.toList == (nod c.nodes 0).apex.toList) && Ro.timB (Iv.iat c.clock i))
def okK (c : Cw) : Bool := Ro.timB c.now && (decide (1 ≤ c.nodes.length) && (decide (c.nodes.length ≤ 4) && (decide (c.clock.length = c.nodes.length) && ((List.range c.nodes.length).all (eachB c) && Rp.okG (reps c.nodes)))))
theorem okK_now {c : Cw} (h : Ro.timB c.now = false) : okK c = false := by unfold okK; rw [h]; rfl
theorem okK_lo {c : Cw} (h : ¬ 1 ≤ c.nodes.length) : okK c = false := by unfold okK; rw [decide_eq_false h]; simp
theorem okK_hi {c : Cw} (h : ¬ c.nodes.length ≤ 4) : okK c = false := by unfold okK; rw [decide_eq_false h]; simp
theorem okK_ck {c : Cw} (h : ¬ c.clock.length = c.nodes.length) : okK c = false := by unfold okK; rw [decide_eq_false h]; simp
theorem okK_no {c : Cw} {i : Nat} (hi : i < c.nodes.length) (h : eachB c i = false) : okK c = false := by
  have e : (List.range c.nodes.length).all (eachB c) = false := by
    rw [List.all_eq_false]
    exact ⟨i, List.mem_range.2 hi, by rw [h]; decide⟩
  unfold okK
  rw [e]
  simp
theorem okK_all {c : Cw} (h0 : Ro.timB c.now = true) (h1 : 1 ≤ c.nodes.length) (h2 : c.nodes.length ≤ 4) (h3 : c.clock.length = c.nodes.length) (h4 : ∀ i, i < c.nodes.length → eachB c i = true) : okK c = Rp.okG (reps c.nodes) := by
  have e : (List.range c.nodes.length).all (eachB c) = true := by
    rw [List.all_eq_true]
    exact fun i hi => h4 i (List.mem_range.1 hi)
  unfold okK
  rw [h0, decide_eq_true h1, decide_eq_true h2, decide_eq_true h3, e]
  simp
theorem okK_out {c : Cw} (h : okK c = true) : Ro.timB c.now = true ∧ 1 ≤ c.nodes.length ∧ c.nodes.length ≤ 4 ∧ c.clock.length = c.nodes.length ∧ (∀ i, i < c.nodes.length → eachB c i = true) ∧ Rp.okG (reps c.nodes) = true := by
  unfold okK at h
  simp only [Bool.and_eq_true, decide_eq_true_eq, List.all_eq_true, List.mem_range] at h
  exact h
theorem lens {w : World} {a : Option Addr} {L : List Nw} (h : Ns.Rd w a L) {i : Nat} (hi : i < L.length) : (nod L i).book.length ≤ 9223372036854775807 ∧ (nod L i).mem.length ≤ 9223372036854775807 := by
  obtain ⟨_, _, e, m, b, g, _, _, _, _, _, _, _, _, _, _, _, r⟩ := h.one hi
  exact ⟨Nat.le_trans r.e.le r.e.cap, Nat.le_trans r.m.le r.m.cap⟩
def GrpP (w : World) (L : List Nw) (en : Ending) (w' : World) : Prop := ∃ a cap, en = .returned (.slice a L.length cap) ∧ Rp.Rd w' a (reps L) ∧ Below w.heap.size w w'
theorem GrpP.of {w w' : World} {L : List Nw} {en : Ending} {a : Option Addr} {cap : Nat} (h : en = .returned (.slice a L.length cap)) (h1 : Rp.Rd w' a (reps L)) (h2 : Below w.heap.size w w') : GrpP w L en w' := ⟨a, cap, h, h1, h2⟩
theorem GrpP.out {w w' : World} {L : List Nw} {en : Ending} (h : GrpP w L en w') : ∃ a cap, en = .returned (.slice a L.length cap) ∧ Rp.Rd w' a (reps L) ∧ Below w.heap.size w w' := h
/-- A row of slices that are the Nodes' own reads as their Replicas. -/
theorem rd_group {w w' : World} {lo : Nat} {v : Value} {C : List Vv.Rw} {L : List Nw} {a : Option Addr} {m cap : Nat} (e : v = .slice a m cap) (hC : C.length = L.length) (o : Vv.Own w' lo v C) (k : Below w.heap.size w w') (h : ∀ j, j < L.length → Rp.RdE w (Vv.rat C j).1 (nod L j).book ∧ Rp.RdM w (Vv.rat C j).2 (nod L j).mem) : Rp.Rd w' a (reps L) := by
  obtain ⟨a', c', e', _, _, r, _⟩ := o.form
  rw [e] at e'
  obtain ⟨rfl, _, _⟩ := Value.slice.inj e'
  refine ⟨C, by rw [reps_length]; exact hC, r, fun i hi => ?_, fun i hi => ?_⟩
  all_goals rw [reps_length] at hi
  · rw [rat_reps hi]
    exact (h i hi).1.kept k
  · rw [rat_reps hi]
    exact (h i hi).2.kept k
set_option maxRecDepth 100000 in
set_option maxHeartbeats 8000000 in
theorem spec_l18Group (c : Cw) (n k : Sl) (w : World) (h : RdK w c n k) (hl : c.nodes.length ≤ 4) : Calls Tryz.prog 22 #[kv c n k] w fun en w' => GrpP w c.nodes en w' := by
  obtain ⟨i0, hi0, hz0, hz1, hz2⟩ := info_parts Vv.infoRw
  obtain ⟨no, ns, ck⟩ := c
  obtain ⟨n0, n1, n2⟩ := n
  obtain ⟨k0, k1, k2⟩ := k
  obtain ⟨z1, rN, cN, z2, _, _⟩ := h
  simp only at z1 rN cN z2 hl ⊢
  have HR := hidIt rN
  subst z1 z2
  clear rN cN
  generalize hm : ns.length = m at *
  have HN := hidIt hm
  clear hm
  generalize ck.length = m2
  have BX : Hid (Bo.Box (w.alloc (.cells #[.int .i64 no, .slice n0 m n2, .slice k0 m2 k2] 30)) w.heap.size #[.int .i64 no, .slice n0 m n2, .slice k0 m2 k2]) := hidIt (Bo.Box.new w _ _)
  have HB : Hid (Below w.heap.size w (w.alloc (.cells #[.int .i64 no, .slice n0 m n2, .slice k0 m2 k2] 30))) := hidIt ((Below.refl w.heap.size w).alloc (Nat.le_refl _) _)
  simp only [kv, kc, sv]
  go_enter Tryz.func22, Tryz.ntmps22
  go_wp2_with (fail)
  have hW0 : (w.alloc (.cells #[.int .i64 no, .slice n0 m n2, .slice k0 m2 k2] 30)).heap.size = w.heap.size + 1 := by simp
  generalize w.alloc (.cells #[.int .i64 no, .slice n0 m n2, .slice k0 m2 k2] 30) = W0 at BX HB hW0 ⊢
  have HW0 := hidIt hW0
  clear hW0
  go_loopw [3, 4] (fun z y wx => ∃ (i go co : Nat) (C : List Vv.Rw), y = .int .i64 i ∧ z = .slice (some ⟨go, 0, none⟩) i co ∧ i ≤ m ∧ Hid (C.length = i) ∧ Hid (∀ j, j < i → Rp.RdE w (Vv.rat C j).1 (nod ns j).book ∧ Rp.RdM w (Vv.rat C j).2 (nod ns j).mem) ∧ Hid (Vv.Own wx W0.heap.size (.slice (some ⟨go, 0, none⟩) i co) C) ∧ Hid (Below W0.heap.size W0 wx)) (fun _ y _ => (m - intOf y).toNat)
  case atStart => exact ⟨0, w.heap.size + 1, 0, [], rfl, rfl, by omega, hidIt rfl, hidIt (fun j hj => by omega), hidIt (by rw [← HW0.out]; exact Vv.Own.new W0), hidIt ((Below.refl _ W0).alloc (Nat.le_refl _) _)⟩
  case round =>
    obtain ⟨i, go, co, C, rfl, rfl, hi, HC, HE, HO, HBx⟩ := hrel
    have d1 := (BX.out.kept HBx.out).c 1 (v := .slice n0 m n2) rfl
    by_cases hin : i < m
    · have hin' : (i : Int) < (m : Int) := by omega
      have hi0' : (0 : Int) ≤ (i : Int) := by omega
      have hiL : i < ns.length := by rw [HN.out]; exact hin
      have HBw := hidIt (on HB.out HBx.out)
      obtain ⟨q, off, e, mm', b, g, eq, c0, c1, c2, c3, c4, c5, c6, c7, c8, c9, rN0⟩ := HR.out.one (i := i) hiL
      subst eq
      have bq : q < w.heap.size := World.block_lt_of_cell? w _ c0
      have x0 : wr.cell? ⟨q, off + i * 10, none⟩ = some (sv e) := by rw [HBw.out.cell bq]; exact c0
      have x1 : wr.cell? ⟨q, off + i * 10 + 1, none⟩ = some (sv mm') := by rw [HBw.out.cell bq]; exact c1
      obtain ⟨e0, e1, e2⟩ := e
      obtain ⟨t0, t1, t2⟩ := mm'
      have hEM := hidIt (show Rp.RdE w (e0, e1, e2) (nod ns i).book ∧ Rp.RdM w (t0, t1, t2) (nod ns i).mem from ⟨rN0.e, rN0.m⟩)
      clear c0 c1 c2 c3 c4 c5 c6 c7 c8 c9 rN0 bq
      simp only [sv] at x0 x1
      have HRow : Hid (World.ownsRow (wr.alloc (.cells #[.slice e0 e1 e2, .slice t0 t1 t2] 40)) W0.heap.size 40 2 (.slice (some ⟨go, 0, none⟩) i co) C.length (Vv.rcells C)) := hidIt (Vv.Own.alloc HO.out _)
      have HFr := hidIt (Vv.fresh wr ((e0, e1, e2), (t0, t1, t2)) 40)
      have hAl := hidIt ((Below.refl wr.heap.size wr).alloc (Nat.le_refl _) (.cells #[.slice e0 e1 e2, .slice t0 t1 t2] 40))
      go_wp2_with (first | (at_builtin; refine wpList_append_own _ rfl _ _ 64 rfl W0.heap.size 40 i0 (.agg #[sv (none, 0, 0), sv (none, 0, 0)]) 2 48 Tryz.underlying64 hi0 hz0 hz1 hz2 rfl (by decide) _ _ _ rfl HRow.out ⟨wr.heap.size, 0, none⟩ 1 1 [.slice e0 e1 e2, .slice t0 t1 t2] rfl rfl HFr.out (Vv.rcells_one [((e0, e1, e2), (t0, t1, t2))]) ?ca1 ?ca2 ?ca3 ?_) | fail)
      case ca1 => unfold maxLen; have := HC.out; omega
      case ca2 => have := HC.out; omega
      case ca3 => exact Nat.le_trans HBx.out.size hAl.out.size
      intro v' w9 hown hgrow hnil
      have oo := Vv.Own.more (L := C) (M := [((e0, e1, e2), (t0, t1, t2))]) hown
      have hv' : v' ≠ .slice none 0 0 := hnil
      obtain ⟨zg, zc, ez, _⟩ := oo.some_form hv'
      have hlen : (C ++ [((e0, e1, e2), (t0, t1, t2))]).length = i + 1 := by rw [List.length_append, HC.out]; rfl
      rw [hlen] at ez
      subst ez
      have kG : Below W0.heap.size W0 w9 := (HBx.out.trans (hAl.out.mono HBx.out.size)).trans (Vv.grown_below (L := C) HRow.out hgrow (Nat.le_refl _) (Nat.le_trans HBx.out.size hAl.out.size))
      have HO9 := hidIt oo
      have HB9 := hidIt kG
      clear hown hgrow hnil oo hv' kG HRow HFr hAl
      go_wp2_with (fail)
      refine ⟨⟨i + 1, zg, zc, C ++ [((e0, e1, e2), (t0, t1, t2))], by simp, rfl, by omega, hidIt hlen, hidIt (fun j hj => ?_), HO9, HB9⟩, by simp [intOf]; omega⟩
      by_cases hj2 : j < i
      · rw [Rp.vat_app (by rw [HC.out]; exact hj2)]
        exact HE.out j hj2
      · obtain rfl : j = i := by omega
        have e5 := Rp.vat_last C ((e0, e1, e2), (t0, t1, t2))
        rw [HC.out] at e5
        rw [e5]
        exact hEM.out
    · have hin' : ¬ (i : Int) < (m : Int) := by omega
      obtain rfl : i = m := by omega
      go_wp2_with (fail)
      go_ret
      have e5 := HN.out
      subst e5
      exact GrpP.of rfl (rd_group rfl HC.out HO.out (on HB.out HBx.out) (fun j hj => HE.out j hj)) (on HB.out HBx.out)
set_option maxRecDepth 100000 in
set_option maxHeartbeats 16000000 in
theorem spec_ClusterOk (c : Cw) (n k : Sl) (w : World) (h : RdK w c n k) (hs : ShortK c) : Calls Tryz.prog 11 #[kv c n k] w fun en w' => en = .returned (.bool (okK c)) ∧ Below w.heap.size w w' := by
  have N0 := hidIt (fun h => okK_now (c := c) h)
  have N1 := hidIt (fun h => okK_lo (c := c) h)
  have N2 := hidIt (fun h => okK_hi (c := c) h)
  have N3 := hidIt (fun h => okK_ck (c := c) h)
  have NO := hidIt (fun i hi h => okK_no (c := c) (i := i) hi h)
  have NA := hidIt (fun h0 h1 h2 h3 h4 => okK_all (c := c) h0 h1 h2 h3 h4)
  have HK := hidIt h
  have CG := hidIt (fun W (r : RdK W c n k) hl => spec_l18Group c n k W r hl)
  have CO := hidIt (fun a cap W (r : Rp.Rd W a (reps c.nodes)) (hl : c.nodes.length ≤ 4) => Rp.spec_GroupOk a cap (reps c.nodes) W r (fun i hi => by rw [reps_length] at hi; rw [rat_reps hi]; exact (hs i hi).e) (by rw [reps_length]; omega) (fun i hi => by rw [reps_length] at hi; rw [rat_reps hi]; exact lens HK.out.nr hi))
  rw [reps_length] at CO
  have CT0 := hidIt (fun W => Ro.spec_l9Time c.now W)
  have CTi := hidIt (fun i W => Ro.spec_l9Time (Iv.iat c.clock i) W)
  have EB : Hid (∀ i, eachB c i = (Nd.okN (nod c.nodes i) && (((nod c.nodes i).apex.toList == (nod c.nodes 0).apex.toList) && Ro.timB (Iv.iat c.clock i)))) := hidIt (fun i => rfl)
  generalize okK c = res at N0 N1 N2 N3 NO NA ⊢
  generalize Rp.okG (reps c.nodes) = resg at NA CO
  have HSh := hidIt hs
  obtain ⟨no, ns, ck⟩ := c
  obtain ⟨n0, n1, n2⟩ := n
  obtain ⟨k0, k1, k2⟩ := k
  obtain ⟨z1, rN, cN, z2, rK, cK⟩ := h
  simp only at z1 rN cN z2 rK cK N0 N1 N2 N3 NO NA CO CT0 CTi EB
  have RN := hidIt rN
  have RK := hidIt rK
  subst z1 z2
  clear rN rK hs
  simp only [kv, kc, sv] at CG ⊢
  generalize hm : ns.length = m at *
  generalize hm2 : ck.length = m2 at *
  have HN := hidIt hm
  have HN2 := hidIt hm2
  clear hm hm2
  have BX : Hid (Bo.Box (w.alloc (.cells #[.int .i64 no, .slice n0 m n2, .slice k0 m2 k2] 30)) w.heap.size #[.int .i64 no, .slice n0 m n2, .slice k0 m2 k2]) := hidIt (Bo.Box.new w _ _)
  have HB : Hid (Below w.heap.size w (w.alloc (.cells #[.int .i64 no, .slice n0 m n2, .slice k0 m2 k2] 30))) := hidIt ((Below.refl w.heap.size w).alloc (Nat.le_refl _) _)
  have d0 := BX.out.c 0 (v := .int .i64 no) rfl
  have d1 := BX.out.c 1 (v := .slice n0 m n2) rfl
  have d2 := BX.out.c 2 (v := .slice k0 m2 k2) rfl
  generalize hk0 : Ro.timB no = t0 at CT0 N0 NA
  cases t0 with
  | false =>
    have er := N0.out rfl
    subst er
    go_enter Tryz.func11, Tryz.ntmps11
    go_wp2_with (fail)
    refine (CT0.out _).mono ?_
    rintro en w1 ⟨rfl, rfl⟩
    go_wp2_with (fail)
    go_ret
    exact ⟨rfl, HB.out⟩
  | true =>
  clear hk0
  by_cases h1 : 1 ≤ m
  case neg =>
    have er := N1.out h1
    subst er
    have h1' : (m : Int) < 1 := by omega
    go_enter Tryz.func11, Tryz.ntmps11
    go_wp2_with (fail)
    refine (CT0.out _).mono ?_
    rintro en w1 ⟨rfl, rfl⟩
    go_wp2_with (fail)
    go_ret
    exact ⟨rfl, HB.out⟩
  have h1' : ¬ (m : Int) < 1 := by omega
  by_cases h2 : m ≤ 4
  case neg =>
    have er := N2.out h2
    subst er
    have h2' : (4 : Int) < (m : Int) := by omega
    go_enter Tryz.func11, Tryz.ntmps11
    go_wp2_with (fail)
    refine (CT0.out _).mono ?_
    rintro en w1 ⟨rfl, rfl⟩
    go_wp2_with (fail)
    go_ret
    exact ⟨rfl, HB.out⟩
  have h2' : ¬ (4 : Int) < (m : Int) := by omega
  by_cases h3 : m2 = m
  case neg =>
    have er := N3.out h3
    subst er
    have h3' : ((m2 : Int) != (m : Int)) = true := by simp; omega
    go_enter Tryz.func11, Tryz.ntmps11
    go_wp2_with (fail)
    refine (CT0.out _).mono ?_
    rintro en w1 ⟨rfl, rfl⟩
    go_wp2_with (fail)
    go_ret
    exact ⟨rfl, HB.out⟩
  subst h3
  have h3' : ((m2 : Int) != (m2 : Int)) = false := by simp
  go_enter Tryz.func11, Tryz.ntmps11
  go_wp2_with (fail)
  refine (CT0.out _).mono ?_
  rintro en w1 ⟨rfl, ew⟩
  have ew2 := ew.symm
  subst ew2
  clear ew d0 d1 d2 N0 N1 N2 N3
  go_wp2_with (fail)
  generalize hW0 : w.alloc (.cells #[.int .i64 no, .slice n0 m2 n2, .slice k0 m2 k2] 30) = W0 at BX HB ⊢
  clear hW0
  have HH2 := hidIt h2
  have HH1 := hidIt h1
  go_loopw [3] (fun y wx => ∃ (i : Nat), y = .int .i64 i ∧ i ≤ m2 ∧ Hid (∀ j, j < i → eachB ⟨no, ns, ck⟩ j = true) ∧ Hid (Below W0.heap.size W0 wx)) (fun y _ => (m2 - intOf y).toNat)
  case atStart => exact ⟨0, rfl, by omega, hidIt (fun j hj => by omega), hidIt (Below.refl _ _)⟩
  case round =>
    obtain ⟨i, rfl, hi, HE, HBx⟩ := hrel
    have d1 := (BX.out.kept HBx.out).c 1 (v := .slice n0 m2 n2) rfl
    by_cases hin : i < m2
    · have hin' : (i : Int) < (m2 : Int) := by omega
      have hi0' : (0 : Int) ≤ (i : Int) := by omega
      have hm0 : (0 : Int) < (m2 : Int) := by omega
      have d2 := (BX.out.kept HBx.out).c 2 (v := .slice k0 m2 k2) rfl
      have HBw := hidIt (on HB.out HBx.out)
      obtain ⟨q, off, e, mm', b, g, eq, c0, c1, c2, c3, c4, c5, c6, c7, c8, c9, rN⟩ := (RN.out.kept HBw.out).one (i := i) (by rw [HN.out]; exact hin)
      obtain ⟨q', off', _, _, _, _, eq', _, _, _, _, _, _, _, _, _, z9, _⟩ := (RN.out.kept HBw.out).one (i := 0) (by rw [HN.out]; omega)
      obtain ⟨qk, offk, eqk, zk⟩ := (RK.out.kept HBw.out).cell i (by rw [HN2.out]; exact hin)
      subst eq eqk
      obtain ⟨rfl, rfl⟩ : q = q' ∧ off = off' := by have := Option.some.inj eq'; cases this; exact ⟨rfl, rfl⟩
      clear eq'
      simp only [Nat.zero_mul, Nat.add_zero] at z9
      have cn := fun W (kb : Below wr.heap.size wr W) => Nd.spec_NodeOk (nod ns i) e mm' b g W (rN.kept kb) (HSh.out i (by show i < ns.length; rw [HN.out]; exact hin))
      have ct := fun W => CTi.out i W
      have hea := EB.out i
      clear rN
      generalize Nd.okN (nod ns i) = b1 at cn hea
      generalize Ro.timB (Iv.iat ck i) = b3 at ct hea
      generalize Iv.iat ck i = u at ct zk
      generalize (nod ns 0).apex = ap0 at z9 hea
      generalize nod ns i = x at *
      obtain ⟨bk, mb, ph, mn, ol, nw, tm, bu, lg, ap⟩ := x
      obtain ⟨e0, e1, e2⟩ := e
      obtain ⟨t0, t1, t2⟩ := mm'
      obtain ⟨b0, b1', b2⟩ := b
      obtain ⟨g0, g1, g2⟩ := g
      simp only [Nd.nv, Nd.nc, sv] at c0 c1 c2 c3 c4 c5 c6 c7 c8 c9 cn hea
      haveI := BelowBy.one wr
      have f0 := fun p : BelowBy wr => p.cell c0
      have f1 := fun p : BelowBy wr => p.cell c1
      have f2 := fun p : BelowBy wr => p.cell c2
      have f3 := fun p : BelowBy wr => p.cell c3
      have f4 := fun p : BelowBy wr => p.cell c4
      have f5 := fun p : BelowBy wr => p.cell c5
      have f6 := fun p : BelowBy wr => p.cell c6
      have f7 := fun p : BelowBy wr => p.cell c7
      have f8 := fun p : BelowBy wr => p.cell c8
      have f9 := fun p : BelowBy wr => p.cell c9
      have y1 := fun p : BelowBy wr => p.cell d1
      have y2 := fun p : BelowBy wr => p.cell d2
      have fz := fun p : BelowBy wr => p.cell z9
      have fk := fun p : BelowBy wr => p.cell zk
      have CN := hidIt (fun p : BelowBy wr => cn p.world p.h)
      have CT := hidIt (fun p : BelowBy wr => ct p.world)
      have HEA := hidIt hea
      clear c0 c1 c2 c3 c4 c5 c6 c7 c8 c9 z9 zk cn ct hea d2
      cases b1 with
      | false =>
        go_wp2_with (fail)
        clear d1
        refine wp_region_below (by kernel_rfl) (by kernel_rfl) ?_
        repeat (go_big_quiet_step (first | (go_at_call 20; exact calls_below (CN.out _)) | (go_at_call 19; exact calls_same (CT.out _))))
        refine wpQuiet_nil ?_
        intro _ hw'
        obtain ⟨pq, rfl⟩ := hw'
        have HB1 := hidIt (on HBw.out pq.h)
        have HB2 := hidIt (on HBx.out pq.h)
        generalize pq.world = w2 at HB1 HB2 ⊢
        clear f0 f1 f2 f3 f4 f5 f6 f7 f8 f9 y1 y2 fz fk
        go_wp2_with (fail)
        go_ret
        have er := NO.out i hin (by rw [HEA.out]; simp)
        subst er
        exact ⟨rfl, HB1.out⟩
      | true =>
      cases hcmp : (ap.toList == ap0.toList) with
      | false =>
        rw [hcmp] at HEA
        go_wp2_with (fail)
        clear d1
        refine wp_region_below (by kernel_rfl) (by kernel_rfl) ?_
        repeat (go_big_quiet_step (first | (go_at_call 20; exact calls_below (CN.out _)) | (go_at_call 19; exact calls_same (CT.out _))))
        refine wpQuiet_nil ?_
        intro _ hw'
        obtain ⟨pq, rfl⟩ := hw'
        have HB1 := hidIt (on HBw.out pq.h)
        have HB2 := hidIt (on HBx.out pq.h)
        generalize pq.world = w2 at HB1 HB2 ⊢
        clear f0 f1 f2 f3 f4 f5 f6 f7 f8 f9 y1 y2 fz fk
        go_wp2_with (fail)
        go_ret
        have er := NO.out i hin (by rw [HEA.out]; simp)
        subst er
        exact ⟨rfl, HB1.out⟩
      | true =>
        rw [hcmp] at HEA
        cases b3 with
        | false =>
          go_wp2_with (fail)
          clear d1
          refine wp_region_below (by kernel_rfl) (by kernel_rfl) ?_
          repeat (go_big_quiet_step (first | (go_at_call 20; exact calls_below (CN.out _)) | (go_at_call 19; exact calls_same (CT.out _))))
          refine wpQuiet_nil ?_
          intro _ hw'
          obtain ⟨pq, rfl⟩ := hw'
          have HB1 := hidIt (on HBw.out pq.h)
          have HB2 := hidIt (on HBx.out pq.h)
          generalize pq.world = w2 at HB1 HB2 ⊢
          clear f0 f1 f2 f3 f4 f5 f6 f7 f8 f9 y1 y2 fz fk
          go_wp2_with (fail)
          go_ret
          have er := NO.out i hin (by rw [HEA.out]; simp)
          subst er
          exact ⟨rfl, HB1.out⟩
        | true =>
          go_wp2_with (fail)
          clear d1
          refine wp_region_below (by kernel_rfl) (by kernel_rfl) ?_
          repeat (go_big_quiet_step (first | (go_at_call 20; exact calls_below (CN.out _)) | (go_at_call 19; exact calls_same (CT.out _))))
          refine wpQuiet_nil ?_
          intro _ hw'
          obtain ⟨pq, rfl⟩ := hw'
          have HB1 := hidIt (on HBw.out pq.h)
          have HB2 := hidIt (on HBx.out pq.h)
          generalize pq.world = w2 at HB1 HB2 ⊢
          clear f0 f1 f2 f3 f4 f5 f6 f7 f8 f9 y1 y2 fz fk
          go_wp2_with (fail)
          refine ⟨⟨i + 1, by simp, by omega, hidIt (fun j hj => ?_), HB2⟩, by simp [intOf]; omega⟩
          by_cases hj2 : j < i
          · exact HE.out j hj2
          · obtain rfl : j = i := by omega
            rw [HEA.out]
            rfl
    · have hin' : ¬ (i : Int) < (m2 : Int) := by omega
      obtain rfl : i = m2 := by omega
      have er := NA.out trivial HH1.out HH2.out trivial HE.out
      subst er
      have d0 := (BX.out.kept HBx.out).c 0 (v := .int .i64 no) rfl
      have d2 := (BX.out.kept HBx.out).c 2 (v := .slice k0 i k2) rfl
      go_wp2_with (fail)
      refine (CG.out _ (HK.out.kept (on HB.out HBx.out)) HH2.out).mono ?_
      intro en w2 hz
      obtain ⟨a, cap, rfl, rG, kG⟩ := hz.out
      rw [HN.out]
      have RG := hidIt rG
      have HBg := hidIt (on (on HB.out HBx.out) kG)
      clear hz rG kG d0 d1 d2
      go_wp2_with (fail)
      refine (CO.out a cap _ RG.out HH2.out).mono ?_
      rintro en w3 ⟨rfl, kO⟩
      have HBo := hidIt (on HBg.out kO)
      clear kO
      go_wp2_with (fail)
      go_ret
      exact ⟨rfl, HBo.out⟩
end Go.Proofs.YtceddedlfdgbhaaGreatDoor.Kc
namespace Go.Proofs.YtceddedlfdgbhaaGreatDoor.Rp
open Go.ChangeShapes Go.WideShapes Go.ChangeAt Go.RowKit
open Go.Proofs.YtceddedlfdgbhaaGreatDoor.Vv (Sl sv hidIt)
set_option linter.unusedVariables false
def svals (S : Nat → Sl) (n : Nat) : List Value := (List.range n).map (fun i => sv (S i))
theorem svals_len (S : Nat → Sl) (n : Nat) : (svals S n).length = n := by simp [svals]
theorem svals_at {S : Nat → Sl} {n i : Nat} (h : i < n) : (svals S n)[i]? = some (sv (S i)) := by simp [svals, h]
theorem svals_push (S : Nat → Sl) (n : Nat) (s : Sl) : svals (Hq.upd S n s) (n + 1) = svals S n ++ [sv s] := by
  unfold svals
  rw [List.range_succ, List.map_append]
  congr 1
  · refine List.map_congr_left (fun i hi => ?_)
    rw [Hq.upd_ne (by have := List.mem_range.1 hi; omega)]
  · simp [Hq.upd_at]
/-- The books that have been gathered. -/
def KtS (w wx : World) (L : List Rep) (i : Nat) (v : Value) : Prop := ∃ S : Nat → Sl, wx.ownsRow w.heap.size 37 1 v i (svals S i) ∧ (∀ j, j < i → RdE w (S j) (rat L j).1) ∧ Below w.heap.size w wx
/-- Just the Keys that the books have. -/
theorem keys_len {L : List Rep} {n : Nat} {x : Nat → En.Rt} {J : List En.Rw} (hT : Tame L) (r : En.Ra (fun i => (rat L i).1) L.length n x) (hJ : Bk.Ris (En.toB J)) (hk : ∀ k, (∃ i, i < n ∧ ∃ e ∈ En.toB (x i).L, e.key = k) ↔ ∃ e ∈ En.toB J, e.key = k) : J.length = (Bk.whole (bks L)).length := by
  have h1 := Bk.same_len hJ (Bk.whole_ris hT.bris) (fun k => by
    rw [← hk k, Bk.whole_keys hT.bris]
    constructor
    · rintro ⟨i, hi, e, he, q⟩
      obtain ⟨j, hj, ej⟩ := r.from' i hi
      rw [ej] at he
      exact ⟨_, List.mem_map.2 ⟨rat L j, rat_mem hj, rfl⟩, e, he, q⟩
    · rintro ⟨b, hb, e, he, q⟩
      obtain ⟨y, hy, rfl⟩ := List.mem_map.1 hb
      obtain ⟨j, hj, rfl⟩ := List.mem_iff_getElem.1 hy
      rw [← rat_at hj] at he
      obtain ⟨i, hi, ei⟩ := r.to' j hj (by intro z; rw [z] at he; simp at he)
      exact ⟨i, hi, e, by rw [ei]; exact he, q⟩)
  rw [En.toB_length] at h1
  exact h1
theorem tot_tame {L : List Rep} (hT : Tame L) : Hq.tot List.length (fun i => (rat L i).1) L.length ≤ 480 := by
  have := Hq.tot_le List.length (x := fun i => (rat L i).1) (m := 80) (n := L.length) (fun i hi => hT.bl i hi)
  have := hT.n
  omega
set_option maxRecDepth 100000 in
set_option maxHeartbeats 4000000 in
theorem impl_keysTogether (a : Option Addr) (cap : Nat) (L : List Rep) (w : World) (h : Rd w a L) (hT : Tame L) (h1 : 1 ≤ L.length) :
    Calls Tryz.prog 69 #[.slice a L.length cap] w fun e w' => e = .returned (.int .i64 ((Bk.whole (bks L)).length : Int)) ∧ Below w.heap.size w w' := by
  obtain ⟨i0, hi0, hz0, hz1, hz2⟩ := info_parts En.infoSl
  have HR := hidIt h
  have hm6 := hT.n
  have HFin : Hid (∀ W c q (S : Nat → Sl), W.ownsRow w.heap.size 37 1 (.slice (some ⟨q, 0, none⟩) L.length c) L.length (svals S L.length) → (∀ j, j < L.length → RdE W (S j) (rat L j).1) → Calls Tryz.prog 89 #[.slice (some ⟨q, 0, none⟩) L.length c] W fun e w' => e = .returned (.pointer (some ⟨W.heap.size + 1, 0, none⟩)) ∧ En.RoS W w' (fun i => (rat L i).1) L.length) := hidIt (fun W c q S ho hr => En.impl_restsOfN (S := S) ⟨fun i hi => by rw [World.ownsRow.cellAt ho i (by omega)]; exact svals_at hi, fun i hi => (hr i hi).len, fun i hi => (hr i hi).rd, fun i hi => (hr i hi).le⟩ (by omega) (World.ownsRow.lt ho q rfl).2)
  have HNew : Hid (∀ W W', En.RoS W W' (fun i => (rat L i).1) L.length → Calls Tryz.prog 88 #[.pointer (some ⟨W.heap.size + 1, 0, none⟩)] W' fun e w' => (∃ za zc, e = .returned (.slice za (Bk.whole (bks L)).length zc)) ∧ Below W.heap.size W w') := hidIt (fun W W' hr => by
    obtain ⟨n, x, ⟨g, cp, s⟩, ok, r, b⟩ := hr
    have hris : ∀ i, i < n → Bk.Ris (En.toB (x i).L) := fun i hi => by
      obtain ⟨j, hj, ej⟩ := r.from' i hi
      rw [ej]
      exact hT.br j hj
    have htot : Hq.tot List.length (fun i => En.toB (x i).L) n ≤ 480 := by
      have e1 := En.tot_map List.length (fun q : En.Rt => En.toB q.L) x n
      rw [e1]
      simp only [En.toB_length]
      rw [r.sum]
      exact tot_tame hT
    refine (En.impl_newestN s ok (by have := r.le; omega) hris htot (by omega)).mono ?_
    rintro e w2 ⟨v, J, rfl, o, rJ, kJ, _, k2⟩
    obtain ⟨za, zc, ez, _⟩ := o.form
    rw [keys_len hT r rJ kJ] at ez
    exact ⟨⟨za, zc, by rw [ez]⟩, b.trans k2⟩)
  generalize ((Bk.whole (bks L)).length) = ans at HNew ⊢
  clear h hT
  generalize hn : L.length = m at *
  have HN := hidIt hn
  clear hn
  go_enter Tryz.func69, Tryz.ntmps69
  go_wp2_with (fail)
  go_loopw [3, 9] (fun v y wx => ∃ (i : Nat) (va : Option Addr) (vn vc : Nat), y = .int .i64 i ∧ v = .slice va vn vc ∧ i ≤ m ∧ Hid (KtS w wx L i (.slice va vn vc))) (fun _ y _ => (m - intOf y).toNat)
  case atStart => exact ⟨0, _, _, _, rfl, rfl, by omega, hidIt ⟨fun _ => (none, 0, 0), World.ownsRow_made w #[] 0 (Nat.le_refl _) (by decide) rfl, fun j hj => absurd hj (by omega), (Below.refl _ w).alloc (Nat.le_refl _) _⟩⟩
  case round =>
    obtain ⟨i, va, vn, vc, rfl, rfl, hi, HS⟩ := hrel
    by_cases hin : i < m
    · have hin' : (i : Int) < (m : Int) := by omega
      have hiL : i < L.length := by rw [HN.out]; exact hin
      obtain ⟨S, ho, hr, hb⟩ := HS.out
      obtain ⟨b, off, p, q, ea, c0', c1', rE, rM⟩ := HR.out.one (i := i) hiL
      subst ea
      have hbw : b < w.heap.size := World.block_lt_of_cell? _ _ c0'
      have c0 := (hb.cell (p := ⟨b, off + i * 2, none⟩) hbw).trans c0'
      have c1 := (hb.cell (p := ⟨b, off + i * 2 + 1, none⟩) hbw).trans c1'
      have hbr : b < wr.heap.size := Nat.lt_of_lt_of_le hbw hb.size
      clear c0' c1'
      have HO := hidIt ho
      have HRr := hidIt hr
      have HB := hidIt hb
      have HE := hidIt rE
      obtain ⟨p0, p1, p2⟩ := p
      obtain ⟨q0, q1, q2⟩ := q
      simp only [sv] at c0 c1
      clear HS ho hr hb rE rM
      have HA1 := hidIt (((Below.refl wr.heap.size wr).alloc (Nat.le_refl _) (.cells #[.slice p0 p1 p2, .slice q0 q1 q2] 40)).alloc (by simp) (.cells #[.slice p0 p1 p2] 37))
      have HOw : Hid (((wr.alloc (.cells #[.slice p0 p1 p2, .slice q0 q1 q2] 40)).alloc (.cells #[.slice p0 p1 p2] 37)).ownsRow w.heap.size 37 1 (.slice va vn vc) i (svals S i)) := hidIt (World.ownsRow.alloc (World.ownsRow.alloc HO.out _) _)
      go_wp2_with (first | (at_builtin; refine wpList_append_own _ rfl _ _ 133 rfl w.heap.size 37 i0 (.slice none 0 0) 1 24 Tryz.underlying133 hi0 hz0 hz1 hz2 rfl (by decide) _ _ _ rfl HOw.out ⟨wr.heap.size + 1, 0, none⟩ 1 1 [.slice p0 p1 p2] rfl rfl ?f1 ?f2 ?f3 ?f4 ?f5 ?_))
      case f1 => intro j u hj; match j, hj with | 0, hj => simp at hj; subst hj; simp [Addr.add]
      case f2 => intro u hu; simp at hu; subst hu; rfl
      case f3 => unfold maxLen; omega
      case f4 => omega
      case f5 => have := HB.out.size; simp; omega
      intro v' w9 hown hgrow _
      have HS9 : Hid (KtS w w9 L (i + 1) v') := hidIt (by
        have hsz := HB.out.size
        have k9 : Below w.heap.size wr w9 := (HA1.out.mono hsz).grown hgrow (by simp; omega) (fun k hk => (World.ownsRow.lt HO.out k hk).1)
        refine ⟨Hq.upd S i (p0, p1, p2), by rw [svals_push]; exact hown, fun j hj => ?_, HB.out.trans k9⟩
        by_cases e : j = i
        · subst e
          rw [Hq.upd_at]
          exact HE.out
        · rw [Hq.upd_ne e]
          exact HRr.out j (by omega))
      obtain ⟨za, zn, zc, ez⟩ : ∃ a n c, v' = .slice a n c := by
        rcases hown.2 with ⟨e, _⟩ | ⟨g, cap, cur, e, _⟩
        · exact ⟨_, _, _, e⟩
        · exact ⟨_, _, _, e⟩
      subst ez
      clear hown hgrow
      go_wp2_with (fail)
      exact ⟨⟨i + 1, za, zn, zc, by first | rfl | simp, rfl, by omega, HS9⟩, by simp [intOf]; omega⟩
    · obtain rfl : i = m := by omega
      obtain ⟨S, ho, hr, hb⟩ := HS.out
      obtain ⟨q, c, es⟩ : ∃ q c, Value.slice va vn vc = .slice (some ⟨q, 0, none⟩) i c := by
        rcases ho.2 with ⟨_, e⟩ | ⟨g, cap, cur, e, _⟩
        · omega
        · exact ⟨_, _, e⟩
      cases es
      have HC := hidIt (HFin.out _ _ q S ho (fun j hj => (hr j hj).kept hb))
      have HB := hidIt hb
      clear ho hr hb HS
      go_wp2_with (fail)
      refine HC.out.mono ?_
      rintro e w2 ⟨rfl, r2⟩
      have HC2 := hidIt (HNew.out _ _ r2)
      clear r2
      go_wp2_with (fail)
      refine HC2.out.mono ?_
      rintro e w3 ⟨⟨za, zc, rfl⟩, k3⟩
      have HB3 := hidIt (on HB.out k3)
      clear k3
      go_wp2_with (fail)
      go_ret
      exact ⟨rfl, HB3.out⟩
set_option maxRecDepth 100000 in
set_option maxHeartbeats 8000000 in
theorem impl_GroupOk (a : Option Addr) (cap : Nat) (L : List Rep) (w : World) (h : Rd w a L) (hs : Short L) (hl : L.length ≤ 9223372036854775807) (hlb : ∀ i, i < L.length → (rat L i).1.length ≤ 9223372036854775807 ∧ (rat L i).2.length ≤ 9223372036854775807) :
    Calls Tryz.prog 46 #[.slice a L.length cap] w fun e w' => e = .returned (.bool (okG L)) ∧ Below w.heap.size w w' := by
  have N1 : Hid (¬ 1 ≤ L.length → okG L = false) := hidIt (fun q => by cases e : okG L with | false => rfl | true => exact absurd (okG_all e).1 q)
  have N2 : Hid (¬ L.length ≤ 6 → okG L = false) := hidIt (fun q => by cases e : okG L with | false => rfl | true => exact absurd (okG_all e).2.1 q)
  have N3 : Hid (∀ i, i < L.length → okR (rat L i) = false → okG L = false) := hidIt (fun i hi q => by cases e : okG L with | false => rfl | true => exact absurd ((okG_all e).2.2.1 i hi) (by rw [q]; decide))
  have N4 : Hid (1 ≤ L.length → L.length ≤ 6 → (∀ i, i < L.length → okR (rat L i) = true) → okG L = decide ((Bk.whole (bks L)).length ≤ 80)) := hidIt (fun h1 h2 h3 => by
    by_cases q : (Bk.whole (bks L)).length ≤ 80
    · rw [okG_mk h1 h2 h3 q, decide_eq_true q]
    · rw [decide_eq_false q]
      cases e : okG L with
      | false => rfl
      | true => exact absurd (okG_all e).2.2.2 q)
  have CW := hidIt (fun W (r : Rd W a L) (t : Tame L) h1 => impl_keysTogether a cap L W r t h1)
  have HTM := hidIt (fun h2 h3 => tame_of (L := L) h2 h3)
  have CR := hidIt (fun W s t i (hi : i < L.length) (hE : RdE W s (rat L i).1) (hM : RdM W t (rat L i).2) => impl_replicaOk s t (rat L i) W hE hM (hs i hi) (hlb i hi).1 (hlb i hi).2)
  have HR := hidIt h
  clear h hs hlb
  generalize okG L = r at N1 N2 N3 N4 ⊢
  generalize (Bk.whole (bks L)).length = ans at CW N4
  generalize hn : L.length = m at *
  have HN := hidIt hn
  clear hn
  by_cases h1 : 1 ≤ m
  · by_cases h6 : m ≤ 6
    · have g1 : ¬ (m : Int) < 1 := by omega
      have g1' : decide ((m : Int) < 1) = false := decide_eq_false g1
      have g2 : decide ((6 : Int) < (m : Int)) = false := decide_eq_false (by omega)
      go_enter Tryz.func46, Tryz.ntmps46
      go_wp2_with (fail)
      go_loopw [15] (fun y wx => ∃ i : Nat, y = .int .i64 i ∧ i ≤ m ∧ Hid (∀ j, j < i → okR (rat L j) = true) ∧ Hid (Below w.heap.size w wx)) (fun y _ => (m - intOf y).toNat)
      case atStart => exact ⟨0, rfl, by omega, hidIt (fun j hj => by omega), hidIt (Below.refl _ _)⟩
      case round =>
        obtain ⟨i, rfl, hi, HO, HB⟩ := hrel
        by_cases hin : i < m
        · have hin' : (i : Int) < (m : Int) := by omega
          have hiL : i < L.length := by rw [HN.out]; exact hin
          obtain ⟨b, off, p, q, ea, c0, c1, rE, rM⟩ := (HR.out.kept HB.out).one (i := i) hiL
          subst ea
          have hbw : b < wr.heap.size := World.block_lt_of_cell? _ _ c0
          have HA := hidIt ((Below.refl wr.heap.size wr).alloc (Nat.le_refl _) (.cells #[sv p, sv q] 40))
          have C1 := hidIt (CR.out _ p q i hin (rE.kept HA.out) (rM.kept HA.out))
          obtain ⟨k, HOK⟩ : ∃ k, Hid (okR (rat L i) = k) := ⟨_, hidIt rfl⟩
          rw [HOK.out] at C1
          obtain ⟨p0, p1, p2⟩ := p
          obtain ⟨q0, q1, q2⟩ := q
          simp only [sv] at c0 c1 C1 HA
          clear rE rM
          cases k with
          | false =>
            have er := N3.out i hin HOK.out
            subst er
            go_wp2_with (fail)
            refine C1.out.mono ?_
            rintro e w1 ⟨rfl, k⟩
            have HB1 := hidIt (on (on HB.out HA.out) k)
            clear k
            go_wp2_with (fail)
            go_ret
            exact ⟨rfl, HB1.out⟩
          | true =>
            go_wp2_with (fail)
            refine C1.out.mono ?_
            rintro e w1 ⟨rfl, k⟩
            have HB1 := hidIt (on (on HB.out HA.out) k)
            clear k
            go_wp2_with (fail)
            refine ⟨⟨i + 1, by simp, by omega, hidIt (fun j hj => ?_), HB1⟩, by simp [intOf]; omega⟩
            rcases Nat.lt_succ_iff_lt_or_eq.1 hj with q | q
            · exact HO.out j q
            · subst q; exact HOK.out
        · have hin' : ¬ (i : Int) < (m : Int) := by omega
          obtain rfl : i = m := by omega
          have er := N4.out h1 h6 HO.out
          have HT := hidIt (HTM.out h6 HO.out)
          go_wp2_with (fail)
          refine (CW.out _ (HR.out.kept HB.out) HT.out h1).mono ?_
          rintro e w1 ⟨rfl, k⟩
          have HB1 := hidIt (on HB.out k)
          clear k
          subst er
          have hd : decide ((ans : Int) ≤ 80) = decide (ans ≤ 80) := decide_eq_decide.2 (by omega)
          go_wp2_with (fail)
          go_ret
          first | exact ⟨rfl, HB1.out⟩ | exact ⟨by rw [hd], HB1.out⟩
    · have g1' : decide ((m : Int) < 1) = false := decide_eq_false (by omega)
      have g2 : decide ((6 : Int) < (m : Int)) = true := decide_eq_true (by omega)
      have er := N2.out h6
      subst er
      go_enter Tryz.func46, Tryz.ntmps46
      go_wp2
      go_ret
      exact ⟨rfl, Below.refl _ _⟩
  · have g1' : decide ((m : Int) < 1) = true := decide_eq_true (by omega)
    have er := N1.out h1
    subst er
    go_enter Tryz.func46, Tryz.ntmps46
    go_wp2
    go_ret
    exact ⟨rfl, Below.refl _ _⟩
end Go.Proofs.YtceddedlfdgbhaaGreatDoor.Rp
namespace Go.Proofs.YtceddedlfdgbhaaGreatDoor.Kc
open Go.ChangeShapes Go.WideShapes Go.ChangeAt Go.RowKit
open Go.Proofs.YtceddedlfdgbhaaGreatDoor.Vv (Sl sv hidIt)
open Go.Proofs.YtceddedlfdgbhaaGreatDoor.Nd (Nw RdN OwnN ShortN SmallN)
open Go.Proofs.YtceddedlfdgbhaaGreatDoor.Ns (nod)
open Go.Proofs.YtceddedlfdgbhaaGreatDoor.Rc (BelowBy wp_region_below calls_below calls_same)
set_option linter.unusedVariables false
set_option maxRecDepth 100000 in
set_option maxHeartbeats 8000000 in
theorem impl_replicasOf (a : Option Addr) (cap : Nat) (L : List Nw) (w : World) (h : Ns.Rd w a L) (hl : L.length ≤ 4) : Calls Tryz.prog 47 #[.slice a L.length cap] w fun en w' => GrpP w L en w' := by
  obtain ⟨i0, hi0, hz0, hz1, hz2⟩ := info_parts Vv.infoRw
  have HR := hidIt h
  clear h
  generalize hm : L.length = m at *
  have HN := hidIt hm
  clear hm
  go_enter Tryz.func47, Tryz.ntmps47
  go_wp2_with (fail)
  go_loopw [3, 9] (fun z y wx => ∃ (i go co : Nat) (C : List Vv.Rw), y = .int .i64 i ∧ z = .slice (some ⟨go, 0, none⟩) i co ∧ i ≤ m ∧ Hid (C.length = i) ∧ Hid (∀ j, j < i → Rp.RdE w (Vv.rat C j).1 (nod L j).book ∧ Rp.RdM w (Vv.rat C j).2 (nod L j).mem) ∧ Hid (Vv.Own wx w.heap.size (.slice (some ⟨go, 0, none⟩) i co) C) ∧ Hid (Below w.heap.size w wx)) (fun _ y _ => (m - intOf y).toNat)
  case atStart => exact ⟨0, w.heap.size, 0, [], rfl, rfl, by omega, hidIt rfl, hidIt (fun j hj => by omega), hidIt (Vv.Own.new w), hidIt ((Below.refl _ w).alloc (Nat.le_refl _) _)⟩
  case round =>
    obtain ⟨i, go, co, C, rfl, rfl, hi, HC, HE, HO, HBx⟩ := hrel
    by_cases hin : i < m
    · have hin' : (i : Int) < (m : Int) := by omega
      have hi0' : (0 : Int) ≤ (i : Int) := by omega
      have hiL : i < L.length := by rw [HN.out]; exact hin
      obtain ⟨q, off, e, mm', b, g, eq, c0, c1, c2, c3, c4, c5, c6, c7, c8, c9, rN0⟩ := (HR.out.kept HBx.out).one (i := i) hiL
      obtain ⟨q', off', e', mm2, b', g', eq', k0, k1, _, _, _, _, _, _, _, _, rN1⟩ := HR.out.one (i := i) hiL
      obtain ⟨rfl, rfl⟩ : q = q' ∧ off = off' := by have := eq.symm.trans eq'; cases this; exact ⟨rfl, rfl⟩
      clear eq'
      subst eq
      have bq : q < w.heap.size := World.block_lt_of_cell? w _ k0
      obtain rfl : e = e' := by
        have := HBx.out.cell (p := ⟨q, off + i * 10, none⟩) bq
        rw [c0, k0] at this
        obtain ⟨x0, x1, x2⟩ := e
        obtain ⟨y0, y1, y2⟩ := e'
        simpa [sv] using this
      obtain rfl : mm' = mm2 := by
        have := HBx.out.cell (p := ⟨q, off + i * 10 + 1, none⟩) bq
        rw [c1, k1] at this
        obtain ⟨x0, x1, x2⟩ := mm'
        obtain ⟨y0, y1, y2⟩ := mm2
        simpa [sv] using this
      have hEM := hidIt (show Rp.RdE w e (nod L i).book ∧ Rp.RdM w mm' (nod L i).mem from ⟨rN1.e, rN1.m⟩)
      clear rN0 rN1 k0 k1 bq
      generalize (nod L i).ph = ph at *
      generalize (nod L i).mn = mn at *
      generalize (nod L i).ol = ol at *
      generalize (nod L i).nw = nw at *
      generalize (nod L i).tm = tm at *
      generalize (nod L i).apex = ap at *
      obtain ⟨e0, e1, e2⟩ := e
      obtain ⟨t0, t1, t2⟩ := mm'
      obtain ⟨b0, b1, b2⟩ := b
      obtain ⟨g0, g1, g2⟩ := g
      simp only [sv] at c0 c1 c2 c3 c4 c5 c6 c7 c8 c9
      have HRow : Hid (World.ownsRow ((wr.alloc (.cells #[.slice e0 e1 e2, .slice t0 t1 t2, .int .i64 ph, .int .i64 mn, .int .i64 ol, .int .i64 nw, .int .i64 tm, .slice b0 b1 b2, .slice g0 g1 g2, .string ap] 46)).alloc (.cells #[.slice e0 e1 e2, .slice t0 t1 t2] 40)) w.heap.size 40 2 (.slice (some ⟨go, 0, none⟩) i co) C.length (Vv.rcells C)) := hidIt (Vv.Own.alloc (Vv.Own.alloc HO.out _) _)
      have HFr : Hid (∀ j u, (Vv.rcells [((e0, e1, e2), (t0, t1, t2))])[j]? = some u → ((wr.alloc (.cells #[.slice e0 e1 e2, .slice t0 t1 t2, .int .i64 ph, .int .i64 mn, .int .i64 ol, .int .i64 nw, .int .i64 tm, .slice b0 b1 b2, .slice g0 g1 g2, .string ap] 46)).alloc (.cells #[.slice e0 e1 e2, .slice t0 t1 t2] 40)).cell? ((⟨wr.heap.size + 1, 0, none⟩ : Addr).add j) = some u) := hidIt (fun j u hj => by
        have z := Vv.fresh (wr.alloc (.cells #[.slice e0 e1 e2, .slice t0 t1 t2, .int .i64 ph, .int .i64 mn, .int .i64 ol, .int .i64 nw, .int .i64 tm, .slice b0 b1 b2, .slice g0 g1 g2, .string ap] 46)) ((e0, e1, e2), (t0, t1, t2)) 40 j u hj
        have z2 : (wr.alloc (.cells #[.slice e0 e1 e2, .slice t0 t1 t2, .int .i64 ph, .int .i64 mn, .int .i64 ol, .int .i64 nw, .int .i64 tm, .slice b0 b1 b2, .slice g0 g1 g2, .string ap] 46)).heap.size = wr.heap.size + 1 := by simp
        rw [z2] at z
        exact z)
      have hAl := hidIt (((Below.refl wr.heap.size wr).alloc (Nat.le_refl _) (.cells #[.slice e0 e1 e2, .slice t0 t1 t2, .int .i64 ph, .int .i64 mn, .int .i64 ol, .int .i64 nw, .int .i64 tm, .slice b0 b1 b2, .slice g0 g1 g2, .string ap] 46)).alloc (by simp) (.cells #[.slice e0 e1 e2, .slice t0 t1 t2] 40))
      go_wp2_with (first | (at_builtin; refine wpList_append_own _ rfl _ _ 64 rfl w.heap.size 40 i0 (.agg #[sv (none, 0, 0), sv (none, 0, 0)]) 2 48 Tryz.underlying64 hi0 hz0 hz1 hz2 rfl (by decide) _ _ _ rfl HRow.out ⟨wr.heap.size + 1, 0, none⟩ 1 1 [.slice e0 e1 e2, .slice t0 t1 t2] rfl rfl HFr.out (Vv.rcells_one [((e0, e1, e2), (t0, t1, t2))]) ?ca1 ?ca2 ?ca3 ?_) | fail)
      case ca1 => unfold maxLen; have := HC.out; omega
      case ca2 => have := HC.out; omega
      case ca3 => exact Nat.le_trans HBx.out.size hAl.out.size
      intro v' w9 hown hgrow hnil
      have oo := Vv.Own.more (L := C) (M := [((e0, e1, e2), (t0, t1, t2))]) hown
      have hv' : v' ≠ .slice none 0 0 := hnil
      obtain ⟨zg, zc, ez, _⟩ := oo.some_form hv'
      have hlen : (C ++ [((e0, e1, e2), (t0, t1, t2))]).length = i + 1 := by rw [List.length_append, HC.out]; rfl
      rw [hlen] at ez
      subst ez
      have kG : Below w.heap.size w w9 := (HBx.out.trans (hAl.out.mono HBx.out.size)).trans (Vv.grown_below (L := C) HRow.out hgrow (Nat.le_refl _) (Nat.le_trans HBx.out.size hAl.out.size))
      have HO9 := hidIt oo
      have HB9 := hidIt kG
      clear hown hgrow hnil oo hv' kG HRow HFr hAl c0 c1 c2 c3 c4 c5 c6 c7 c8 c9
      go_wp2_with (fail)
      refine ⟨⟨i + 1, zg, zc, C ++ [((e0, e1, e2), (t0, t1, t2))], by simp, rfl, by omega, hidIt hlen, hidIt (fun j hj => ?_), HO9, HB9⟩, by simp [intOf]; omega⟩
      by_cases hj2 : j < i
      · rw [Rp.vat_app (by rw [HC.out]; exact hj2)]
        exact HE.out j hj2
      · obtain rfl : j = i := by omega
        have e5 := Rp.vat_last C ((e0, e1, e2), (t0, t1, t2))
        rw [HC.out] at e5
        rw [e5]
        exact hEM.out
    · have hin' : ¬ (i : Int) < (m : Int) := by omega
      obtain rfl : i = m := by omega
      go_wp2_with (fail)
      go_ret
      have e5 := HN.out
      subst e5
      exact GrpP.of rfl (rd_group rfl HC.out HO.out HBx.out (fun j hj => HE.out j hj)) HBx.out
/-- What nodesOk asks of Node i. -/
def eachN (L : List Nw) (i : Nat) : Bool := Nd.okN (nod L i) && ((nod L i).apex.toList == (nod L 0).apex.toList)
def nodesB (L : List Nw) : Bool := decide (1 ≤ L.length) && (decide (L.length ≤ 4) && ((List.range L.length).all (eachN L) && Rp.okG (reps L)))
theorem nodesB_lo {L : List Nw} (h : ¬ 1 ≤ L.length) : nodesB L = false := by unfold nodesB; rw [decide_eq_false h]; rfl
theorem nodesB_hi {L : List Nw} (h : ¬ L.length ≤ 4) : nodesB L = false := by unfold nodesB; rw [decide_eq_false h]; simp
theorem nodesB_no {L : List Nw} {i : Nat} (hi : i < L.length) (h : eachN L i = false) : nodesB L = false := by
  have e : (List.range L.length).all (eachN L) = false := by
    rw [List.all_eq_false]
    exact ⟨i, List.mem_range.2 hi, by rw [h]; decide⟩
  unfold nodesB
  rw [e]
  simp
theorem nodesB_all {L : List Nw} (h1 : 1 ≤ L.length) (h2 : L.length ≤ 4) (h4 : ∀ i, i < L.length → eachN L i = true) : nodesB L = Rp.okG (reps L) := by
  have e : (List.range L.length).all (eachN L) = true := by
    rw [List.all_eq_true]
    exact fun i hi => h4 i (List.mem_range.1 hi)
  unfold nodesB
  rw [decide_eq_true h1, decide_eq_true h2, e]
  simp
/-- What clocksOk says. -/
def clocksB (K : List Int) (n : Nat) : Bool := K.all Ro.timB && decide (K.length = n)
theorem clocksB_no {K : List Int} {n i : Nat} (hi : i < K.length) (h : Ro.timB (Iv.iat K i) = false) : clocksB K n = false := by
  have e : K.all Ro.timB = false := by
    rw [List.all_eq_false]
    exact ⟨Iv.iat K i, by rw [Iv.iat_at hi]; exact List.getElem_mem hi, by rw [h]; decide⟩
  unfold clocksB
  rw [e]
  rfl
theorem clocksB_all {K : List Int} {n : Nat} (h : ∀ i, i < K.length → Ro.timB (Iv.iat K i) = true) : clocksB K n = decide (K.length = n) := by
  have e : K.all Ro.timB = true := by
    rw [List.all_eq_true]
    intro x hx
    obtain ⟨i, hi, rfl⟩ := List.mem_iff_getElem.1 hx
    rw [← Iv.iat_at hi]
    exact h i hi
  unfold clocksB
  rw [e]
  rfl
/-- Both ways to ask say the same. -/
theorem okK_parts (c : Cw) : okK c = (Ro.timB c.now && (nodesB c.nodes && clocksB c.clock c.nodes.length)) := by
  rw [Bool.eq_iff_iff]
  unfold okK nodesB clocksB eachB eachN
  simp only [Bool.and_eq_true, decide_eq_true_eq, List.all_eq_true, List.mem_range]
  constructor
  · rintro ⟨a, b, c', d, e, f⟩
    refine ⟨a, ⟨b, c', fun i hi => ⟨(e i hi).1, (e i hi).2.1⟩, f⟩, fun x hx => ?_, d⟩
    obtain ⟨i, hi, rfl⟩ := List.mem_iff_getElem.1 hx
    rw [← Iv.iat_at hi]
    exact (e i (by rw [← d]; exact hi)).2.2
  · rintro ⟨a, ⟨b, c', e, f⟩, g, d⟩
    refine ⟨a, b, c', d, fun i hi => ⟨(e i hi).1, (e i hi).2, ?_⟩, f⟩
    rw [Iv.iat_at (by rw [d]; exact hi)]
    exact g _ (List.getElem_mem _)
set_option maxRecDepth 100000 in
set_option maxHeartbeats 16000000 in
theorem impl_nodesOk (a : Option Addr) (cap : Nat) (L : List Nw) (w : World) (h : Ns.Rd w a L) (hl : L.length ≤ 9223372036854775807) (hs : ∀ i, i < L.length → ShortN (nod L i)) (ht : Sg.Tab w) : Calls Tryz.prog 26 #[.slice a L.length cap] w fun en w' => en = .returned (.bool (nodesB L)) ∧ Below w.heap.size w w' := by
  have N1 := hidIt (fun h => nodesB_lo (L := L) h)
  have N2 := hidIt (fun h => nodesB_hi (L := L) h)
  have NO := hidIt (fun i hi h => nodesB_no (L := L) (i := i) hi h)
  have NA := hidIt (fun h1 h2 h4 => nodesB_all (L := L) h1 h2 h4)
  have HR := hidIt h
  have CG := hidIt (fun W (r : Ns.Rd W a L) hl => impl_replicasOf a cap L W r hl)
  have CO := hidIt (fun a cap W (r : Rp.Rd W a (reps L)) (hl : L.length ≤ 4) => Rp.impl_GroupOk a cap (reps L) W r (fun i hi => by rw [reps_length] at hi; rw [rat_reps hi]; exact (hs i hi).e) (by rw [reps_length]; omega) (fun i hi => by rw [reps_length] at hi; rw [rat_reps hi]; exact lens HR.out hi))
  rw [reps_length] at CO
  have EB : Hid (∀ i, eachN L i = (Nd.okN (nod L i) && ((nod L i).apex.toList == (nod L 0).apex.toList))) := hidIt (fun i => rfl)
  generalize nodesB L = res at N1 N2 NO NA ⊢
  generalize Rp.okG (reps L) = resg at NA CO
  have HSh := hidIt hs
  have HT := hidIt (fun W (k : Below w.heap.size w W) => ht.kept k)
  clear h hs ht
  generalize hm : L.length = m at *
  have HN := hidIt hm
  clear hm
  by_cases h1 : 1 ≤ m
  case neg =>
    have er := N1.out h1
    subst er
    have g1 : decide ((m : Int) < 1) = true := decide_eq_true (by omega)
    go_enter Tryz.func26, Tryz.ntmps26
    go_wp2
    go_ret
    exact ⟨rfl, Below.refl _ _⟩
  have g1 : decide ((m : Int) < 1) = false := decide_eq_false (by omega)
  by_cases h2 : m ≤ 4
  case neg =>
    have er := N2.out h2
    subst er
    have g2 : decide ((4 : Int) < (m : Int)) = true := decide_eq_true (by omega)
    go_enter Tryz.func26, Tryz.ntmps26
    go_wp2
    go_ret
    exact ⟨rfl, Below.refl _ _⟩
  have g2 : decide ((4 : Int) < (m : Int)) = false := decide_eq_false (by omega)
  go_enter Tryz.func26, Tryz.ntmps26
  go_wp2_with (fail)
  have HH2 := hidIt h2
  have HH1 := hidIt h1
  go_loopw [15] (fun y wx => ∃ (i : Nat), y = .int .i64 i ∧ i ≤ m ∧ Hid (∀ j, j < i → eachN L j = true) ∧ Hid (Below w.heap.size w wx)) (fun y _ => (m - intOf y).toNat)
  case atStart => exact ⟨0, rfl, by omega, hidIt (fun j hj => by omega), hidIt (Below.refl _ _)⟩
  case round =>
    obtain ⟨i, rfl, hi, HE, HBx⟩ := hrel
    by_cases hin : i < m
    · have hin' : (i : Int) < (m : Int) := by omega
      have hi0' : (0 : Int) ≤ (i : Int) := by omega
      have hm0 : (0 : Int) < (m : Int) := by omega
      obtain ⟨q, off, e, mm', b, g, eq, c0, c1, c2, c3, c4, c5, c6, c7, c8, c9, rN⟩ := (HR.out.kept HBx.out).one (i := i) (by rw [HN.out]; exact hin)
      obtain ⟨q', off', _, _, _, _, eq', _, _, _, _, _, _, _, _, _, z9, _⟩ := (HR.out.kept HBx.out).one (i := 0) (by rw [HN.out]; omega)
      subst eq
      obtain ⟨rfl, rfl⟩ : q = q' ∧ off = off' := by have := Option.some.inj eq'; cases this; exact ⟨rfl, rfl⟩
      clear eq'
      simp only [Nat.zero_mul, Nat.add_zero] at z9
      have bq : q < wr.heap.size := World.block_lt_of_cell? wr _ c0
      have cn := fun W (kb : Below wr.heap.size wr W) => Nd.impl_NodeOk (nod L i) e mm' b g W (rN.kept kb) (HSh.out i hin) (HT.out W (on HBx.out kb))
      have hea := EB.out i
      clear rN
      generalize Nd.okN (nod L i) = y1 at cn hea
      generalize (nod L 0).apex = ap0 at z9 hea
      generalize nod L i = x at *
      obtain ⟨bk, mb, ph, mn, ol, nw, tm, bu, lg, ap⟩ := x
      obtain ⟨e0, e1, e2⟩ := e
      obtain ⟨t0, t1, t2⟩ := mm'
      obtain ⟨b0, b1, b2⟩ := b
      obtain ⟨g0, g1', g2'⟩ := g
      simp only [Nd.nv, Nd.nc, sv] at c0 c1 c2 c3 c4 c5 c6 c7 c8 c9 cn hea
      have hAl := (Below.refl wr.heap.size wr).alloc (Nat.le_refl _) (.cells #[.slice e0 e1 e2, .slice t0 t1 t2, .int .i64 ph, .int .i64 mn, .int .i64 ol, .int .i64 nw, .int .i64 tm, .slice b0 b1 b2, .slice g0 g1' g2', .string ap] 46)
      have BXn : Hid (Bo.Box (wr.alloc (.cells #[.slice e0 e1 e2, .slice t0 t1 t2, .int .i64 ph, .int .i64 mn, .int .i64 ol, .int .i64 nw, .int .i64 tm, .slice b0 b1 b2, .slice g0 g1' g2', .string ap] 46)) wr.heap.size #[.slice e0 e1 e2, .slice t0 t1 t2, .int .i64 ph, .int .i64 mn, .int .i64 ol, .int .i64 nw, .int .i64 tm, .slice b0 b1 b2, .slice g0 g1' g2', .string ap]) := hidIt (Bo.Box.new wr _ _)
      have zb : (wr.alloc (.cells #[.slice e0 e1 e2, .slice t0 t1 t2, .int .i64 ph, .int .i64 mn, .int .i64 ol, .int .i64 nw, .int .i64 tm, .slice b0 b1 b2, .slice g0 g1' g2', .string ap] 46)).cell? ⟨q, off + 9, none⟩ = some (.string ap0) := (hAl.cell bq).trans z9
      have CN0 := hidIt (fun W (kb : Below (wr.alloc (.cells #[.slice e0 e1 e2, .slice t0 t1 t2, .int .i64 ph, .int .i64 mn, .int .i64 ol, .int .i64 nw, .int .i64 tm, .slice b0 b1 b2, .slice g0 g1' g2', .string ap] 46)).heap.size (wr.alloc (.cells #[.slice e0 e1 e2, .slice t0 t1 t2, .int .i64 ph, .int .i64 mn, .int .i64 ol, .int .i64 nw, .int .i64 tm, .slice b0 b1 b2, .slice g0 g1' g2', .string ap] 46)) W) => cn W (on hAl kb))
      have HAl := hidIt hAl
      have HZb := hidIt zb
      have HEA := hidIt hea
      clear cn hea z9 hAl zb
      cases y1 with
      | false =>
        have hWb : wr.heap.size < (wr.alloc (.cells #[.slice e0 e1 e2, .slice t0 t1 t2, .int .i64 ph, .int .i64 mn, .int .i64 ol, .int .i64 nw, .int .i64 tm, .slice b0 b1 b2, .slice g0 g1' g2', .string ap] 46)).heap.size := by simp
        go_wp2_with (fail)
        generalize wr.alloc (.cells #[.slice e0 e1 e2, .slice t0 t1 t2, .int .i64 ph, .int .i64 mn, .int .i64 ol, .int .i64 nw, .int .i64 tm, .slice b0 b1 b2, .slice g0 g1' g2', .string ap] 46) = wb at BXn HAl HZb CN0 hWb ⊢
        clear c0 c1 c2 c3 c4 c5 c6 c7 c8 c9 hWb
        haveI := BelowBy.one wb
        have f0 := fun p : BelowBy wb => p.cell (BXn.out.c 0 (v := .slice e0 e1 e2) rfl)
        have f1 := fun p : BelowBy wb => p.cell (BXn.out.c 1 (v := .slice t0 t1 t2) rfl)
        have f2 := fun p : BelowBy wb => p.cell (BXn.out.c 2 (v := .int .i64 ph) rfl)
        have f3 := fun p : BelowBy wb => p.cell (BXn.out.c 3 (v := .int .i64 mn) rfl)
        have f4 := fun p : BelowBy wb => p.cell (BXn.out.c 4 (v := .int .i64 ol) rfl)
        have f5 := fun p : BelowBy wb => p.cell (BXn.out.c 5 (v := .int .i64 nw) rfl)
        have f6 := fun p : BelowBy wb => p.cell (BXn.out.c 6 (v := .int .i64 tm) rfl)
        have f7 := fun p : BelowBy wb => p.cell (BXn.out.c 7 (v := .slice b0 b1 b2) rfl)
        have f8 := fun p : BelowBy wb => p.cell (BXn.out.c 8 (v := .slice g0 g1' g2') rfl)
        have f9 := fun p : BelowBy wb => p.cell (BXn.out.c 9 (v := .string ap) rfl)
        have fz := fun p : BelowBy wb => p.cell HZb.out
        have CN := hidIt (fun p : BelowBy wb => CN0.out p.world p.h)
        refine wp_region_below (by kernel_rfl) (by kernel_rfl) ?_
        repeat (go_big_quiet_step (first | (go_at_call 45; exact calls_below (CN.out _))))
        refine wpQuiet_nil ?_
        intro _ hw'
        obtain ⟨pq, rfl⟩ := hw'
        have HB1 := hidIt (on (on HBx.out HAl.out) pq.h)
        generalize pq.world = w2 at HB1 ⊢
        clear f0 f1 f2 f3 f4 f5 f6 f7 f8 f9 fz
        go_wp2_with (fail)
        go_ret
        have er := NO.out i hin (by rw [HEA.out]; simp)
        subst er
        exact ⟨rfl, HB1.out⟩
      | true =>
      cases hcmp : (ap.toList == ap0.toList) with
      | false =>
        rw [hcmp] at HEA
        have hWb : wr.heap.size < (wr.alloc (.cells #[.slice e0 e1 e2, .slice t0 t1 t2, .int .i64 ph, .int .i64 mn, .int .i64 ol, .int .i64 nw, .int .i64 tm, .slice b0 b1 b2, .slice g0 g1' g2', .string ap] 46)).heap.size := by simp
        go_wp2_with (fail)
        generalize wr.alloc (.cells #[.slice e0 e1 e2, .slice t0 t1 t2, .int .i64 ph, .int .i64 mn, .int .i64 ol, .int .i64 nw, .int .i64 tm, .slice b0 b1 b2, .slice g0 g1' g2', .string ap] 46) = wb at BXn HAl HZb CN0 hWb ⊢
        clear c0 c1 c2 c3 c4 c5 c6 c7 c8 c9 hWb
        haveI := BelowBy.one wb
        have f0 := fun p : BelowBy wb => p.cell (BXn.out.c 0 (v := .slice e0 e1 e2) rfl)
        have f1 := fun p : BelowBy wb => p.cell (BXn.out.c 1 (v := .slice t0 t1 t2) rfl)
        have f2 := fun p : BelowBy wb => p.cell (BXn.out.c 2 (v := .int .i64 ph) rfl)
        have f3 := fun p : BelowBy wb => p.cell (BXn.out.c 3 (v := .int .i64 mn) rfl)
        have f4 := fun p : BelowBy wb => p.cell (BXn.out.c 4 (v := .int .i64 ol) rfl)
        have f5 := fun p : BelowBy wb => p.cell (BXn.out.c 5 (v := .int .i64 nw) rfl)
        have f6 := fun p : BelowBy wb => p.cell (BXn.out.c 6 (v := .int .i64 tm) rfl)
        have f7 := fun p : BelowBy wb => p.cell (BXn.out.c 7 (v := .slice b0 b1 b2) rfl)
        have f8 := fun p : BelowBy wb => p.cell (BXn.out.c 8 (v := .slice g0 g1' g2') rfl)
        have f9 := fun p : BelowBy wb => p.cell (BXn.out.c 9 (v := .string ap) rfl)
        have fz := fun p : BelowBy wb => p.cell HZb.out
        have CN := hidIt (fun p : BelowBy wb => CN0.out p.world p.h)
        refine wp_region_below (by kernel_rfl) (by kernel_rfl) ?_
        repeat (go_big_quiet_step (first | (go_at_call 45; exact calls_below (CN.out _))))
        refine wpQuiet_nil ?_
        intro _ hw'
        obtain ⟨pq, rfl⟩ := hw'
        have HB1 := hidIt (on (on HBx.out HAl.out) pq.h)
        generalize pq.world = w2 at HB1 ⊢
        clear f0 f1 f2 f3 f4 f5 f6 f7 f8 f9 fz
        go_wp2_with (fail)
        go_ret
        have er := NO.out i hin (by rw [HEA.out]; simp)
        subst er
        exact ⟨rfl, HB1.out⟩
      | true =>
        rw [hcmp] at HEA
        have hWb : wr.heap.size < (wr.alloc (.cells #[.slice e0 e1 e2, .slice t0 t1 t2, .int .i64 ph, .int .i64 mn, .int .i64 ol, .int .i64 nw, .int .i64 tm, .slice b0 b1 b2, .slice g0 g1' g2', .string ap] 46)).heap.size := by simp
        go_wp2_with (fail)
        generalize wr.alloc (.cells #[.slice e0 e1 e2, .slice t0 t1 t2, .int .i64 ph, .int .i64 mn, .int .i64 ol, .int .i64 nw, .int .i64 tm, .slice b0 b1 b2, .slice g0 g1' g2', .string ap] 46) = wb at BXn HAl HZb CN0 hWb ⊢
        clear c0 c1 c2 c3 c4 c5 c6 c7 c8 c9 hWb
        haveI := BelowBy.one wb
        have f0 := fun p : BelowBy wb => p.cell (BXn.out.c 0 (v := .slice e0 e1 e2) rfl)
        have f1 := fun p : BelowBy wb => p.cell (BXn.out.c 1 (v := .slice t0 t1 t2) rfl)
        have f2 := fun p : BelowBy wb => p.cell (BXn.out.c 2 (v := .int .i64 ph) rfl)
        have f3 := fun p : BelowBy wb => p.cell (BXn.out.c 3 (v := .int .i64 mn) rfl)
        have f4 := fun p : BelowBy wb => p.cell (BXn.out.c 4 (v := .int .i64 ol) rfl)
        have f5 := fun p : BelowBy wb => p.cell (BXn.out.c 5 (v := .int .i64 nw) rfl)
        have f6 := fun p : BelowBy wb => p.cell (BXn.out.c 6 (v := .int .i64 tm) rfl)
        have f7 := fun p : BelowBy wb => p.cell (BXn.out.c 7 (v := .slice b0 b1 b2) rfl)
        have f8 := fun p : BelowBy wb => p.cell (BXn.out.c 8 (v := .slice g0 g1' g2') rfl)
        have f9 := fun p : BelowBy wb => p.cell (BXn.out.c 9 (v := .string ap) rfl)
        have fz := fun p : BelowBy wb => p.cell HZb.out
        have CN := hidIt (fun p : BelowBy wb => CN0.out p.world p.h)
        refine wp_region_below (by kernel_rfl) (by kernel_rfl) ?_
        repeat (go_big_quiet_step (first | (go_at_call 45; exact calls_below (CN.out _))))
        refine wpQuiet_nil ?_
        intro _ hw'
        obtain ⟨pq, rfl⟩ := hw'
        have HB1 := hidIt (on (on HBx.out HAl.out) pq.h)
        generalize pq.world = w2 at HB1 ⊢
        clear f0 f1 f2 f3 f4 f5 f6 f7 f8 f9 fz
        go_wp2_with (fail)
        refine ⟨⟨i + 1, by simp, by omega, hidIt (fun j hj => ?_), HB1⟩, by simp [intOf]; omega⟩
        by_cases hj2 : j < i
        · exact HE.out j hj2
        · obtain rfl : j = i := by omega
          rw [HEA.out]
          rfl
    · have hin' : ¬ (i : Int) < (m : Int) := by omega
      obtain rfl : i = m := by omega
      have er := NA.out HH1.out HH2.out HE.out
      subst er
      go_wp2_with (fail)
      refine (CG.out _ (HR.out.kept HBx.out) HH2.out).mono ?_
      intro en w2 hz
      obtain ⟨a2, cap2, rfl, rG, kG⟩ := hz.out
      rw [HN.out]
      have RG := hidIt rG
      have HBg := hidIt (on HBx.out kG)
      clear hz rG kG
      go_wp2_with (fail)
      refine (CO.out a2 cap2 _ RG.out HH2.out).mono ?_
      rintro en w3 ⟨rfl, kO⟩
      have HBo := hidIt (on HBg.out kO)
      clear kO
      go_wp2_with (fail)
      go_ret
      exact ⟨rfl, HBo.out⟩
set_option maxRecDepth 100000 in
set_option maxHeartbeats 8000000 in
theorem impl_clocksOk (a : Option Addr) (cap : Nat) (K : List Int) (n : Nat) (w : World) (h : Iv.Rd w a K) (hl : K.length ≤ 9223372036854775807) : Calls Tryz.prog 27 #[.slice a K.length cap, .int .i64 n] w fun en w' => en = .returned (.bool (clocksB K n)) ∧ Below w.heap.size w w' := by
  have NO := hidIt (fun i hi h => clocksB_no (K := K) (n := n) (i := i) hi h)
  have NA := hidIt (fun h => clocksB_all (K := K) (n := n) h)
  have HR := hidIt h
  have CT := hidIt (fun i W => Ro.impl_timeOk (Iv.iat K i) W)
  clear h
  generalize clocksB K n = res at NO NA ⊢
  generalize hm : K.length = m at *
  have HN := hidIt hm
  clear hm
  go_enter Tryz.func27, Tryz.ntmps27
  go_wp2_with (fail)
  go_loopw [9] (fun y wx => ∃ (i : Nat), y = .int .i64 i ∧ i ≤ m ∧ Hid (∀ j, j < i → Ro.timB (Iv.iat K j) = true) ∧ Hid (Below w.heap.size w wx)) (fun y _ => (m - intOf y).toNat)
  case atStart => exact ⟨0, rfl, by omega, hidIt (fun j hj => by omega), hidIt (Below.refl _ _)⟩
  case round =>
    obtain ⟨i, rfl, hi, HE, HBx⟩ := hrel
    by_cases hin : i < m
    · have hin' : (i : Int) < (m : Int) := by omega
      have hi0' : (0 : Int) ≤ (i : Int) := by omega
      obtain ⟨qk, offk, eqk, zk⟩ := (HR.out.kept HBx.out).cell i (by rw [HN.out]; exact hin)
      subst eqk
      have ct := hidIt (fun W => CT.out i W)
      obtain ⟨k, HK⟩ : ∃ k, Hid (Ro.timB (Iv.iat K i) = k) := ⟨_, hidIt rfl⟩
      rw [HK.out] at ct
      generalize Iv.iat K i = u at ct zk
      cases k with
      | false =>
        have er := NO.out i hin HK.out
        subst er
        go_wp2_with (fail)
        refine (ct.out _).mono ?_
        rintro en w1 ⟨rfl, rfl⟩
        go_wp2_with (fail)
        go_ret
        exact ⟨rfl, HBx.out⟩
      | true =>
        go_wp2_with (fail)
        refine (ct.out _).mono ?_
        rintro en w1 ⟨rfl, rfl⟩
        go_wp2_with (fail)
        refine ⟨⟨i + 1, by simp, by omega, hidIt (fun j hj => ?_), HBx⟩, by simp [intOf]; omega⟩
        by_cases hj2 : j < i
        · exact HE.out j hj2
        · obtain rfl : j = i := by omega
          exact HK.out
    · have hin' : ¬ (i : Int) < (m : Int) := by omega
      obtain rfl : i = m := by omega
      have er0 := NA.out HE.out
      by_cases hn : i = n
      · have hq : ((i : Int) == (n : Int)) = true := by simp; omega
        have er : res = true := er0.trans (decide_eq_true hn)
        subst er
        clear er0 hn
        go_wp2_with (fail)
        go_ret
        exact ⟨rfl, HBx.out⟩
      · have hq : ((i : Int) == (n : Int)) = false := by simp; omega
        have er : res = false := er0.trans (decide_eq_false hn)
        subst er
        clear er0 hn
        go_wp2_with (fail)
        go_ret
        exact ⟨rfl, HBx.out⟩
set_option maxRecDepth 100000 in
set_option maxHeartbeats 16000000 in
theorem impl_ClusterOk (c : Cw) (n k : Sl) (w : World) (h : RdK w c n k) (hs : ShortK c) (ht : Sg.Tab w) : Calls Tryz.prog 15 #[kv c n k] w fun en w' => en = .returned (.bool (okK c)) ∧ Below w.heap.size w w' := by
  have EK := hidIt (okK_parts c)
  have CT := hidIt (fun W => Ro.impl_timeOk c.now W)
  have CN := hidIt (fun W (kb : Below w.heap.size w W) => impl_nodesOk n.1 n.2.2 c.nodes W (h.nr.kept kb) h.nc hs (ht.kept kb))
  have CK := hidIt (fun W (kb : Below w.heap.size w W) => impl_clocksOk k.1 k.2.2 c.clock c.nodes.length W (h.kr.kept kb) h.kc)
  generalize okK c = res at EK ⊢
  obtain ⟨no, ns, ck⟩ := c
  obtain ⟨n0, n1, n2⟩ := n
  obtain ⟨k0, k1, k2⟩ := k
  obtain ⟨z1, rN, cN, z2, rK, cK⟩ := h
  simp only at z1 rN cN z2 rK cK EK CT CN CK
  subst z1 z2
  clear rN rK hs ht
  simp only [kv, kc, sv]
  generalize Ro.timB no = b0 at EK CT
  generalize nodesB ns = b1 at EK CN
  generalize clocksB ck ns.length = b2 at EK CK
  generalize ns.length = m at *
  generalize ck.length = m2 at *
  have BX : Hid (Bo.Box (w.alloc (.cells #[.int .i64 no, .slice n0 m n2, .slice k0 m2 k2] 30)) w.heap.size #[.int .i64 no, .slice n0 m n2, .slice k0 m2 k2]) := hidIt (Bo.Box.new w _ _)
  have HB : Hid (Below w.heap.size w (w.alloc (.cells #[.int .i64 no, .slice n0 m n2, .slice k0 m2 k2] 30))) := hidIt ((Below.refl w.heap.size w).alloc (Nat.le_refl _) _)
  have d0 := BX.out.c 0 (v := .int .i64 no) rfl
  have d1 := BX.out.c 1 (v := .slice n0 m n2) rfl
  have d2 := BX.out.c 2 (v := .slice k0 m2 k2) rfl
  cases b0 with
  | false =>
    have er := EK.out
    simp only [Bool.false_and] at er
    subst er
    go_enter Tryz.func15, Tryz.ntmps15
    go_wp2_with (fail)
    refine (CT.out _).mono ?_
    rintro en w1 ⟨rfl, ew⟩
    have ew2 := ew.symm
    subst ew2
    clear ew
    go_wp2_with (fail)
    go_ret
    exact ⟨rfl, HB.out⟩
  | true =>
  cases b1 with
  | false =>
    have er := EK.out
    simp only [Bool.false_and, Bool.and_false] at er
    subst er
    go_enter Tryz.func15, Tryz.ntmps15
    go_wp2_with (fail)
    refine (CT.out _).mono ?_
    rintro en w1 ⟨rfl, ew⟩
    have ew2 := ew.symm
    subst ew2
    clear ew
    go_wp2_with (fail)
    refine (CN.out _ HB.out).mono ?_
    rintro en w2 ⟨rfl, kk⟩
    replace HB := hidIt (on HB.out kk)
    replace BX := hidIt (BX.out.kept kk)
    clear kk d0 d1 d2
    have d1 := BX.out.c 1 (v := .slice n0 m n2) rfl
    have d2 := BX.out.c 2 (v := .slice k0 m2 k2) rfl
    go_wp2_with (fail)
    go_ret
    exact ⟨rfl, HB.out⟩
  | true =>
    have er := EK.out
    simp only [Bool.true_and] at er
    subst er
    go_enter Tryz.func15, Tryz.ntmps15
    go_wp2_with (fail)
    refine (CT.out _).mono ?_
    rintro en w1 ⟨rfl, ew⟩
    have ew2 := ew.symm
    subst ew2
    clear ew
    go_wp2_with (fail)
    refine (CN.out _ HB.out).mono ?_
    rintro en w2 ⟨rfl, kk⟩
    replace HB := hidIt (on HB.out kk)
    replace BX := hidIt (BX.out.kept kk)
    clear kk d0 d1 d2
    have d1 := BX.out.c 1 (v := .slice n0 m n2) rfl
    have d2 := BX.out.c 2 (v := .slice k0 m2 k2) rfl
    go_wp2_with (fail)
    refine (CK.out _ HB.out).mono ?_
    rintro en w3 ⟨rfl, kk⟩
    replace HB := hidIt (on HB.out kk)
    clear kk d1 d2
    go_wp2_with (fail)
    go_ret
    exact ⟨rfl, HB.out⟩
end Go.Proofs.YtceddedlfdgbhaaGreatDoor.Kc
