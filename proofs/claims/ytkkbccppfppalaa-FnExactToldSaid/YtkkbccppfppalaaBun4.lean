/-
  l13Whole of the specification: all books joined, all Members merged. (Written by wip/mk13.py.)
  GroupOk of the specification.
  l13Copy of the specification. (Written by wip/mkCopy.py.)
  The program's keysTogether, replicaOk and GroupOk.
  copiedReplicas of the program. (Written by wip/mkCopyI.py.)
-/
import Derived.Test.YtkkbccppfppalaaBun2
import Derived.Test.YtkkbccppfppalaaBun1
import Derived.Test.YtkkbccppfppalaaBun3
import Derived.Test.YtkkbccppfppalaaBokJ
import Derived.Test.YtkkbccppfppalaaMbJ
import Derived.Test.YtkkbccppfppalaaMbT
import Derived.Test.YtkkbccppfppalaaMbO
import Derived.Test.YtkkbccppfppalaaMbH
namespace Go.Proofs.Ytkkbccppfppalaa.Rp
open Go.ChangeShapes Go.WideShapes Go.ChangeAt Go.RowKit
open Go.Proofs.Ytkkbccppfppalaa.Vv (Sl sv hidIt)
open Go.Proofs.Ytkkbccppfppalaa.Rg (upd waits wp_region_inv op_at)
set_option linter.unusedVariables false
/-- The books, and the Members, in plain words. -/
def bks (L : List Rep) : List (List Bk.En) := L.map fun r => En.toB r.1
def mbs (L : List Rep) : List (List Mk.En) := L.map fun r => Mm.toB r.2
theorem bks_take {L : List Rep} {i : Nat} (h : i < L.length) : (bks L).take (i + 1) = (bks L).take i ++ [En.toB (rat L i).1] := by
  unfold bks
  rw [← List.map_take, ← List.map_take, take_rat h, List.map_append]
  rfl
theorem mbs_take {L : List Rep} {i : Nat} (h : i < L.length) : (mbs L).take (i + 1) = (mbs L).take i ++ [Mm.toB (rat L i).2] := by
  unfold mbs
  rw [← List.map_take, ← List.map_take, take_rat h, List.map_append]
  rfl
/-- Right ones, as far as it matters here. -/
structure Tame (L : List Rep) : Prop where
  n : L.length ≤ 6
  bl : ∀ i, i < L.length → (rat L i).1.length ≤ 80
  ml : ∀ i, i < L.length → (rat L i).2.length ≤ 8
  br : ∀ i, i < L.length → Bk.Ris (En.toB (rat L i).1)
  mr : ∀ i, i < L.length → Mk.Ris (Mm.toB (rat L i).2)
theorem Tame.bris {L : List Rep} (h : Tame L) : Bk.AllRis (bks L) := by
  intro b hb
  obtain ⟨r, hr, rfl⟩ := List.mem_map.1 hb
  obtain ⟨i, hi, rfl⟩ := List.mem_iff_getElem.1 hr
  have := h.br i hi
  rw [rat_at hi] at this
  exact this
theorem Tame.mris {L : List Rep} (h : Tame L) : Mk.AllRis (mbs L) := by
  intro b hb
  obtain ⟨r, hr, rfl⟩ := List.mem_map.1 hb
  obtain ⟨i, hi, rfl⟩ := List.mem_iff_getElem.1 hr
  have := h.mr i hi
  rw [rat_at hi] at this
  exact this
/-- What l13Whole comes to. -/
def WhoP (L : List Rep) (w : World) (e : Ending) (w' : World) : Prop := ∃ J : Rep, TwoP w J e w' ∧ En.toB J.1 = Bk.whole (bks L) ∧ Mm.toB J.2 = Mk.whole (mbs L)
theorem WhoP.of {L : List Rep} {w w' : World} {e : Ending} (J : Rep) (h : TwoP w J e w') (h1 : En.toB J.1 = Bk.whole (bks L)) (h2 : Mm.toB J.2 = Mk.whole (mbs L)) : WhoP L w e w' := ⟨J, h, h1, h2⟩
theorem WhoP.out {L : List Rep} {w w' : World} {e : Ending} (h : WhoP L w e w') : ∃ J : Rep, TwoP w J e w' ∧ En.toB J.1 = Bk.whole (bks L) ∧ Mm.toB J.2 = Mk.whole (mbs L) := h
def CPBw (go b off i m cap o1 o2 b1 b2 : Nat) (oa ba : Option Addr) (A B : List En.Rw) (w0 : World) (W : World) (v : Value) : Prop := ∃ (s : Sl) (J : List En.Rw), v = sv s ∧ En.Own W w0.heap.size (sv s) J ∧ Bk.IsJoin (En.toB A) (En.toB B) (En.toB J) ∧ J.length ≤ o1 + b1 ∧ Below w0.heap.size w0 W
theorem CPBw.of {go b off i m cap o1 o2 b1 b2 : Nat} {oa ba : Option Addr} {A B : List En.Rw} {w0 : World} {W : World} {v : Value} {J : List En.Rw} (h : En.Own W w0.heap.size v J) (j : Bk.IsJoin (En.toB A) (En.toB B) (En.toB J)) (l : J.length ≤ o1 + b1) (k : Below w0.heap.size w0 W) : CPBw go b off i m cap o1 o2 b1 b2 oa ba A B w0 W v := by
  obtain ⟨a, c, e, _⟩ := h.form
  subst e
  exact ⟨(a, J.length, c), J, rfl, h, j, l, k⟩
def SPBw (go b off i m cap o1 o2 b1 b2 : Nat) (oa ba : Option Addr) (A B : List En.Rw) (w0 : World) (W : World) : Prop := ∃ (W1 : World) (s : Sl) (J : List En.Rw), W = W1.setCell ⟨go, 0, none⟩ (sv s) ∧ En.Own W1 w0.heap.size (sv s) J ∧ Bk.IsJoin (En.toB A) (En.toB B) (En.toB J) ∧ J.length ≤ o1 + b1 ∧ Below w0.heap.size w0 W1
structure RK_Bw (go b off i m cap o1 o2 b1 b2 : Nat) (oa ba : Option Addr) (A B : List En.Rw) (w0 : World) (W0 : World) (L : Nat → Bool) (u12 u13 u14 u15 u16 u17 u18 u19 u20 : Value) (W : World) : Prop where
  st0 : L 7 = false → W = W0
  st1 : L 7 = true → L 9 = false → CPBw go b off i m cap o1 o2 b1 b2 oa ba A B w0 W u19
  st2 : L 9 = true → SPBw go b off i m cap o1 o2 b1 b2 oa ba A B w0 W
  dep : L 7 = true → L 1 = true ∧ L 6 = true
  dps : L 9 = true → L 7 = true
  k0 : L 0 = true → u12 = .pointer (some ⟨go, 0, none⟩)
  k1 : L 1 = true → u13 = .slice oa o1 o2
  k2 : L 2 = true → u14 = .slice (some ⟨b, off, none⟩) m cap
  k3 : L 3 = true → u15 = .int .i64 i
  k4 : L 4 = true → u16 = .pointer (some ⟨b, off + i * 2, none⟩)
  k5 : L 5 = true → u17 = .pointer (some ⟨b, off + i * 2, none⟩)
  k6 : L 6 = true → u18 = .slice ba b1 b2
  k8 : L 8 = true → u20 = .pointer (some ⟨go, 0, none⟩)
def KK_Bw (go b off i m cap o1 o2 b1 b2 : Nat) (oa ba : Option Addr) (A B : List En.Rw) (w0 : World) (W0 : World) (y0 y1 y2 y3 y4 y5 y6 y7 y8 y9 y10 y11 y21 y22 y23 y24 y25 y26 y27 y28 y29 y30 : Value) (L : Nat → Bool) (a : Act) (W : World) : Prop := ∃ u12 u13 u14 u15 u16 u17 u18 u19 u20 : Value, a = ⟨(y0 :: y1 :: y2 :: y3 :: y4 :: y5 :: y6 :: y7 :: y8 :: y9 :: y10 :: y11 :: u12 :: u13 :: u14 :: u15 :: u16 :: u17 :: u18 :: u19 :: u20 :: y21 :: y22 :: y23 :: y24 :: y25 :: y26 :: y27 :: y28 :: y29 :: y30 :: []).toArray, []⟩ ∧ RK_Bw go b off i m cap o1 o2 b1 b2 oa ba A B w0 W0 L u12 u13 u14 u15 u16 u17 u18 u19 u20 W
def CPMw (go b off i m cap o1 o2 b1 b2 : Nat) (oa ba : Option Addr) (A B : List Mm.Rw) (w0 : World) (W : World) (v : Value) : Prop := ∃ (s : Sl) (J : List Mm.Rw), v = sv s ∧ Mm.Own W w0.heap.size (sv s) J ∧ Mk.IsJoin (Mm.toB A) (Mm.toB B) (Mm.toB J) ∧ J.length ≤ o1 + b1 ∧ Below w0.heap.size w0 W
theorem CPMw.of {go b off i m cap o1 o2 b1 b2 : Nat} {oa ba : Option Addr} {A B : List Mm.Rw} {w0 : World} {W : World} {v : Value} {J : List Mm.Rw} (h : Mm.Own W w0.heap.size v J) (j : Mk.IsJoin (Mm.toB A) (Mm.toB B) (Mm.toB J)) (l : J.length ≤ o1 + b1) (k : Below w0.heap.size w0 W) : CPMw go b off i m cap o1 o2 b1 b2 oa ba A B w0 W v := by
  obtain ⟨a, c, e, _⟩ := h.form
  subst e
  exact ⟨(a, J.length, c), J, rfl, h, j, l, k⟩
def SPMw (go b off i m cap o1 o2 b1 b2 : Nat) (oa ba : Option Addr) (A B : List Mm.Rw) (w0 : World) (W : World) : Prop := ∃ (W1 : World) (s : Sl) (J : List Mm.Rw), W = W1.setCell ⟨go, 1, none⟩ (sv s) ∧ Mm.Own W1 w0.heap.size (sv s) J ∧ Mk.IsJoin (Mm.toB A) (Mm.toB B) (Mm.toB J) ∧ J.length ≤ o1 + b1 ∧ Below w0.heap.size w0 W1
structure RK_Mw (go b off i m cap o1 o2 b1 b2 : Nat) (oa ba : Option Addr) (A B : List Mm.Rw) (w0 : World) (W0 : World) (L : Nat → Bool) (u21 u22 u23 u24 u25 u26 u27 u28 u29 : Value) (W : World) : Prop where
  st0 : L 7 = false → W = W0
  st1 : L 7 = true → L 9 = false → CPMw go b off i m cap o1 o2 b1 b2 oa ba A B w0 W u28
  st2 : L 9 = true → SPMw go b off i m cap o1 o2 b1 b2 oa ba A B w0 W
  dep : L 7 = true → L 1 = true ∧ L 6 = true
  dps : L 9 = true → L 7 = true
  k0 : L 0 = true → u21 = .pointer (some ⟨go, 1, none⟩)
  k1 : L 1 = true → u22 = .slice oa o1 o2
  k2 : L 2 = true → u23 = .slice (some ⟨b, off, none⟩) m cap
  k3 : L 3 = true → u24 = .int .i64 i
  k4 : L 4 = true → u25 = .pointer (some ⟨b, off + i * 2, none⟩)
  k5 : L 5 = true → u26 = .pointer (some ⟨b, off + i * 2 + 1, none⟩)
  k6 : L 6 = true → u27 = .slice ba b1 b2
  k8 : L 8 = true → u29 = .pointer (some ⟨go, 1, none⟩)
def KK_Mw (go b off i m cap o1 o2 b1 b2 : Nat) (oa ba : Option Addr) (A B : List Mm.Rw) (w0 : World) (W0 : World) (y0 y1 y2 y3 y4 y5 y6 y7 y8 y9 y10 y11 y12 y13 y14 y15 y16 y17 y18 y19 y20 y30 : Value) (L : Nat → Bool) (a : Act) (W : World) : Prop := ∃ u21 u22 u23 u24 u25 u26 u27 u28 u29 : Value, a = ⟨(y0 :: y1 :: y2 :: y3 :: y4 :: y5 :: y6 :: y7 :: y8 :: y9 :: y10 :: y11 :: y12 :: y13 :: y14 :: y15 :: y16 :: y17 :: y18 :: y19 :: y20 :: u21 :: u22 :: u23 :: u24 :: u25 :: u26 :: u27 :: u28 :: u29 :: y30 :: []).toArray, []⟩ ∧ RK_Mw go b off i m cap o1 o2 b1 b2 oa ba A B w0 W0 L u21 u22 u23 u24 u25 u26 u27 u28 u29 W
set_option maxRecDepth 100000 in
set_option maxHeartbeats 16000000 in
theorem spec_l13Whole (a : Option Addr) (cap : Nat) (L : List Rep) (w : World) (h : Rd w a L) (hT : Tame L) :
    Calls Try.prog 23 #[.slice a L.length cap] w fun e w' => WhoP L w e w' := by
  have HBT := hidIt (fun i (hi : i < L.length) => bks_take hi)
  have HMT := hidIt (fun i (hi : i < L.length) => mbs_take hi)
  have HBE : Hid ((bks L).take L.length = bks L) := hidIt (by rw [show L.length = (bks L).length by simp [bks], List.take_length])
  have HME : Hid ((mbs L).take L.length = mbs L) := hidIt (by rw [show L.length = (mbs L).length by simp [mbs], List.take_length])
  have HBR := hidIt hT.bris
  have HMR := hidIt hT.mris
  have HTT := hidIt hT
  have hm6 := hT.n
  have HR := hidIt h
  clear h hT
  generalize hn : L.length = m at *
  have HN := hidIt hn
  clear hn
  have BR := hidIt ((Bo.Box.new w #[.slice none 0 0, .slice none 0 0] 43).alloc (.cells #[.slice none 0 0, .slice none 0 0] 43))
  have BO : Hid (Bo.Box ((w.alloc (.cells #[.slice none 0 0, .slice none 0 0] 43)).alloc (.cells #[.slice none 0 0, .slice none 0 0] 43)) (w.heap.size + 1) #[.slice none 0 0, .slice none 0 0]) := hidIt (Bo.Box.newAt (by simp))
  have HB0 := hidIt (((Below.refl w.heap.size w).alloc (Nat.le_refl _) (.cells #[.slice none 0 0, .slice none 0 0] 43)).alloc (by simp) (.cells #[.slice none 0 0, .slice none 0 0] 43))
  go_enter Try.func23, Try.ntmps23
  go_wp2_with (fail)
  go_loopw [4] (fun y wx => ∃ (i : Nat) (s t : Sl) (J : Rep), y = .int .i64 i ∧ i ≤ m ∧ J.1.length ≤ 80 * i ∧ J.2.length ≤ 8 * i ∧ Hid (Bo.Box wx (w.heap.size + 1) #[sv s, sv t]) ∧ Hid (Bo.Box wx w.heap.size #[.slice none 0 0, .slice none 0 0]) ∧ Hid (En.Own wx (w.heap.size + 2) (sv s) J.1) ∧ Hid (Mm.Own wx (w.heap.size + 2) (sv t) J.2) ∧ Hid (En.toB J.1 = Bk.whole ((bks L).take i)) ∧ Hid (Mm.toB J.2 = Mk.whole ((mbs L).take i)) ∧ Hid (Below w.heap.size w wx)) (fun y _ => (m - intOf y).toNat)
  case atStart => exact ⟨0, (none, 0, 0), (none, 0, 0), ([], []), rfl, by omega, by simp, by simp, BO, BR, hidIt (En.Own.ofNil _ _), hidIt (Mm.Own.ofNil _ _), hidIt rfl, hidIt rfl, HB0⟩
  case round =>
    obtain ⟨i, s, t, J, rfl, hi, hl1, hl2, BO', BR', OE, OM, EB, EM, HB⟩ := hrel
    clear BO BR HB0
    by_cases hin : i < m
    · have hin' : (i : Int) < (m : Int) := by omega
      have hi0 : (0 : Int) ≤ (i : Int) := by omega
      have hiL : i < L.length := by rw [HN.out]; exact hin
      obtain ⟨b, off, p, q, ea, c0w, c1w, rEw, rMw⟩ := HR.out.one (i := i) hiL
      subst ea
      have hbw : b < w.heap.size := World.block_lt_of_cell? _ _ c0w
      have HRc := hidIt (fun W (k : Below w.heap.size w W) => show W.cell? ⟨b, off + i * 2 + 1, none⟩ = some (sv q) by rw [k.cell hbw]; exact c1w)
      have HR4 := hidIt (fun W (k : Below w.heap.size w W) => (rMw.kept k).rd)
      have c0 : wr.cell? ⟨b, off + i * 2, none⟩ = some (sv p) := by rw [HB.out.cell hbw]; exact c0w
      have c1 := HRc.out wr HB.out
      have rE := rEw.kept HB.out
      have rM := rMw.kept HB.out
      clear c0w c1w rEw rMw
      have rs := rdE_of OE.out
      have rt := rdM_of OM.out
      have hb80 := HTT.out.bl i hiL
      have hm8 := HTT.out.ml i hiL
      have Ri1 : Bk.Ris (En.toB J.1) := by rw [EB.out]; exact Bk.whole_ris (Bk.take_ris HBR.out _)
      have Ri2 : Mk.Ris (Mm.toB J.2) := by rw [EM.out]; exact Mk.whole_ris (Mk.take_ris HMR.out _)
      have HJ1 := hidIt (fun K (j : Bk.IsJoin (En.toB J.1) (En.toB (rat L i).1) K) => show K = Bk.whole ((bks L).take (i + 1)) by
        rw [HBT.out i hin, Bk.whole_snoc, ← EB.out]
        exact j.unique (Bk.merge_join _ _ Ri1 (HTT.out.br i hiL)))
      have HJ2 := hidIt (fun K (j : Mk.IsJoin (Mm.toB J.2) (Mm.toB (rat L i).2) K) => show K = Mk.whole ((mbs L).take (i + 1)) by
        rw [HMT.out i hin, Mk.whole_snoc, ← EM.out]
        exact j.unique (Mk.merge_join _ _ Ri2 (HTT.out.mr i hiL)))
      obtain ⟨s0, s1, s2⟩ := s
      obtain ⟨t0, t1, t2⟩ := t
      obtain ⟨p0, p1, p2⟩ := p
      obtain ⟨q0, q1, q2⟩ := q
      obtain ⟨e1, r1, n1, _, _⟩ := rs
      obtain ⟨e2, r2, n2, _, _⟩ := rt
      obtain ⟨e3, r3, n3, _, _⟩ := rE
      obtain ⟨e4, r4, n4, _, _⟩ := rM
      simp only at e1 r1 n1 e2 r2 n2 e3 r3 n3 e4 r4 n4
      simp only [sv] at c0 c1 BO' OE OM HRc HR4
      have C1 := hidIt (fun W (k : En.Rd W s0 J.1) (k' : En.Rd W p0 (rat L i).1) => En.spec_l11Join s0 p0 s2 p2 J.1 (rat L i).1 W k k' n1 Ri1 (HTT.out.br i hiL) (by omega))
      have C2 := hidIt (fun W (k : Mm.Rd W t0 J.2) (k' : Mm.Rd W q0 (rat L i).2) => Mm.spec_l12Merge t0 q0 t2 q2 J.2 (rat L i).2 W k k' n2 Ri2 (HTT.out.mr i hiL) (by omega))
      rw [← e1, ← e3] at C1
      rw [← e2, ← e4] at C2
      have hgo : w.heap.size + 1 < wr.heap.size := BO'.out.lt
      have H1 := hidIt r1
      have H2 := hidIt r2
      have H3 := hidIt r3
      have H4 := hidIt r4
      have HE1 := hidIt e1
      have HE2 := hidIt e2
      have HE3 := hidIt e3
      have HE4 := hidIt e4
      clear r1 r2 r3 r4 n1 n2 n3 n4 e1 e2 e3 e4 Ri1 Ri2
      have K0 : wr.drew.cell? ⟨w.heap.size + 1, 0, none⟩ = some (.slice s0 s1 s2) := BO'.out.c 0 rfl
      have K1 : wr.drew.cell? ⟨b, off + i * 2, none⟩ = some (.slice p0 p1 p2) := c0
      have Kz : wr.drew.frozen? ⟨w.heap.size + 1, 0, none⟩ = false := BO'.out.fr 0
      have Kg : w.heap.size + 1 < wr.drew.heap.size := hgo
      have HC := hidIt (C1.out wr.drew H1.out.drew H3.out.drew)
      go_wp2_with (fail)
      refine wp_region_inv (by kernel_rfl) (by kernel_rfl) (KK_Bw (w.heap.size + 1) b off i m cap s1 s2 p1 p2 s0 p0 J.1 (rat L i).1 wr.drew (wr.drew) _ _ _ _ _ _ _ _ _ _ _ _ _ _ _ _ _ _ _ _ _ _) ⟨_, _, _, _, _, _, _, _, _, rfl, ⟨fun _ => rfl, (fun q => by cases q), (fun q => by cases q), (fun q => by cases q), (fun q => by cases q), (fun q => by cases q), (fun q => by cases q), (fun q => by cases q), (fun q => by cases q), (fun q => by cases q), (fun q => by cases q), (fun q => by cases q), (fun q => by cases q)⟩⟩ ?_ ?_
      case refine_1 =>
        have c0 := K0
        have c1 := K1
        have z := Kz
        have hgo := Kg
        clear K0 K1 Kz Kg
        generalize wr.drew = W0 at c0 c1 z hgo HC ⊢
        intro Lb a' W i hi hI hL hD
        have hcases : i = 0 ∨ i = 1 ∨ i = 2 ∨ i = 3 ∨ i = 4 ∨ i = 5 ∨ i = 6 ∨ i = 7 ∨ i = 8 ∨ i = 9 := by simp at hi; omega
        clear hi
        obtain ⟨u12, u13, u14, u15, u16, u17, u18, u19, u20, rfl, R⟩ := hI
        rcases hcases with rfl | rfl | rfl | rfl | rfl | rfl | rfl | rfl | rfl | rfl
        · skip
          refine op_at rfl (fun K hK => ?_)
          go_simp
          refine hK _ _ ?_
          exact ⟨_, _, _, _, _, _, _, _, _, rfl, R.st0, R.st1, R.st2, R.dep, R.dps, (fun _ => rfl), R.k1, R.k2, R.k3, R.k4, R.k5, R.k6, R.k8⟩
        · skip
          have e0 := R.k0 (hD 0 (by kernel_rfl))
          subst e0
          have hc : Lb 7 = false := by
            cases q : Lb 7 with
            | false => rfl
            | true => have z := R.dep q; simp [hL] at z
          have eW := R.st0 hc
          subst eW
          refine op_at rfl (fun K hK => ?_)
          go_simp
          refine hK _ _ ?_
          exact ⟨_, _, _, _, _, _, _, _, _, rfl, R.st0, R.st1, R.st2, (fun q => by have q2 : Lb 7 = true := q; rw [hc] at q2; cases q2), R.dps, R.k0, (fun _ => rfl), R.k2, R.k3, R.k4, R.k5, R.k6, R.k8⟩
        · skip
          refine op_at rfl (fun K hK => ?_)
          go_simp
          refine hK _ _ ?_
          exact ⟨_, _, _, _, _, _, _, _, _, rfl, R.st0, R.st1, R.st2, R.dep, R.dps, R.k0, R.k1, (fun _ => rfl), R.k3, R.k4, R.k5, R.k6, R.k8⟩
        · skip
          refine op_at rfl (fun K hK => ?_)
          go_simp
          refine hK _ _ ?_
          exact ⟨_, _, _, _, _, _, _, _, _, rfl, R.st0, R.st1, R.st2, R.dep, R.dps, R.k0, R.k1, R.k2, (fun _ => rfl), R.k4, R.k5, R.k6, R.k8⟩
        · skip
          have e2 := R.k2 (hD 2 (by kernel_rfl))
          subst e2
          have e3 := R.k3 (hD 3 (by kernel_rfl))
          subst e3
          refine op_at rfl (fun K hK => ?_)
          go_simp
          refine hK _ _ ?_
          exact ⟨_, _, _, _, _, _, _, _, _, rfl, R.st0, R.st1, R.st2, R.dep, R.dps, R.k0, R.k1, R.k2, R.k3, (fun _ => rfl), R.k5, R.k6, R.k8⟩
        · skip
          have e4 := R.k4 (hD 4 (by kernel_rfl))
          subst e4
          refine op_at rfl (fun K hK => ?_)
          go_simp
          refine hK _ _ ?_
          exact ⟨_, _, _, _, _, _, _, _, _, rfl, R.st0, R.st1, R.st2, R.dep, R.dps, R.k0, R.k1, R.k2, R.k3, R.k4, (fun _ => rfl), R.k6, R.k8⟩
        · skip
          have e5 := R.k5 (hD 5 (by kernel_rfl))
          subst e5
          have hc : Lb 7 = false := by
            cases q : Lb 7 with
            | false => rfl
            | true => have z := R.dep q; simp [hL] at z
          have eW := R.st0 hc
          subst eW
          refine op_at rfl (fun K hK => ?_)
          go_simp
          refine hK _ _ ?_
          exact ⟨_, _, _, _, _, _, _, _, _, rfl, R.st0, R.st1, R.st2, (fun q => by have q2 : Lb 7 = true := q; rw [hc] at q2; cases q2), R.dps, R.k0, R.k1, R.k2, R.k3, R.k4, R.k5, (fun _ => rfl), R.k8⟩
        · skip
          have e1 := R.k1 (hD 1 (by kernel_rfl))
          subst e1
          have e6 := R.k6 (hD 6 (by kernel_rfl))
          subst e6
          have eW := R.st0 hL
          subst eW
          refine op_at rfl (fun K hK => ?_)
          go_simp
          refine (HC.out).mono ?_
          rintro e W1 ⟨v, J, rfl, _, o1', j1, l1, k1⟩
          go_simp
          refine hK _ _ ?_
          exact ⟨_, _, _, _, _, _, _, _, _, rfl, (fun q => by cases q), (fun _ _ => CPBw.of o1' j1 l1 k1), (fun q => by have q2 := R.dps q; rw [hL] at q2; cases q2), (fun _ => ⟨hD 1 (by kernel_rfl), hD 6 (by kernel_rfl)⟩), (fun _ => rfl), R.k0, R.k1, R.k2, R.k3, R.k4, R.k5, R.k6, R.k8⟩
        · skip
          refine op_at rfl (fun K hK => ?_)
          go_simp
          refine hK _ _ ?_
          exact ⟨_, _, _, _, _, _, _, _, _, rfl, R.st0, R.st1, R.st2, R.dep, R.dps, R.k0, R.k1, R.k2, R.k3, R.k4, R.k5, R.k6, (fun _ => rfl)⟩
        · skip
          have e8 := R.k8 (hD 8 (by kernel_rfl))
          subst e8
          have hcc := hD 7 (by kernel_rfl)
          have hc := R.st1 hcc hL
          obtain ⟨⟨z0, z1, z2⟩, J, rfl, hO, hj, hl, hb⟩ := hc
          have g0 : W.cell? ⟨w.heap.size + 1, 0, none⟩ = some (.slice s0 s1 s2) := by rw [hb.cell hgo]; exact c0
          have g1 : W.frozen? ⟨w.heap.size + 1, 0, none⟩ = false := by rw [hb.frozen hgo]; exact z
          simp only [sv] at hO
          refine op_at rfl (fun K hK => ?_)
          go_simp
          refine hK _ _ ?_
          exact ⟨_, _, _, _, _, _, _, _, _, rfl, (fun q => by have q2 : Lb 7 = false := q; rw [hcc] at q2; cases q2), (fun _ q => by cases q), (fun _ => ⟨W, (z0, z1, z2), J, rfl, hO, hj, hl, hb⟩), R.dep, (fun _ => hcc), R.k0, R.k1, R.k2, R.k3, R.k4, R.k5, R.k6, R.k8⟩
      case refine_2 =>
        intro Lb a' W hI hall
        obtain ⟨u12, u13, u14, u15, u16, u17, u18, u19, u20, rfl, R⟩ := hI
        have hS := R.st2 (hall 9)
        clear R hall
        obtain ⟨W1, ⟨z0, z1, z2⟩, K, rfl, oK, jK, lK, kK⟩ := hS
        have kk : Below wr.heap.size wr W1 := ⟨kK.os, kK.tape, kK.output, kK.size, kK.block⟩
        have eK := HJ1.out _ jK
        have HEK := hidIt eK
        have OK1 := hidIt (show En.Own W1 wr.heap.size (.slice z0 z1 z2) K from oK)
        have Y := hidIt ((Only.refl (w.heap.size + 1) W1).setCell 0 (.slice z0 z1 z2))
        have OK2 := hidIt (OK1.out.only Y.out (.inl hgo))
        have OM2 := hidIt ((OM.out.kept kk).only Y.out (.inl (by omega)))
        have BO2 := hidIt ((BO'.out.kept kk).put (c' := #[.slice z0 z1 z2, .slice t0 t1 t2]) 0 (.slice z0 z1 z2) (by simp) rfl)
        have BR2 := hidIt ((BR'.out.kept kk).other (v := .slice z0 z1 z2) (i := 0) (show w.heap.size + 1 ≠ w.heap.size by omega))
        have HB2 := hidIt ((on HB.out kk).setCell (p := ⟨w.heap.size + 1, 0, none⟩) (by show w.heap.size ≤ w.heap.size + 1; omega) (.slice z0 z1 z2))
        have OK3 := hidIt (OK2.out.mono (show w.heap.size + 2 ≤ wr.heap.size by omega))
        have lK' : K.length ≤ 80 * (i + 1) := by have := HE1.out; have := HE3.out; omega
        have H4' := hidIt (HR4.out _ HB2.out)
        have hc1' := HRc.out _ HB2.out
        clear HC C1 OK1 OK2 Y kK kk jK oK eK lK BO' BR' OE OM HB H1 H3 K0 K1 Kz Kg c0 c1
        generalize W1.setCell ⟨w.heap.size + 1, 0, none⟩ (.slice z0 z1 z2) = wr at OM2 BO2 BR2 HB2 OK3 H4' hc1' ⊢
        have hgo : w.heap.size + 1 < wr.heap.size := BO2.out.lt
        have HM2 : Hid (Mm.Rd wr t0 J.2) := hidIt (rdM_of (s := (t0, t1, t2)) OM2.out).rd
        have K0 : wr.drew.cell? ⟨w.heap.size + 1, 1, none⟩ = some (.slice t0 t1 t2) := BO2.out.c 1 rfl
        have K1 : wr.drew.cell? ⟨b, off + i * 2 + 1, none⟩ = some (.slice q0 q1 q2) := hc1'
        have Kz : wr.drew.frozen? ⟨w.heap.size + 1, 1, none⟩ = false := BO2.out.fr 1
        have Kg : w.heap.size + 1 < wr.drew.heap.size := hgo
        have HC := hidIt (C2.out wr.drew HM2.out.drew H4'.out.drew)
        go_wp2_with (fail)
        refine wp_region_inv (by kernel_rfl) (by kernel_rfl) (KK_Mw (w.heap.size + 1) b off i m cap t1 t2 q1 q2 t0 q0 J.2 (rat L i).2 wr.drew (wr.drew) _ _ _ _ _ _ _ _ _ _ _ _ _ _ _ _ _ _ _ _ _ _) ⟨_, _, _, _, _, _, _, _, _, rfl, ⟨fun _ => rfl, (fun q => by cases q), (fun q => by cases q), (fun q => by cases q), (fun q => by cases q), (fun q => by cases q), (fun q => by cases q), (fun q => by cases q), (fun q => by cases q), (fun q => by cases q), (fun q => by cases q), (fun q => by cases q), (fun q => by cases q)⟩⟩ ?_ ?_
        case refine_1 =>
          have c0 := K0
          have c1 := K1
          have z := Kz
          have hgo := Kg
          clear K0 K1 Kz Kg
          generalize wr.drew = W0 at c0 c1 z hgo HC ⊢
          intro Lb a' W i hi hI hL hD
          have hcases : i = 0 ∨ i = 1 ∨ i = 2 ∨ i = 3 ∨ i = 4 ∨ i = 5 ∨ i = 6 ∨ i = 7 ∨ i = 8 ∨ i = 9 := by simp at hi; omega
          clear hi
          obtain ⟨u21, u22, u23, u24, u25, u26, u27, u28, u29, rfl, R⟩ := hI
          rcases hcases with rfl | rfl | rfl | rfl | rfl | rfl | rfl | rfl | rfl | rfl
          · skip
            refine op_at rfl (fun K hK => ?_)
            go_simp
            refine hK _ _ ?_
            exact ⟨_, _, _, _, _, _, _, _, _, rfl, R.st0, R.st1, R.st2, R.dep, R.dps, (fun _ => rfl), R.k1, R.k2, R.k3, R.k4, R.k5, R.k6, R.k8⟩
          · skip
            have e0 := R.k0 (hD 0 (by kernel_rfl))
            subst e0
            have hc : Lb 7 = false := by
              cases q : Lb 7 with
              | false => rfl
              | true => have z := R.dep q; simp [hL] at z
            have eW := R.st0 hc
            subst eW
            refine op_at rfl (fun K hK => ?_)
            go_simp
            refine hK _ _ ?_
            exact ⟨_, _, _, _, _, _, _, _, _, rfl, R.st0, R.st1, R.st2, (fun q => by have q2 : Lb 7 = true := q; rw [hc] at q2; cases q2), R.dps, R.k0, (fun _ => rfl), R.k2, R.k3, R.k4, R.k5, R.k6, R.k8⟩
          · skip
            refine op_at rfl (fun K hK => ?_)
            go_simp
            refine hK _ _ ?_
            exact ⟨_, _, _, _, _, _, _, _, _, rfl, R.st0, R.st1, R.st2, R.dep, R.dps, R.k0, R.k1, (fun _ => rfl), R.k3, R.k4, R.k5, R.k6, R.k8⟩
          · skip
            refine op_at rfl (fun K hK => ?_)
            go_simp
            refine hK _ _ ?_
            exact ⟨_, _, _, _, _, _, _, _, _, rfl, R.st0, R.st1, R.st2, R.dep, R.dps, R.k0, R.k1, R.k2, (fun _ => rfl), R.k4, R.k5, R.k6, R.k8⟩
          · skip
            have e2 := R.k2 (hD 2 (by kernel_rfl))
            subst e2
            have e3 := R.k3 (hD 3 (by kernel_rfl))
            subst e3
            refine op_at rfl (fun K hK => ?_)
            go_simp
            refine hK _ _ ?_
            exact ⟨_, _, _, _, _, _, _, _, _, rfl, R.st0, R.st1, R.st2, R.dep, R.dps, R.k0, R.k1, R.k2, R.k3, (fun _ => rfl), R.k5, R.k6, R.k8⟩
          · skip
            have e4 := R.k4 (hD 4 (by kernel_rfl))
            subst e4
            refine op_at rfl (fun K hK => ?_)
            go_simp
            refine hK _ _ ?_
            exact ⟨_, _, _, _, _, _, _, _, _, rfl, R.st0, R.st1, R.st2, R.dep, R.dps, R.k0, R.k1, R.k2, R.k3, R.k4, (fun _ => rfl), R.k6, R.k8⟩
          · skip
            have e5 := R.k5 (hD 5 (by kernel_rfl))
            subst e5
            have hc : Lb 7 = false := by
              cases q : Lb 7 with
              | false => rfl
              | true => have z := R.dep q; simp [hL] at z
            have eW := R.st0 hc
            subst eW
            refine op_at rfl (fun K hK => ?_)
            go_simp
            refine hK _ _ ?_
            exact ⟨_, _, _, _, _, _, _, _, _, rfl, R.st0, R.st1, R.st2, (fun q => by have q2 : Lb 7 = true := q; rw [hc] at q2; cases q2), R.dps, R.k0, R.k1, R.k2, R.k3, R.k4, R.k5, (fun _ => rfl), R.k8⟩
          · skip
            have e1 := R.k1 (hD 1 (by kernel_rfl))
            subst e1
            have e6 := R.k6 (hD 6 (by kernel_rfl))
            subst e6
            have eW := R.st0 hL
            subst eW
            refine op_at rfl (fun K hK => ?_)
            go_simp
            refine (HC.out).mono ?_
            rintro e W1 ⟨v, J, rfl, _, o1', j1, l1, k1⟩
            go_simp
            refine hK _ _ ?_
            exact ⟨_, _, _, _, _, _, _, _, _, rfl, (fun q => by cases q), (fun _ _ => CPMw.of o1' j1 l1 k1), (fun q => by have q2 := R.dps q; rw [hL] at q2; cases q2), (fun _ => ⟨hD 1 (by kernel_rfl), hD 6 (by kernel_rfl)⟩), (fun _ => rfl), R.k0, R.k1, R.k2, R.k3, R.k4, R.k5, R.k6, R.k8⟩
          · skip
            refine op_at rfl (fun K hK => ?_)
            go_simp
            refine hK _ _ ?_
            exact ⟨_, _, _, _, _, _, _, _, _, rfl, R.st0, R.st1, R.st2, R.dep, R.dps, R.k0, R.k1, R.k2, R.k3, R.k4, R.k5, R.k6, (fun _ => rfl)⟩
          · skip
            have e8 := R.k8 (hD 8 (by kernel_rfl))
            subst e8
            have hcc := hD 7 (by kernel_rfl)
            have hc := R.st1 hcc hL
            obtain ⟨⟨z0, z1, z2⟩, J, rfl, hO, hj, hl, hb⟩ := hc
            have g0 : W.cell? ⟨w.heap.size + 1, 1, none⟩ = some (.slice t0 t1 t2) := by rw [hb.cell hgo]; exact c0
            have g1 : W.frozen? ⟨w.heap.size + 1, 1, none⟩ = false := by rw [hb.frozen hgo]; exact z
            simp only [sv] at hO
            refine op_at rfl (fun K hK => ?_)
            go_simp
            refine hK _ _ ?_
            exact ⟨_, _, _, _, _, _, _, _, _, rfl, (fun q => by have q2 : Lb 7 = false := q; rw [hcc] at q2; cases q2), (fun _ q => by cases q), (fun _ => ⟨W, (z0, z1, z2), J, rfl, hO, hj, hl, hb⟩), R.dep, (fun _ => hcc), R.k0, R.k1, R.k2, R.k3, R.k4, R.k5, R.k6, R.k8⟩
        case refine_2 =>
          intro Lb a' W hI hall
          obtain ⟨u21, u22, u23, u24, u25, u26, u27, u28, u29, rfl, R⟩ := hI
          have hS := R.st2 (hall 9)
          clear R hall
          obtain ⟨W1, ⟨x0, x1, x2⟩, K2, rfl, oK, jK, lK, kK⟩ := hS
          have kk : Below wr.heap.size wr W1 := ⟨kK.os, kK.tape, kK.output, kK.size, kK.block⟩
          have eK := HJ2.out _ jK
          have HEK2 := hidIt eK
          have OK1 := hidIt (show Mm.Own W1 wr.heap.size (.slice x0 x1 x2) K2 from oK)
          have Y := hidIt ((Only.refl (w.heap.size + 1) W1).setCell 1 (.slice x0 x1 x2))
          have OK2 := hidIt (OK1.out.only Y.out (.inl hgo))
          have OM3 := hidIt ((OK3.out.kept kk).only Y.out (.inl (by omega)))
          have BO3 := hidIt ((BO2.out.kept kk).put (c' := #[.slice z0 z1 z2, .slice x0 x1 x2]) 1 (.slice x0 x1 x2) (by simp) rfl)
          have BR3 := hidIt ((BR2.out.kept kk).other (v := .slice x0 x1 x2) (i := 1) (show w.heap.size + 1 ≠ w.heap.size by omega))
          have HB3 := hidIt ((on HB2.out kk).setCell (p := ⟨w.heap.size + 1, 1, none⟩) (by show w.heap.size ≤ w.heap.size + 1; omega) (.slice x0 x1 x2))
          have OK4 := hidIt (OK2.out.mono (show w.heap.size + 2 ≤ wr.heap.size by omega))
          have lK2' : K2.length ≤ 8 * (i + 1) := by have := HE2.out; have := HE4.out; omega
          clear HC C2 OK1 OK2 Y kK kk jK oK eK lK BO2 BR2 OM2 OK3 HB2 K0 K1 Kz Kg H4'
          go_wp2_with (fail)
          exact ⟨⟨i + 1, (z0, z1, z2), (x0, x1, x2), (K, K2), by simp, by omega, lK', lK2', BO3, BR3, OM3, OK4, HEK, HEK2, HB3⟩, by simp [intOf]; omega⟩
    · have hin' : ¬ (i : Int) < (m : Int) := by omega
      obtain rfl : i = m := by omega
      have EB' := EB.out
      have EM' := EM.out
      rw [HBE.out] at EB'
      rw [HME.out] at EM'
      obtain ⟨s0, s1, s2⟩ := s
      obtain ⟨t0, t1, t2⟩ := t
      simp only [sv] at BO' OE OM
      have a0 := BO'.out.c 0 (v := .slice s0 s1 s2) rfl
      have a1 := BO'.out.c 1 (v := .slice t0 t1 t2) rfl
      have b0 := BR'.out.c 0 (v := .slice none 0 0) rfl
      have b1 := BR'.out.c 1 (v := .slice none 0 0) rfl
      have g0 := BR'.out.fr 0
      have g1 := BR'.out.fr 1
      have hb0 : w.heap.size ≠ w.heap.size + 1 := by omega
      have Y := hidIt (((Only.refl w.heap.size wr).setCell 0 (.slice s0 s1 s2)).setCell 1 (.slice t0 t1 t2))
      have OE2 := hidIt ((OE.out.only Y.out (.inl (by omega))).mono (show w.heap.size ≤ w.heap.size + 2 by omega))
      have OM2 := hidIt ((OM.out.only Y.out (.inl (by omega))).mono (show w.heap.size ≤ w.heap.size + 2 by omega))
      have HB2 := hidIt ((HB.out.setCell (p := ⟨w.heap.size, 0, none⟩) (Nat.le_refl _) (.slice s0 s1 s2)).setCell (p := ⟨w.heap.size, 1, none⟩) (Nat.le_refl _) (.slice t0 t1 t2))
      have RB := hidIt ((BR'.out.put (c' := #[.slice s0 s1 s2, .slice none 0 0]) 0 (.slice s0 s1 s2) (by simp) rfl).put (c' := #[.slice s0 s1 s2, .slice t0 t1 t2]) 1 (.slice t0 t1 t2) (by simp) rfl)
      clear BO' BR' OE OM HB Y
      go_wp2_with (fail)
      generalize (wr.setCell ⟨w.heap.size, 0, none⟩ (.slice s0 s1 s2)).setCell ⟨w.heap.size, 1, none⟩ (.slice t0 t1 t2) = wz at OE2 OM2 HB2 RB ⊢
      have r0 := RB.out.c 0 (v := .slice s0 s1 s2) rfl
      have r1 := RB.out.c 1 (v := .slice t0 t1 t2) rfl
      clear a0 a1 b0 b1 g0 g1
      refine bodyPost_ret (v := .agg #[.slice s0 s1 s2, .slice t0 t1 t2]) (by simp [results, Try.results23, go_sem, r0, r1]) rfl ?_
      exact WhoP.of J (TwoP.of (s := (s0, s1, s2)) (t := (t0, t1, t2)) rfl OE2.out OM2.out HB2.out) EB' EM'
end Go.Proofs.Ytkkbccppfppalaa.Rp
namespace Go.Proofs.Ytkkbccppfppalaa.Rp
open Go.ChangeShapes Go.WideShapes Go.ChangeAt Go.RowKit
open Go.Proofs.Ytkkbccppfppalaa.Vv (Sl sv hidIt)
set_option linter.unusedVariables false
/-- A Replica that is right. -/
def okR (r : Rep) : Bool := Bk.okBk (En.toB r.1) && Mk.okBk (Mm.toB r.2)
/-- A group. -/
def okG (L : List Rep) : Bool := decide (1 ≤ L.length) && (decide (L.length ≤ 6) && (L.all okR && decide ((Bk.whole (bks L)).length ≤ 80)))
theorem okG_all {L : List Rep} (h : okG L = true) : 1 ≤ L.length ∧ L.length ≤ 6 ∧ (∀ i, i < L.length → okR (rat L i) = true) ∧ (Bk.whole (bks L)).length ≤ 80 := by
  unfold okG at h
  simp only [Bool.and_eq_true, decide_eq_true_eq, List.all_eq_true] at h
  exact ⟨h.1, h.2.1, fun i hi => h.2.2.1 _ (rat_mem hi), h.2.2.2⟩
theorem okG_mk {L : List Rep} (h1 : 1 ≤ L.length) (h2 : L.length ≤ 6) (h3 : ∀ i, i < L.length → okR (rat L i) = true) (h4 : (Bk.whole (bks L)).length ≤ 80) : okG L = true := by
  unfold okG
  simp only [Bool.and_eq_true, decide_eq_true_eq, List.all_eq_true]
  refine ⟨h1, h2, fun r hr => ?_, h4⟩
  obtain ⟨i, hi, rfl⟩ := List.mem_iff_getElem.1 hr
  have := h3 i hi
  rw [rat_at hi] at this
  exact this
theorem tame_of {L : List Rep} (h2 : L.length ≤ 6) (h3 : ∀ i, i < L.length → okR (rat L i) = true) : Tame L := by
  have hb : ∀ i, i < L.length → Bk.okBk (En.toB (rat L i).1) = true := fun i hi => by
    have := h3 i hi
    unfold okR at this
    rw [Bool.and_eq_true] at this
    exact this.1
  have hm : ∀ i, i < L.length → Mk.okBk (Mm.toB (rat L i).2) = true := fun i hi => by
    have := h3 i hi
    unfold okR at this
    rw [Bool.and_eq_true] at this
    exact this.2
  exact ⟨h2, fun i hi => by have := Bk.ok_len (hb i hi); rwa [List.length_map] at this, fun i hi => by have := Mk.ok_len (hm i hi); rwa [List.length_map] at this, fun i hi => Bk.ok_ris (hb i hi), fun i hi => Mk.ok_ris (hm i hi)⟩
theorem okG_tame {L : List Rep} (h : okG L = true) : Tame L := tame_of (okG_all h).2.1 (okG_all h).2.2.1
theorem run_field0 (a d : Option Addr) (b c e f : Nat) (W : World) : (Instr.field 43 (.agg #[.slice a b c, .slice d e f]) 0).run Try.prog W = .ok (.slice a b c) W := by kernel_rfl
attribute [local go_sem] run_field0
set_option maxRecDepth 100000 in
set_option maxHeartbeats 8000000 in
theorem spec_GroupOk (a : Option Addr) (cap : Nat) (L : List Rep) (w : World) (h : Rd w a L) (hs : Short L) (hl : L.length ≤ 9223372036854775807) (hlb : ∀ i, i < L.length → (rat L i).1.length ≤ 9223372036854775807 ∧ (rat L i).2.length ≤ 9223372036854775807) :
    Calls Try.prog 8 #[.slice a L.length cap] w fun e w' => e = .returned (.bool (okG L)) ∧ Below w.heap.size w w' := by
  have N1 : Hid (¬ 1 ≤ L.length → okG L = false) := hidIt (fun q => by cases e : okG L with | false => rfl | true => exact absurd (okG_all e).1 q)
  have N2 : Hid (¬ L.length ≤ 6 → okG L = false) := hidIt (fun q => by cases e : okG L with | false => rfl | true => exact absurd (okG_all e).2.1 q)
  have N3 : Hid (∀ i, i < L.length → okR (rat L i) = false → okG L = false) := hidIt (fun i hi q => by cases e : okG L with | false => rfl | true => exact absurd ((okG_all e).2.2.1 i hi) (by rw [q]; decide))
  have N4 : Hid (1 ≤ L.length → L.length ≤ 6 → (∀ i, i < L.length → okR (rat L i) = true) → okG L = decide ((Bk.whole (bks L)).length ≤ 80)) := hidIt (fun h1 h2 h3 => by
    by_cases q : (Bk.whole (bks L)).length ≤ 80
    · rw [okG_mk h1 h2 h3 q, decide_eq_true q]
    · rw [decide_eq_false q]
      cases e : okG L with
      | false => rfl
      | true => exact absurd (okG_all e).2.2.2 q)
  have CW := hidIt (fun W (r : Rd W a L) (t : Tame L) => spec_l13Whole a cap L W r t)
  have HTM := hidIt (fun h2 h3 => tame_of (L := L) h2 h3)
  have HR := hidIt h
  have HS := hidIt hs
  have HLB := hidIt hlb
  clear h hs hlb
  generalize okG L = r at N1 N2 N3 N4 ⊢
  generalize hn : L.length = m at *
  have HN := hidIt hn
  clear hn
  by_cases h1 : 1 ≤ m
  · by_cases h6 : m ≤ 6
    · have g1 : ¬ (m : Int) < 1 := by omega
      have g1' : decide ((m : Int) < 1) = false := decide_eq_false g1
      have g2 : decide ((6 : Int) < (m : Int)) = false := decide_eq_false (by omega)
      go_enter Try.func8, Try.ntmps8
      go_wp2_with (fail)
      go_loopw [3] (fun y wx => ∃ i : Nat, y = .int .i64 i ∧ i ≤ m ∧ Hid (∀ j, j < i → okR (rat L j) = true) ∧ Hid (Below w.heap.size w wx)) (fun y _ => (m - intOf y).toNat)
      case atStart => exact ⟨0, rfl, by omega, hidIt (fun j hj => by omega), hidIt (Below.refl _ _)⟩
      case round =>
        obtain ⟨i, rfl, hi, HO, HB⟩ := hrel
        by_cases hin : i < m
        · have hin' : (i : Int) < (m : Int) := by omega
          have hiL : i < L.length := by rw [HN.out]; exact hin
          obtain ⟨b, off, p, q, ea, c0, c1, rE, rM⟩ := (HR.out.kept HB.out).one (i := i) hiL
          subst ea
          have hlb := HLB.out i hin
          have hsi := HS.out i hiL
          obtain ⟨p0, p1, p2⟩ := p
          obtain ⟨q0, q1, q2⟩ := q
          obtain ⟨e1, r1, _, _, _⟩ := rE
          obtain ⟨e2, r2, _, _, _⟩ := rM
          simp only at e1 r1 e2 r2
          simp only [sv] at c0 c1
          have C1 := hidIt (fun W (k : En.Rd W p0 (rat L i).1) => En.spec_BookOk p0 p2 (rat L i).1 W k hlb.1 hsi)
          have C2 := hidIt (fun W (k : Mm.Rd W q0 (rat L i).2) => Mm.spec_MembersOk q0 q2 (rat L i).2 W k hlb.2)
          rw [← e1] at C1
          rw [← e2] at C2
          have HOK : Hid (okR (rat L i) = (Bk.okBk (En.toB (rat L i).1) && Mk.okBk (Mm.toB (rat L i).2))) := hidIt rfl
          have H1 := hidIt r1
          have H2 := hidIt r2
          clear r1 r2 e1 e2 hlb hsi
          generalize Bk.okBk (En.toB (rat L i).1) = k1 at C1 HOK
          generalize Mk.okBk (Mm.toB (rat L i).2) = k2 at C2 HOK
          cases k1 with
          | false =>
            have er := N3.out i hin HOK.out
            subst er
            go_wp2_with (fail)
            refine (C1.out _ H1.out).mono ?_
            rintro e w1 ⟨rfl, k⟩
            have HB1 := hidIt (on HB.out k)
            clear k
            go_wp2_with (fail)
            go_ret
            exact ⟨rfl, HB1.out⟩
          | true =>
            go_wp2_with (fail)
            refine (C1.out _ H1.out).mono ?_
            rintro e w1 ⟨rfl, k⟩
            have HB1 := hidIt (on HB.out k)
            have c1' : w1.cell? ⟨b, off + i * 2 + 1, none⟩ = some (.slice q0 q1 q2) := by rw [k.cell (by simpa using World.block_lt_of_cell? _ _ c1)]; exact c1
            have H3 := hidIt (H2.out.kept k)
            clear k c0 c1
            go_wp2_with (fail)
            refine (C2.out _ H3.out).mono ?_
            rintro e w2 ⟨rfl, k⟩
            have HB2 := hidIt (on HB1.out k)
            clear k
            cases k2 with
            | false =>
              have er := N3.out i hin HOK.out
              subst er
              go_wp2_with (fail)
              go_ret
              exact ⟨rfl, HB2.out⟩
            | true =>
              go_wp2_with (fail)
              refine ⟨⟨i + 1, by simp, by omega, hidIt (fun j hj => ?_), HB2⟩, by simp [intOf]; omega⟩
              rcases Nat.lt_succ_iff_lt_or_eq.1 hj with q | q
              · exact HO.out j q
              · subst q; exact HOK.out
        · have hin' : ¬ (i : Int) < (m : Int) := by omega
          obtain rfl : i = m := by omega
          have er := N4.out h1 h6 HO.out
          have HT := hidIt (HTM.out h6 HO.out)
          go_wp2_with (fail)
          refine (CW.out _ (HR.out.kept HB.out) HT.out).mono ?_
          intro e w1 hz
          obtain ⟨J, hz2, e1, e2⟩ := hz.out
          obtain ⟨⟨s0, s1, s2⟩, ⟨t0, t1, t2⟩, rfl, oE, oM, k⟩ := hz2.out
          have HB1 := hidIt (on HB.out k)
          have hlen : s1 = (Bk.whole (bks L)).length := by
            have := (rdE_of oE).len
            simp only at this
            rw [this, ← e1, List.length_map]
          rw [← hlen] at er
          clear hz hz2 oE oM k e1 e2 hlen
          subst er
          have hd : decide ((s1 : Int) ≤ 80) = decide (s1 ≤ 80) := decide_eq_decide.2 (by omega)
          simp only [sv]
          go_wp2_with (fail)
          go_ret
          first | exact ⟨rfl, HB1.out⟩ | exact ⟨by rw [hd], HB1.out⟩
    · have g1' : decide ((m : Int) < 1) = false := decide_eq_false (by omega)
      have g2 : decide ((6 : Int) < (m : Int)) = true := decide_eq_true (by omega)
      have er := N2.out h6
      subst er
      go_enter Try.func8, Try.ntmps8
      go_wp2
      go_ret
      exact ⟨rfl, Below.refl _ _⟩
  · have g1' : decide ((m : Int) < 1) = true := decide_eq_true (by omega)
    have er := N1.out h1
    subst er
    go_enter Try.func8, Try.ntmps8
    go_wp2
    go_ret
    exact ⟨rfl, Below.refl _ _⟩
end Go.Proofs.Ytkkbccppfppalaa.Rp
namespace Go.Proofs.Ytkkbccppfppalaa.Rp
open Go.ChangeShapes Go.WideShapes Go.ChangeAt Go.RowKit
open Go.Proofs.Ytkkbccppfppalaa.Vv (Sl sv hidIt)
open Go.Proofs.Ytkkbccppfppalaa.Rg (upd waits wp_region_inv op_at)
set_option linter.unusedVariables false
theorem sv_inj {s t : Sl} (h : sv s = sv t) : s = t := by
  obtain ⟨a, b, c⟩ := s
  obtain ⟨d, e, f⟩ := t
  simp only [sv, Value.slice.injEq] at h
  obtain ⟨rfl, rfl, rfl⟩ := h
  rfl
theorem rd_cellsE {w : World} {x : Addr} {L : List En.Rw} (h : En.Rd w (some x) L) : ∀ j u, (En.rcells L)[j]? = some u → w.cell? (x.add j) = some u := by
  intro j u hj
  cases L with
  | nil => simp [En.rcells] at hj
  | cons y L =>
    obtain ⟨b, off, e, _⟩ := h.cell 0 (by simp)
    cases e
    exact h.cells j u hj
theorem rd_cellsM {w : World} {x : Addr} {L : List Mm.Rw} (h : Mm.Rd w (some x) L) : ∀ j u, (Mm.rcells L)[j]? = some u → w.cell? (x.add j) = some u := by
  intro j u hj
  cases L with
  | nil => simp [Mm.rcells] at hj
  | cons y L =>
    obtain ⟨b, off, e, _⟩ := h.cell 0 (by simp)
    cases e
    exact h.cells j u hj
theorem rd_two (W : World) (s0 t0 : Option Addr) (s1 s2 t1 t2 : Nat) : Vv.Rd (W.alloc (.cells #[.slice s0 s1 s2, .slice t0 t1 t2] 43)) (some ⟨W.heap.size, 0, none⟩) [((s0, s1, s2), (t0, t1, t2))] :=
  ⟨fun i hi => by
    have hi0 : i = 0 := by simp at hi; omega
    subst hi0
    refine ⟨W.heap.size, 0, rfl, fun j hj => ?_⟩
    match j, hj with
    | 0, _ => simp [Vv.rcell, Vv.rat]
    | 1, _ => simp [Vv.rcell, Vv.rat]⟩
/-- What the last append leaves. -/
def FinC (b off i m cap p1 p2 q1 q2 N lo : Nat) (pa qa : Option Addr) (vo : Value) (C : List Vv.Rw) (M : List Rep) (r : Rep) (w0 : World) (W : World) (v : Value) : Prop := ∃ C', OwnC W lo W.heap.size v C' (M ++ [r]) ∧ Below lo w0 W
structure RKc (b off i m cap p1 p2 q1 q2 N lo : Nat) (pa qa : Option Addr) (vo : Value) (C : List Vv.Rw) (M : List Rep) (r : Rep) (w0 : World) (L : Nat → Bool) (u3 u12 u13 u14 u15 u16 u17 u18 u19 u20 u21 u22 u23 u24 u25 u26 u27 u28 u29 : Value) (W : World) : Prop where
  low : L 17 = false → Below w0.heap.size w0 W
  s3 : L 18 = false → u3 = vo
  E0 : L 1 = true → L 7 = false → ∃ g, u13 = .slice (some ⟨g, 0, none⟩) 0 0 ∧ En.Own W N (.slice (some ⟨g, 0, none⟩) 0 0) []
  E1 : L 7 = true → L 17 = false → ∃ s : Sl, u19 = sv s ∧ En.Own W N (sv s) r.1
  M0 : L 8 = true → L 14 = false → ∃ g, u20 = .slice (some ⟨g, 0, none⟩) 0 0 ∧ Mm.Own W N (.slice (some ⟨g, 0, none⟩) 0 0) []
  M1 : L 14 = true → L 17 = false → ∃ s : Sl, u26 = sv s ∧ Mm.Own W N (sv s) r.2
  P16 : L 16 = true → L 17 = false → ∃ (g : Nat) (s t : Sl), u28 = .slice (some ⟨g, 0, none⟩) 1 1 ∧ u19 = sv s ∧ u26 = sv t ∧ Vv.Rd W (some ⟨g, 0, none⟩) [(s, t)]
  fin : L 17 = true → FinC b off i m cap p1 p2 q1 q2 N lo pa qa vo C M r w0 W u29
  d7 : L 7 = true → L 1 = true ∧ L 6 = true
  d14 : L 14 = true → L 8 = true ∧ L 13 = true ∧ L 7 = true
  d15 : L 15 = true → L 7 = true ∧ L 14 = true
  d16 : L 16 = true → L 15 = true
  d17 : L 17 = true → L 0 = true ∧ L 16 = true ∧ L 14 = true
  d18 : L 18 = true → L 17 = true
  k0 : L 0 = true → u12 = vo
  k2 : L 2 = true → u14 = .slice (some ⟨b, off, none⟩) m cap
  k3 : L 3 = true → u15 = .int .i64 i
  k4 : L 4 = true → u16 = .pointer (some ⟨b, off + i * 2, none⟩)
  k5 : L 5 = true → u17 = .pointer (some ⟨b, off + i * 2, none⟩)
  k6 : L 6 = true → u18 = .slice pa p1 p2
  k9 : L 9 = true → u21 = .slice (some ⟨b, off, none⟩) m cap
  k10 : L 10 = true → u22 = .int .i64 i
  k11 : L 11 = true → u23 = .pointer (some ⟨b, off + i * 2, none⟩)
  k12 : L 12 = true → u24 = .pointer (some ⟨b, off + i * 2 + 1, none⟩)
  k13 : L 13 = true → u25 = .slice qa q1 q2
  k15 : L 15 = true → u27 = .agg #[u19, u26]
  k18 : L 18 = true → u3 = u29
def KKc (b off i m cap p1 p2 q1 q2 N lo : Nat) (pa qa : Option Addr) (vo : Value) (C : List Vv.Rw) (M : List Rep) (r : Rep) (w0 : World) (y0 y1 y2 y4 y5 y6 y7 y8 y9 y10 y11 y30 : Value) (L : Nat → Bool) (a : Act) (W : World) : Prop := ∃ u3 u12 u13 u14 u15 u16 u17 u18 u19 u20 u21 u22 u23 u24 u25 u26 u27 u28 u29 : Value, a = ⟨(y0 :: y1 :: y2 :: u3 :: y4 :: y5 :: y6 :: y7 :: y8 :: y9 :: y10 :: y11 :: u12 :: u13 :: u14 :: u15 :: u16 :: u17 :: u18 :: u19 :: u20 :: u21 :: u22 :: u23 :: u24 :: u25 :: u26 :: u27 :: u28 :: u29 :: y30 :: []).toArray, []⟩ ∧ RKc b off i m cap p1 p2 q1 q2 N lo pa qa vo C M r w0 L u3 u12 u13 u14 u15 u16 u17 u18 u19 u20 u21 u22 u23 u24 u25 u26 u27 u28 u29 W
theorem RKc.kept {b off i m cap p1 p2 q1 q2 N lo : Nat} {pa qa : Option Addr} {vo : Value} {C : List Vv.Rw} {M : List Rep} {r : Rep} {w0 : World} {L : Nat → Bool} {u3 u12 u13 u14 u15 u16 u17 u18 u19 u20 u21 u22 u23 u24 u25 u26 u27 u28 u29 : Value} {W W' : World} (R : RKc b off i m cap p1 p2 q1 q2 N lo pa qa vo C M r w0 L u3 u12 u13 u14 u15 u16 u17 u18 u19 u20 u21 u22 u23 u24 u25 u26 u27 u28 u29 W) (h17 : L 17 = false) (k : Below W.heap.size W W') : RKc b off i m cap p1 p2 q1 q2 N lo pa qa vo C M r w0 L u3 u12 u13 u14 u15 u16 u17 u18 u19 u20 u21 u22 u23 u24 u25 u26 u27 u28 u29 W' :=
  ⟨(fun _ => on (R.low h17) k), R.s3, (fun a b => by obtain ⟨g, e, o⟩ := R.E0 a b; exact ⟨g, e, o.kept k⟩), (fun a b => by obtain ⟨s, e, o⟩ := R.E1 a b; exact ⟨s, e, o.kept k⟩), (fun a b => by obtain ⟨g, e, o⟩ := R.M0 a b; exact ⟨g, e, o.kept k⟩), (fun a b => by obtain ⟨s, e, o⟩ := R.M1 a b; exact ⟨s, e, o.kept k⟩), (fun a b => by obtain ⟨g, s, t, e1, e2, e3, o⟩ := R.P16 a b; exact ⟨g, s, t, e1, e2, e3, o.kept k⟩), (fun q => by rw [h17] at q; cases q), R.d7, R.d14, R.d15, R.d16, R.d17, R.d18, R.k0, R.k2, R.k3, R.k4, R.k5, R.k6, R.k9, R.k10, R.k11, R.k12, R.k13, R.k15, R.k18⟩
/-- The last one comes behind all that turn memory. -/
theorem RKc.behind {b off i m cap p1 p2 q1 q2 N lo : Nat} {pa qa : Option Addr} {vo : Value} {C : List Vv.Rw} {M : List Rep} {r : Rep} {w0 : World} {L : Nat → Bool} {u3 u12 u13 u14 u15 u16 u17 u18 u19 u20 u21 u22 u23 u24 u25 u26 u27 u28 u29 : Value} {W : World} (R : RKc b off i m cap p1 p2 q1 q2 N lo pa qa vo C M r w0 L u3 u12 u13 u14 u15 u16 u17 u18 u19 u20 u21 u22 u23 u24 u25 u26 u27 u28 u29 W) (h : L 1 = false ∨ L 6 = false ∨ L 7 = false ∨ L 8 = false ∨ L 13 = false ∨ L 14 = false ∨ L 15 = false ∨ L 16 = false) : L 17 = false := by
  cases q : L 17 with
  | false => rfl
  | true =>
    have h17 := R.d17 q
    have h14 := R.d14 h17.2.2
    have h15 := R.d15 (R.d16 h17.2.1)
    have h7 := R.d7 h15.1
    simp [h17.2.1, h17.2.2, h14.1, h14.2.1, h15.1, h7.1, h7.2, R.d16 h17.2.1] at h
set_option maxRecDepth 100000 in
set_option maxHeartbeats 32000000 in
theorem spec_l13Copy (a : Option Addr) (cap : Nat) (L : List Rep) (w : World) (h : Rd w a L) (hT : Tame L) :
    Calls Try.prog 28 #[.slice a L.length cap] w fun e w' => LstP w L e w' := by
  have HTT := hidIt hT
  have hm6 := hT.n
  have HR := hidIt h
  clear h hT
  generalize hn : L.length = m at *
  have HN := hidIt hn
  clear hn
  go_enter Try.func28, Try.ntmps28
  go_wp2_with (fail)
  go_loopw [3, 4] (fun z y wx => ∃ (i go mm co : Nat) (M : List Rep), y = .int .i64 i ∧ z = .slice (some ⟨go, 0, none⟩) mm co ∧ i ≤ m ∧ Hid (M.length = mm) ∧ Hid (mm = i) ∧ Hid (M = L.take i) ∧ Hid (Own wx w.heap.size wx.heap.size (.slice (some ⟨go, 0, none⟩) mm co) M) ∧ Hid (Below w.heap.size w wx)) (fun _ y _ => (m - intOf y).toNat)
  case atStart => exact ⟨0, w.heap.size, 0, 0, [], rfl, rfl, by omega, hidIt rfl, hidIt rfl, hidIt (by simp), hidIt (Own.new w).grow, hidIt ((Below.refl _ w).alloc (Nat.le_refl _) _)⟩
  case round =>
    obtain ⟨i, go, mm, co, M, rfl, rfl, hi, HMM, HMI, HME, HO, HBx⟩ := hrel
    by_cases hin : i < m
    · have hin' : (i : Int) < (m : Int) := by omega
      have hi0 : (0 : Int) ≤ (i : Int) := by omega
      have hiL : i < L.length := by rw [HN.out]; exact hin
      obtain ⟨b, off, p, q, ea, c0, c1, rE, rM⟩ := (HR.out.kept HBx.out).one (i := i) hiL
      subst ea
      have hb80 := HTT.out.bl i hiL
      have hm8 := HTT.out.ml i hiL
      have HTK := hidIt (take_rat hiL)
      obtain ⟨p0, p1, p2⟩ := p
      obtain ⟨q0, q1, q2⟩ := q
      obtain ⟨e1, r1, n1, _, _⟩ := rE
      obtain ⟨e2, r2, n2, _, _⟩ := rM
      simp only at e1 r1 n1 e2 r2 n2
      simp only [sv] at c0 c1
      have hp1 := hidIt e1
      have hq1 := hidIt e2
      have np := hidIt n1
      have nq := hidIt n2
      have HE := hidIt r1.drew
      have HM := hidIt r2.drew
      obtain ⟨C, hC⟩ := HO.out
      have hbw : b < wr.drew.heap.size := World.block_lt_of_cell? _ _ c0
      have HOC : Hid (OwnC wr.drew w.heap.size wr.drew.heap.size (.slice (some ⟨go, 0, none⟩) mm co) C M) := hidIt (hC.kept ((Below.refl _ wr).drew))
      have c0' : wr.drew.cell? ⟨b, off + i * 2, none⟩ = some (.slice p0 p1 p2) := c0
      have c1' : wr.drew.cell? ⟨b, off + i * 2 + 1, none⟩ = some (.slice q0 q1 q2) := c1
      replace HBx := hidIt (HBx.out.drew)
      clear c0 c1 r1 r2 e1 e2 n1 n2 hC HO
      have c0 := c0'
      have c1 := c1'
      clear c0' c1'
      obtain ⟨W0, hW0⟩ : ∃ W0, W0 = wr.drew := ⟨_, rfl⟩
      rw [← hW0] at c0 c1 HE HM HOC HBx hbw
      go_wp2_with (fail)
      refine wp_region_inv (by kernel_rfl) (by kernel_rfl) (KKc b off i m cap p1 p2 q1 q2 W0.heap.size w.heap.size p0 q0 (.slice (some ⟨go, 0, none⟩) mm co) C M (rat L i) W0 _ _ _ _ _ _ _ _ _ _ _ _) ⟨_, _, _, _, _, _, _, _, _, _, _, _, _, _, _, _, _, _, _, (by rw [← hW0]; exact ⟨rfl, ⟨(fun _ => (Below.refl _ _)), (fun _ => rfl), (fun q => by cases q), (fun q => by cases q), (fun q => by cases q), (fun q => by cases q), (fun q => by cases q), (fun q => by cases q), (fun q => by cases q), (fun q => by cases q), (fun q => by cases q), (fun q => by cases q), (fun q => by cases q), (fun q => by cases q), (fun q => by cases q), (fun q => by cases q), (fun q => by cases q), (fun q => by cases q), (fun q => by cases q), (fun q => by cases q), (fun q => by cases q), (fun q => by cases q), (fun q => by cases q), (fun q => by cases q), (fun q => by cases q), (fun q => by cases q), (fun q => by cases q)⟩⟩)⟩ ?_ ?_
      case refine_1 =>
        intro Lb a' W j hj hI hL hD
        have hcases : j = 0 ∨ j = 1 ∨ j = 2 ∨ j = 3 ∨ j = 4 ∨ j = 5 ∨ j = 6 ∨ j = 7 ∨ j = 8 ∨ j = 9 ∨ j = 10 ∨ j = 11 ∨ j = 12 ∨ j = 13 ∨ j = 14 ∨ j = 15 ∨ j = 16 ∨ j = 17 ∨ j = 18 := by simp at hj; omega
        clear hj
        obtain ⟨u3, u12, u13, u14, u15, u16, u17, u18, u19, u20, u21, u22, u23, u24, u25, u26, u27, u28, u29, rfl, R⟩ := hI
        rcases hcases with rfl | rfl | rfl | rfl | rfl | rfl | rfl | rfl | rfl | rfl | rfl | rfl | rfl | rfl | rfl | rfl | rfl | rfl | rfl
        · skip
          have h18 : Lb 18 = false := by
            cases q : Lb 18 with
            | false => rfl
            | true => have z := (R.d17 (R.d18 q)).1; rw [hL] at z; cases z
          have e3 := R.s3 h18
          subst e3
          refine op_at rfl (fun K hK => ?_)
          go_simp
          refine hK _ _ ?_
          exact ⟨_, _, _, _, _, _, _, _, _, _, _, _, _, _, _, _, _, _, _, rfl, ⟨R.low, R.s3, R.E0, R.E1, R.M0, R.M1, R.P16, R.fin, R.d7, R.d14, R.d15, R.d16, (fun q => ⟨rfl, (R.d17 q).2.1, (R.d17 q).2.2⟩), R.d18, (fun _ => rfl), R.k2, R.k3, R.k4, R.k5, R.k6, R.k9, R.k10, R.k11, R.k12, R.k13, R.k15, R.k18⟩⟩
        · skip
          have h17 := R.behind (.inl hL)
          have kb := R.low h17
          have R := R.kept h17 ((Below.refl W.heap.size W).alloc (Nat.le_refl _) (.cells #[] 59))
          have hn : Lb 7 = false := by
            cases q : Lb 7 with
            | false => rfl
            | true => have z := (R.d7 q).1; rw [hL] at z; cases z
          refine op_at rfl (fun K hK => ?_)
          go_simp
          refine hK _ _ ?_
          exact ⟨_, _, _, _, _, _, _, _, _, _, _, _, _, _, _, _, _, _, _, rfl, ⟨R.low, R.s3, (fun _ _ => ⟨W.heap.size, rfl, (En.Own.new W).mono kb.size⟩), R.E1, R.M0, R.M1, R.P16, R.fin, (fun q => ⟨rfl, (R.d7 q).2⟩), R.d14, R.d15, R.d16, R.d17, R.d18, R.k0, R.k2, R.k3, R.k4, R.k5, R.k6, R.k9, R.k10, R.k11, R.k12, R.k13, R.k15, R.k18⟩⟩
        · skip
          refine op_at rfl (fun K hK => ?_)
          go_simp
          refine hK _ _ ?_
          exact ⟨_, _, _, _, _, _, _, _, _, _, _, _, _, _, _, _, _, _, _, rfl, ⟨R.low, R.s3, R.E0, R.E1, R.M0, R.M1, R.P16, R.fin, R.d7, R.d14, R.d15, R.d16, R.d17, R.d18, R.k0, (fun _ => rfl), R.k3, R.k4, R.k5, R.k6, R.k9, R.k10, R.k11, R.k12, R.k13, R.k15, R.k18⟩⟩
        · skip
          refine op_at rfl (fun K hK => ?_)
          go_simp
          refine hK _ _ ?_
          exact ⟨_, _, _, _, _, _, _, _, _, _, _, _, _, _, _, _, _, _, _, rfl, ⟨R.low, R.s3, R.E0, R.E1, R.M0, R.M1, R.P16, R.fin, R.d7, R.d14, R.d15, R.d16, R.d17, R.d18, R.k0, R.k2, (fun _ => rfl), R.k4, R.k5, R.k6, R.k9, R.k10, R.k11, R.k12, R.k13, R.k15, R.k18⟩⟩
        · skip
          have e2 := R.k2 (hD 2 (by kernel_rfl))
          subst e2
          have e3 := R.k3 (hD 3 (by kernel_rfl))
          subst e3
          refine op_at rfl (fun K hK => ?_)
          go_simp
          refine hK _ _ ?_
          exact ⟨_, _, _, _, _, _, _, _, _, _, _, _, _, _, _, _, _, _, _, rfl, ⟨R.low, R.s3, R.E0, R.E1, R.M0, R.M1, R.P16, R.fin, R.d7, R.d14, R.d15, R.d16, R.d17, R.d18, R.k0, R.k2, R.k3, (fun _ => rfl), R.k5, R.k6, R.k9, R.k10, R.k11, R.k12, R.k13, R.k15, R.k18⟩⟩
        · skip
          have e4 := R.k4 (hD 4 (by kernel_rfl))
          subst e4
          refine op_at rfl (fun K hK => ?_)
          go_simp
          refine hK _ _ ?_
          exact ⟨_, _, _, _, _, _, _, _, _, _, _, _, _, _, _, _, _, _, _, rfl, ⟨R.low, R.s3, R.E0, R.E1, R.M0, R.M1, R.P16, R.fin, R.d7, R.d14, R.d15, R.d16, R.d17, R.d18, R.k0, R.k2, R.k3, R.k4, (fun _ => rfl), R.k6, R.k9, R.k10, R.k11, R.k12, R.k13, R.k15, R.k18⟩⟩
        · skip
          have e5 := R.k5 (hD 5 (by kernel_rfl))
          subst e5
          have h17 := R.behind (.inr (.inl hL))
          have kb := R.low h17
          have cc : W.cell? ⟨b, off + i * 2, none⟩ = some (.slice p0 p1 p2) := by rw [kb.cell hbw]; exact c0
          refine op_at rfl (fun K hK => ?_)
          go_simp
          refine hK _ _ ?_
          exact ⟨_, _, _, _, _, _, _, _, _, _, _, _, _, _, _, _, _, _, _, rfl, ⟨R.low, R.s3, R.E0, R.E1, R.M0, R.M1, R.P16, R.fin, (fun q => ⟨(R.d7 q).1, rfl⟩), R.d14, R.d15, R.d16, R.d17, R.d18, R.k0, R.k2, R.k3, R.k4, R.k5, (fun _ => rfl), R.k9, R.k10, R.k11, R.k12, R.k13, R.k15, R.k18⟩⟩
        · skip
          have h17 := R.behind (.inr (.inr (.inl hL)))
          have kb := R.low h17
          obtain ⟨g, eg, og⟩ := R.E0 (hD 1 (by kernel_rfl)) hL
          have es := R.k6 (hD 6 (by kernel_rfl))
          subst eg es
          have h16 : Lb 16 = false := by
            cases q : Lb 16 with
            | false => rfl
            | true => have z := R.d15 (R.d16 q); simp [hL] at z
          have h15 : Lb 15 = false := by
            cases q : Lb 15 with
            | false => rfl
            | true => have z := R.d15 q; simp [hL] at z
          have h14 : Lb 14 = false := by
            cases q : Lb 14 with
            | false => rfl
            | true => have z := (R.d14 q).2.2; rw [hL] at z; cases z
          refine op_at rfl (fun K hK => ?_)
          cases hpa : p0 with
          | none =>
            have hnil : (rat L i).1 = [] := by have z := (HE.out.kept kb); rw [hpa] at z; exact z.none_nil
            have hz : p1 = 0 := by rw [hp1.out, hnil]; rfl
            have hz2 : p2 = 0 := np.out hpa
            refine En.step_append_none rfl (.tmp 13) (.tmp 18) rfl W0.heap.size (.slice (some ⟨g, 0, none⟩) 0 0) [] (by simp [Act.eval]) og (by simp [Act.eval, hz, hz2]) ?_
            refine hK _ _ ?_
            exact ⟨_, _, _, _, _, _, _, _, _, _, _, _, _, _, _, _, _, _, _, rfl, ⟨R.low, R.s3, (fun _ q => by cases q), (fun _ _ => ⟨(some ⟨g, 0, none⟩, 0, 0), rfl, by rw [hnil]; exact og⟩), R.M0, R.M1, (fun q => by have q2 : Lb 16 = true := q; rw [h16] at q2; cases q2), (fun q => by have q2 : Lb 17 = true := q; rw [h17] at q2; cases q2), (fun _ => ⟨hD 1 (by kernel_rfl), hD 6 (by kernel_rfl)⟩), (fun q => ⟨(R.d14 q).1, (R.d14 q).2.1, rfl⟩), (fun q => ⟨rfl, (R.d15 q).2⟩), R.d16, R.d17, R.d18, R.k0, R.k2, R.k3, R.k4, R.k5, (fun _ => by rw [hpa]), R.k9, R.k10, R.k11, R.k12, R.k13, (fun q => by have q2 : Lb 15 = true := q; rw [h15] at q2; cases q2), R.k18⟩⟩
          | some x =>
            refine En.step_append rfl (.tmp 13) (.tmp 18) rfl W0.heap.size (.slice (some ⟨g, 0, none⟩) 0 0) [] (rat L i).1 (by simp [Act.eval]) og x p1 p2 hp1.out.symm (by simp [Act.eval]) (rd_cellsE (by have z := (HE.out.kept kb); rw [hpa] at z; exact z)) (by have := hp1.out; simp; omega) kb.size ?_
            intro v' W' o' gr _
            rw [List.nil_append] at o'
            obtain ⟨s, es'⟩ := slE o'
            subst es'
            have kb2 : Below W0.heap.size W0 W' := kb.trans (En.grown_below og gr (Nat.le_refl _) kb.size)
            refine hK _ _ ?_
            exact ⟨_, _, _, _, _, _, _, _, _, _, _, _, _, _, _, _, _, _, _, rfl, ⟨(fun _ => kb2), R.s3, (fun _ q => by cases q), (fun _ _ => ⟨s, rfl, o'⟩), (fun a c => by obtain ⟨g', e', om⟩ := R.M0 a c; exact ⟨g', e', row_grown om og gr (own_apart om og (by decide))⟩), (fun q => by have q2 : Lb 14 = true := q; rw [h14] at q2; cases q2), (fun q => by have q2 : Lb 16 = true := q; rw [h16] at q2; cases q2), (fun q => by have q2 : Lb 17 = true := q; rw [h17] at q2; cases q2), (fun _ => ⟨hD 1 (by kernel_rfl), hD 6 (by kernel_rfl)⟩), (fun q => ⟨(R.d14 q).1, (R.d14 q).2.1, rfl⟩), (fun q => ⟨rfl, (R.d15 q).2⟩), R.d16, R.d17, R.d18, R.k0, R.k2, R.k3, R.k4, R.k5, (fun _ => by rw [hpa]), R.k9, R.k10, R.k11, R.k12, R.k13, (fun q => by have q2 : Lb 15 = true := q; rw [h15] at q2; cases q2), R.k18⟩⟩
        · skip
          have h17 := R.behind (.inr (.inr (.inr (.inl hL))))
          have kb := R.low h17
          have R := R.kept h17 ((Below.refl W.heap.size W).alloc (Nat.le_refl _) (.cells #[] 61))
          have hn : Lb 14 = false := by
            cases q : Lb 14 with
            | false => rfl
            | true => have z := (R.d14 q).1; rw [hL] at z; cases z
          refine op_at rfl (fun K hK => ?_)
          go_simp
          refine hK _ _ ?_
          exact ⟨_, _, _, _, _, _, _, _, _, _, _, _, _, _, _, _, _, _, _, rfl, ⟨R.low, R.s3, R.E0, R.E1, (fun _ _ => ⟨W.heap.size, rfl, (Mm.Own.new W).mono kb.size⟩), R.M1, R.P16, R.fin, R.d7, (fun q => ⟨rfl, (R.d14 q).2.1, (R.d14 q).2.2⟩), R.d15, R.d16, R.d17, R.d18, R.k0, R.k2, R.k3, R.k4, R.k5, R.k6, R.k9, R.k10, R.k11, R.k12, R.k13, R.k15, R.k18⟩⟩
        · skip
          refine op_at rfl (fun K hK => ?_)
          go_simp
          refine hK _ _ ?_
          exact ⟨_, _, _, _, _, _, _, _, _, _, _, _, _, _, _, _, _, _, _, rfl, ⟨R.low, R.s3, R.E0, R.E1, R.M0, R.M1, R.P16, R.fin, R.d7, R.d14, R.d15, R.d16, R.d17, R.d18, R.k0, R.k2, R.k3, R.k4, R.k5, R.k6, (fun _ => rfl), R.k10, R.k11, R.k12, R.k13, R.k15, R.k18⟩⟩
        · skip
          refine op_at rfl (fun K hK => ?_)
          go_simp
          refine hK _ _ ?_
          exact ⟨_, _, _, _, _, _, _, _, _, _, _, _, _, _, _, _, _, _, _, rfl, ⟨R.low, R.s3, R.E0, R.E1, R.M0, R.M1, R.P16, R.fin, R.d7, R.d14, R.d15, R.d16, R.d17, R.d18, R.k0, R.k2, R.k3, R.k4, R.k5, R.k6, R.k9, (fun _ => rfl), R.k11, R.k12, R.k13, R.k15, R.k18⟩⟩
        · skip
          have e9 := R.k9 (hD 9 (by kernel_rfl))
          subst e9
          have e10 := R.k10 (hD 10 (by kernel_rfl))
          subst e10
          refine op_at rfl (fun K hK => ?_)
          go_simp
          refine hK _ _ ?_
          exact ⟨_, _, _, _, _, _, _, _, _, _, _, _, _, _, _, _, _, _, _, rfl, ⟨R.low, R.s3, R.E0, R.E1, R.M0, R.M1, R.P16, R.fin, R.d7, R.d14, R.d15, R.d16, R.d17, R.d18, R.k0, R.k2, R.k3, R.k4, R.k5, R.k6, R.k9, R.k10, (fun _ => rfl), R.k12, R.k13, R.k15, R.k18⟩⟩
        · skip
          have e11 := R.k11 (hD 11 (by kernel_rfl))
          subst e11
          refine op_at rfl (fun K hK => ?_)
          go_simp
          refine hK _ _ ?_
          exact ⟨_, _, _, _, _, _, _, _, _, _, _, _, _, _, _, _, _, _, _, rfl, ⟨R.low, R.s3, R.E0, R.E1, R.M0, R.M1, R.P16, R.fin, R.d7, R.d14, R.d15, R.d16, R.d17, R.d18, R.k0, R.k2, R.k3, R.k4, R.k5, R.k6, R.k9, R.k10, R.k11, (fun _ => rfl), R.k13, R.k15, R.k18⟩⟩
        · skip
          have e12 := R.k12 (hD 12 (by kernel_rfl))
          subst e12
          have h17 := R.behind (.inr (.inr (.inr (.inr (.inl hL)))))
          have kb := R.low h17
          have cc : W.cell? ⟨b, off + i * 2 + 1, none⟩ = some (.slice q0 q1 q2) := by rw [kb.cell hbw]; exact c1
          refine op_at rfl (fun K hK => ?_)
          go_simp
          refine hK _ _ ?_
          exact ⟨_, _, _, _, _, _, _, _, _, _, _, _, _, _, _, _, _, _, _, rfl, ⟨R.low, R.s3, R.E0, R.E1, R.M0, R.M1, R.P16, R.fin, R.d7, (fun q => ⟨(R.d14 q).1, rfl, (R.d14 q).2.2⟩), R.d15, R.d16, R.d17, R.d18, R.k0, R.k2, R.k3, R.k4, R.k5, R.k6, R.k9, R.k10, R.k11, R.k12, (fun _ => rfl), R.k15, R.k18⟩⟩
        · skip
          have h17 := R.behind (.inr (.inr (.inr (.inr (.inr (.inl hL))))))
          have kb := R.low h17
          obtain ⟨g, eg, og⟩ := R.M0 (hD 8 (by kernel_rfl)) hL
          have es := R.k13 (hD 13 (by kernel_rfl))
          subst eg es
          have h16 : Lb 16 = false := by
            cases q : Lb 16 with
            | false => rfl
            | true => have z := R.d15 (R.d16 q); simp [hL] at z
          have h15 : Lb 15 = false := by
            cases q : Lb 15 with
            | false => rfl
            | true => have z := R.d15 q; simp [hL] at z
          refine op_at rfl (fun K hK => ?_)
          cases hpa : q0 with
          | none =>
            have hnil : (rat L i).2 = [] := by have z := (HM.out.kept kb); rw [hpa] at z; exact z.none_nil
            have hz : q1 = 0 := by rw [hq1.out, hnil]; rfl
            have hz2 : q2 = 0 := nq.out hpa
            refine Mm.step_append_none rfl (.tmp 20) (.tmp 25) rfl W0.heap.size (.slice (some ⟨g, 0, none⟩) 0 0) [] (by simp [Act.eval]) og (by simp [Act.eval, hz, hz2]) ?_
            refine hK _ _ ?_
            exact ⟨_, _, _, _, _, _, _, _, _, _, _, _, _, _, _, _, _, _, _, rfl, ⟨R.low, R.s3, R.E0, R.E1, (fun _ q => by cases q), (fun _ _ => ⟨(some ⟨g, 0, none⟩, 0, 0), rfl, by rw [hnil]; exact og⟩), (fun q => by have q2 : Lb 16 = true := q; rw [h16] at q2; cases q2), (fun q => by have q2 : Lb 17 = true := q; rw [h17] at q2; cases q2), R.d7, (fun _ => ⟨hD 8 (by kernel_rfl), hD 13 (by kernel_rfl), hD 7 (by kernel_rfl)⟩), (fun q => ⟨(R.d15 q).1, rfl⟩), R.d16, (fun q => ⟨(R.d17 q).1, (R.d17 q).2.1, rfl⟩), R.d18, R.k0, R.k2, R.k3, R.k4, R.k5, R.k6, R.k9, R.k10, R.k11, R.k12, (fun _ => by rw [hpa]), (fun q => by have q2 : Lb 15 = true := q; rw [h15] at q2; cases q2), R.k18⟩⟩
          | some x =>
            refine Mm.step_append rfl (.tmp 20) (.tmp 25) rfl W0.heap.size (.slice (some ⟨g, 0, none⟩) 0 0) [] (rat L i).2 (by simp [Act.eval]) og x q1 q2 hq1.out.symm (by simp [Act.eval]) (rd_cellsM (by have z := (HM.out.kept kb); rw [hpa] at z; exact z)) (by have := hq1.out; simp; omega) kb.size ?_
            intro v' W' o' gr _
            rw [List.nil_append] at o'
            obtain ⟨s, es'⟩ := slM o'
            subst es'
            have kb2 : Below W0.heap.size W0 W' := kb.trans (Mm.grown_below og gr (Nat.le_refl _) kb.size)
            refine hK _ _ ?_
            exact ⟨_, _, _, _, _, _, _, _, _, _, _, _, _, _, _, _, _, _, _, rfl, ⟨(fun _ => kb2), R.s3, (fun a c => by obtain ⟨g', e', om⟩ := R.E0 a c; exact ⟨g', e', row_grown om og gr (own_apart om og (by decide))⟩), (fun a c => by obtain ⟨g', e', om⟩ := R.E1 a c; exact ⟨g', e', row_grown om og gr (own_apart om og (by decide))⟩), (fun _ q => by cases q), (fun _ _ => ⟨s, rfl, o'⟩), (fun q => by have q2 : Lb 16 = true := q; rw [h16] at q2; cases q2), (fun q => by have q2 : Lb 17 = true := q; rw [h17] at q2; cases q2), R.d7, (fun _ => ⟨hD 8 (by kernel_rfl), hD 13 (by kernel_rfl), hD 7 (by kernel_rfl)⟩), (fun q => ⟨(R.d15 q).1, rfl⟩), R.d16, (fun q => ⟨(R.d17 q).1, (R.d17 q).2.1, rfl⟩), R.d18, R.k0, R.k2, R.k3, R.k4, R.k5, R.k6, R.k9, R.k10, R.k11, R.k12, (fun _ => by rw [hpa]), (fun q => by have q2 : Lb 15 = true := q; rw [h15] at q2; cases q2), R.k18⟩⟩
        · skip
          have h17 := R.behind (.inr (.inr (.inr (.inr (.inr (.inr (.inl hL)))))))
          obtain ⟨s, es, _⟩ := R.E1 (hD 7 (by kernel_rfl)) h17
          obtain ⟨t, et, _⟩ := R.M1 (hD 14 (by kernel_rfl)) h17
          obtain ⟨s0, s1, s2⟩ := s
          obtain ⟨t0, t1, t2⟩ := t
          simp only [sv] at es et
          subst es et
          refine op_at rfl (fun K hK => ?_)
          go_simp
          refine hK _ _ ?_
          exact ⟨_, _, _, _, _, _, _, _, _, _, _, _, _, _, _, _, _, _, _, rfl, ⟨R.low, R.s3, R.E0, R.E1, R.M0, R.M1, R.P16, R.fin, R.d7, R.d14, (fun _ => ⟨hD 7 (by kernel_rfl), hD 14 (by kernel_rfl)⟩), (fun _ => rfl), R.d17, R.d18, R.k0, R.k2, R.k3, R.k4, R.k5, R.k6, R.k9, R.k10, R.k11, R.k12, R.k13, (fun _ => rfl), R.k18⟩⟩
        · skip
          have h17 := R.behind (.inr (.inr (.inr (.inr (.inr (.inr (.inr hL)))))))
          have e15 := R.k15 (hD 15 (by kernel_rfl))
          have d15 := R.d15 (hD 15 (by kernel_rfl))
          obtain ⟨s, es, _⟩ := R.E1 d15.1 h17
          obtain ⟨t, et, _⟩ := R.M1 d15.2 h17
          obtain ⟨s0, s1, s2⟩ := s
          obtain ⟨t0, t1, t2⟩ := t
          simp only [sv] at es et
          subst es et e15
          have R := R.kept h17 ((Below.refl W.heap.size W).alloc (Nat.le_refl _) (.cells #[.slice s0 s1 s2, .slice t0 t1 t2] 43))
          refine op_at rfl (fun K hK => ?_)
          go_simp
          refine hK _ _ ?_
          exact ⟨_, _, _, _, _, _, _, _, _, _, _, _, _, _, _, _, _, _, _, rfl, ⟨R.low, R.s3, R.E0, R.E1, R.M0, R.M1, (fun _ _ => ⟨W.heap.size, (s0, s1, s2), (t0, t1, t2), rfl, rfl, rfl, rd_two W s0 t0 s1 s2 t1 t2⟩), R.fin, R.d7, R.d14, R.d15, (fun _ => hD 15 (by kernel_rfl)), (fun q => ⟨(R.d17 q).1, rfl, (R.d17 q).2.2⟩), R.d18, R.k0, R.k2, R.k3, R.k4, R.k5, R.k6, R.k9, R.k10, R.k11, R.k12, R.k13, R.k15, R.k18⟩⟩
        · skip
          have kb := R.low hL
          have e0 := R.k0 (hD 0 (by kernel_rfl))
          subst e0
          obtain ⟨g, s, t, e28, e19, e26, rg⟩ := R.P16 (hD 16 (by kernel_rfl)) hL
          have d15 := R.d15 (R.d16 (hD 16 (by kernel_rfl)))
          obtain ⟨s', es', oE⟩ := R.E1 d15.1 hL
          obtain ⟨t', et', oM⟩ := R.M1 d15.2 hL
          rw [es'] at e19
          rw [et'] at e26
          rw [sv_inj e19] at oE
          rw [sv_inj e26] at oM
          subst e28
          have hO := HOC.out.kept kb
          refine op_at rfl (fun K hK => ?_)
          refine Vv.step_append rfl (.tmp 12) (.tmp 28) rfl w.heap.size (.slice (some ⟨go, 0, none⟩) mm co) C [(s, t)] (by simp [Act.eval]) hO.row ⟨g, 0, none⟩ 1 1 rfl (by simp [Act.eval]) rg.cells (by have := hO.len; have := HMM.out; have := HMI.out; simp; omega) (Nat.le_trans HBx.out.size kb.size) ?_
          intro v' W' o' gr _
          have hM := hO.more o' gr oE oM (Nat.le_refl _)
          have kl : Below w.heap.size W0 W' := (kb.mono HBx.out.size).trans (Vv.grown_below hO.row gr (Nat.le_refl _) (Nat.le_trans HBx.out.size kb.size))
          refine hK _ _ ?_
          have h18 : Lb 18 = false := by
            cases q : Lb 18 with
            | false => rfl
            | true => have z := R.d18 q; rw [hL] at z; cases z
          exact ⟨_, _, _, _, _, _, _, _, _, _, _, _, _, _, _, _, _, _, _, rfl, ⟨(fun q => by cases q), R.s3, (fun _ q => by have q2 : Lb 7 = false := q; rw [d15.1] at q2; cases q2), (fun _ q => by cases q), (fun _ q => by have q2 : Lb 14 = false := q; rw [d15.2] at q2; cases q2), (fun _ q => by cases q), (fun _ q => by cases q), (fun _ => ⟨_, hM, kl⟩), R.d7, R.d14, R.d15, R.d16, (fun _ => ⟨hD 0 (by kernel_rfl), hD 16 (by kernel_rfl), hD 14 (by kernel_rfl)⟩), (fun _ => rfl), R.k0, R.k2, R.k3, R.k4, R.k5, R.k6, R.k9, R.k10, R.k11, R.k12, R.k13, R.k15, (fun q => by have q2 : Lb 18 = true := q; rw [h18] at q2; cases q2)⟩⟩
        · skip
          refine op_at rfl (fun K hK => ?_)
          go_simp
          refine hK _ _ ?_
          exact ⟨_, _, _, _, _, _, _, _, _, _, _, _, _, _, _, _, _, _, _, rfl, ⟨R.low, (fun q => by cases q), R.E0, R.E1, R.M0, R.M1, R.P16, R.fin, R.d7, R.d14, R.d15, R.d16, R.d17, (fun _ => hD 17 (by kernel_rfl)), R.k0, R.k2, R.k3, R.k4, R.k5, R.k6, R.k9, R.k10, R.k11, R.k12, R.k13, R.k15, (fun _ => rfl)⟩⟩
      case refine_2 =>
        intro Lb a' W hI hall
        obtain ⟨u3, u12, u13, u14, u15, u16, u17, u18, u19, u20, u21, u22, u23, u24, u25, u26, u27, u28, u29, rfl, R⟩ := hI
        obtain ⟨C', hF, hLo⟩ := R.fin (hall 17)
        have e18 := R.k18 (hall 18)
        subst e18
        clear R hall
        have hlen : (M ++ [rat L i]).length = mm + 1 := by rw [List.length_append, HMM.out]; rfl
        have hOw : Own W w.heap.size W.heap.size _ (M ++ [rat L i]) := ⟨C', hF⟩
        obtain ⟨za, zc, ez, _, _, hzn⟩ := hOw.formN hlen
        subst ez
        obtain ⟨zg, zo, ez⟩ := hOw.rd.addr (by rw [hlen]; omega)
        subst ez
        have hz0 : zo = 0 := by
          obtain ⟨a', c', e', _, _, _, _, hs⟩ := hF.row.form
          obtain ⟨g', eg, _⟩ := hs _ (Value.slice.inj e').1.symm
          cases eg
          rfl
        subst hz0
        have HOw := hidIt hOw
        have HLo := hidIt (HBx.out.trans hLo)
        clear hOw hF hLo
        go_wp2_with (fail)
        exact ⟨⟨i + 1, zg, mm + 1, zc, M ++ [rat L i], by simp, rfl, by omega, hidIt hlen, hidIt (by have := HMI.out; omega), hidIt (by rw [HTK.out, HME.out]), HOw, HLo⟩, by simp [intOf]; omega⟩
    · have hin' : ¬ (i : Int) < (m : Int) := by omega
      have hmi := HMI.out
      subst hmi
      obtain rfl : mm = m := by omega
      have eM : M = L := by rw [HME.out, ← HN.out, List.take_length]
      subst eM
      go_wp2_with (fail)
      go_ret
      exact LstP.of rfl HO.out HBx.out
end Go.Proofs.Ytkkbccppfppalaa.Rp
namespace Go.Proofs.Ytkkbccppfppalaa.Rp
open Go.ChangeShapes Go.WideShapes Go.ChangeAt Go.RowKit
open Go.Proofs.Ytkkbccppfppalaa.Vv (Sl sv hidIt)
set_option linter.unusedVariables false
def svals (S : Nat → Sl) (n : Nat) : List Value := (List.range n).map (fun i => sv (S i))
theorem svals_len (S : Nat → Sl) (n : Nat) : (svals S n).length = n := by simp [svals]
theorem svals_at {S : Nat → Sl} {n i : Nat} (h : i < n) : (svals S n)[i]? = some (sv (S i)) := by simp [svals, h]
theorem svals_push (S : Nat → Sl) (n : Nat) (s : Sl) : svals (Hq.upd S n s) (n + 1) = svals S n ++ [sv s] := by
  unfold svals
  rw [List.range_succ, List.map_append]
  congr 1
  · refine List.map_congr_left (fun i hi => ?_)
    rw [Hq.upd_ne (by have := List.mem_range.1 hi; omega)]
  · simp [Hq.upd_at]
/-- The books that have been gathered. -/
def KtS (w wx : World) (L : List Rep) (i : Nat) (v : Value) : Prop := ∃ S : Nat → Sl, wx.ownsRow w.heap.size 40 1 v i (svals S i) ∧ (∀ j, j < i → RdE w (S j) (rat L j).1) ∧ Below w.heap.size w wx
/-- Just the Keys that the books have. -/
theorem keys_len {L : List Rep} {n : Nat} {x : Nat → En.Rt} {J : List En.Rw} (hT : Tame L) (r : En.Ra (fun i => (rat L i).1) L.length n x) (hJ : Bk.Ris (En.toB J)) (hk : ∀ k, (∃ i, i < n ∧ ∃ e ∈ En.toB (x i).L, e.key = k) ↔ ∃ e ∈ En.toB J, e.key = k) : J.length = (Bk.whole (bks L)).length := by
  have h1 := Bk.same_len hJ (Bk.whole_ris hT.bris) (fun k => by
    rw [← hk k, Bk.whole_keys hT.bris]
    constructor
    · rintro ⟨i, hi, e, he, q⟩
      obtain ⟨j, hj, ej⟩ := r.from' i hi
      rw [ej] at he
      exact ⟨_, List.mem_map.2 ⟨rat L j, rat_mem hj, rfl⟩, e, he, q⟩
    · rintro ⟨b, hb, e, he, q⟩
      obtain ⟨y, hy, rfl⟩ := List.mem_map.1 hb
      obtain ⟨j, hj, rfl⟩ := List.mem_iff_getElem.1 hy
      rw [← rat_at hj] at he
      obtain ⟨i, hi, ei⟩ := r.to' j hj (by intro z; rw [z] at he; simp at he)
      exact ⟨i, hi, e, by rw [ei]; exact he, q⟩)
  rw [En.toB_length] at h1
  exact h1
theorem tot_tame {L : List Rep} (hT : Tame L) : Hq.tot List.length (fun i => (rat L i).1) L.length ≤ 480 := by
  have := Hq.tot_le List.length (x := fun i => (rat L i).1) (m := 80) (n := L.length) (fun i hi => hT.bl i hi)
  have := hT.n
  omega
set_option maxRecDepth 100000 in
set_option maxHeartbeats 4000000 in
theorem impl_keysTogether (a : Option Addr) (cap : Nat) (L : List Rep) (w : World) (h : Rd w a L) (hT : Tame L) (h1 : 1 ≤ L.length) :
    Calls Try.prog 26 #[.slice a L.length cap] w fun e w' => e = .returned (.int .i64 ((Bk.whole (bks L)).length : Int)) ∧ Below w.heap.size w w' := by
  obtain ⟨i0, hi0, hz0, hz1, hz2⟩ := info_parts En.infoSl
  have HR := hidIt h
  have hm6 := hT.n
  have HFin : Hid (∀ W c q (S : Nat → Sl), W.ownsRow w.heap.size 40 1 (.slice (some ⟨q, 0, none⟩) L.length c) L.length (svals S L.length) → (∀ j, j < L.length → RdE W (S j) (rat L j).1) → Calls Try.prog 51 #[.slice (some ⟨q, 0, none⟩) L.length c] W fun e w' => e = .returned (.pointer (some ⟨W.heap.size + 1, 0, none⟩)) ∧ En.RoS W w' (fun i => (rat L i).1) L.length) := hidIt (fun W c q S ho hr => En.impl_restsOfN (S := S) ⟨fun i hi => by rw [World.ownsRow.cellAt ho i (by omega)]; exact svals_at hi, fun i hi => (hr i hi).len, fun i hi => (hr i hi).rd, fun i hi => (hr i hi).le⟩ (by omega) (World.ownsRow.lt ho q rfl).2)
  have HNew : Hid (∀ W W', En.RoS W W' (fun i => (rat L i).1) L.length → Calls Try.prog 50 #[.pointer (some ⟨W.heap.size + 1, 0, none⟩)] W' fun e w' => (∃ za zc, e = .returned (.slice za (Bk.whole (bks L)).length zc)) ∧ Below W.heap.size W w') := hidIt (fun W W' hr => by
    obtain ⟨n, x, ⟨g, cp, s⟩, ok, r, b⟩ := hr
    have hris : ∀ i, i < n → Bk.Ris (En.toB (x i).L) := fun i hi => by
      obtain ⟨j, hj, ej⟩ := r.from' i hi
      rw [ej]
      exact hT.br j hj
    have htot : Hq.tot List.length (fun i => En.toB (x i).L) n ≤ 480 := by
      have e1 := En.tot_map List.length (fun q : En.Rt => En.toB q.L) x n
      rw [e1]
      simp only [En.toB_length]
      rw [r.sum]
      exact tot_tame hT
    refine (En.impl_newestN s ok (by have := r.le; omega) hris htot (by omega)).mono ?_
    rintro e w2 ⟨v, J, rfl, o, rJ, kJ, _, k2⟩
    obtain ⟨za, zc, ez, _⟩ := o.form
    rw [keys_len hT r rJ kJ] at ez
    exact ⟨⟨za, zc, by rw [ez]⟩, b.trans k2⟩)
  generalize ((Bk.whole (bks L)).length) = ans at HNew ⊢
  clear h hT
  generalize hn : L.length = m at *
  have HN := hidIt hn
  clear hn
  go_enter Try.func26, Try.ntmps26
  go_wp2_with (fail)
  go_loopw [3, 9] (fun v y wx => ∃ (i : Nat) (va : Option Addr) (vn vc : Nat), y = .int .i64 i ∧ v = .slice va vn vc ∧ i ≤ m ∧ Hid (KtS w wx L i (.slice va vn vc))) (fun _ y _ => (m - intOf y).toNat)
  case atStart => exact ⟨0, _, _, _, rfl, rfl, by omega, hidIt ⟨fun _ => (none, 0, 0), World.ownsRow_made w #[] 0 (Nat.le_refl _) (by decide) rfl, fun j hj => absurd hj (by omega), (Below.refl _ w).alloc (Nat.le_refl _) _⟩⟩
  case round =>
    obtain ⟨i, va, vn, vc, rfl, rfl, hi, HS⟩ := hrel
    by_cases hin : i < m
    · have hin' : (i : Int) < (m : Int) := by omega
      have hiL : i < L.length := by rw [HN.out]; exact hin
      obtain ⟨S, ho, hr, hb⟩ := HS.out
      obtain ⟨b, off, p, q, ea, c0', c1', rE, rM⟩ := HR.out.one (i := i) hiL
      subst ea
      have hbw : b < w.heap.size := World.block_lt_of_cell? _ _ c0'
      have c0 := (hb.cell (p := ⟨b, off + i * 2, none⟩) hbw).trans c0'
      have c1 := (hb.cell (p := ⟨b, off + i * 2 + 1, none⟩) hbw).trans c1'
      have hbr : b < wr.heap.size := Nat.lt_of_lt_of_le hbw hb.size
      clear c0' c1'
      have HO := hidIt ho
      have HRr := hidIt hr
      have HB := hidIt hb
      have HE := hidIt rE
      obtain ⟨p0, p1, p2⟩ := p
      obtain ⟨q0, q1, q2⟩ := q
      simp only [sv] at c0 c1
      clear HS ho hr hb rE rM
      have HA1 := hidIt (((Below.refl wr.heap.size wr).alloc (Nat.le_refl _) (.cells #[.slice p0 p1 p2, .slice q0 q1 q2] 43)).alloc (by simp) (.cells #[.slice p0 p1 p2] 40))
      have HOw : Hid (((wr.alloc (.cells #[.slice p0 p1 p2, .slice q0 q1 q2] 43)).alloc (.cells #[.slice p0 p1 p2] 40)).ownsRow w.heap.size 40 1 (.slice va vn vc) i (svals S i)) := hidIt (World.ownsRow.alloc (World.ownsRow.alloc HO.out _) _)
      go_wp2_with (first | (at_builtin; refine wpList_append_own _ rfl _ _ 68 rfl w.heap.size 40 i0 (.slice none 0 0) 1 24 Try.underlying68 hi0 hz0 hz1 hz2 rfl (by decide) _ _ _ rfl HOw.out ⟨wr.heap.size + 1, 0, none⟩ 1 1 [.slice p0 p1 p2] rfl rfl ?f1 ?f2 ?f3 ?f4 ?f5 ?_))
      case f1 => intro j u hj; match j, hj with | 0, hj => simp at hj; subst hj; simp [Addr.add]
      case f2 => intro u hu; simp at hu; subst hu; rfl
      case f3 => unfold maxLen; omega
      case f4 => omega
      case f5 => have := HB.out.size; simp; omega
      intro v' w9 hown hgrow _
      have HS9 : Hid (KtS w w9 L (i + 1) v') := hidIt (by
        have hsz := HB.out.size
        have k9 : Below w.heap.size wr w9 := (HA1.out.mono hsz).grown hgrow (by simp; omega) (fun k hk => (World.ownsRow.lt HO.out k hk).1)
        refine ⟨Hq.upd S i (p0, p1, p2), by rw [svals_push]; exact hown, fun j hj => ?_, HB.out.trans k9⟩
        by_cases e : j = i
        · subst e
          rw [Hq.upd_at]
          exact HE.out
        · rw [Hq.upd_ne e]
          exact HRr.out j (by omega))
      obtain ⟨za, zn, zc, ez⟩ : ∃ a n c, v' = .slice a n c := by
        rcases hown.2 with ⟨e, _⟩ | ⟨g, cap, cur, e, _⟩
        · exact ⟨_, _, _, e⟩
        · exact ⟨_, _, _, e⟩
      subst ez
      clear hown hgrow
      go_wp2_with (fail)
      exact ⟨⟨i + 1, za, zn, zc, by first | rfl | simp, rfl, by omega, HS9⟩, by simp [intOf]; omega⟩
    · obtain rfl : i = m := by omega
      obtain ⟨S, ho, hr, hb⟩ := HS.out
      obtain ⟨q, c, es⟩ : ∃ q c, Value.slice va vn vc = .slice (some ⟨q, 0, none⟩) i c := by
        rcases ho.2 with ⟨_, e⟩ | ⟨g, cap, cur, e, _⟩
        · omega
        · exact ⟨_, _, e⟩
      cases es
      have HC := hidIt (HFin.out _ _ q S ho (fun j hj => (hr j hj).kept hb))
      have HB := hidIt hb
      clear ho hr hb HS
      go_wp2_with (fail)
      refine HC.out.mono ?_
      rintro e w2 ⟨rfl, r2⟩
      have HC2 := hidIt (HNew.out _ _ r2)
      clear r2
      go_wp2_with (fail)
      refine HC2.out.mono ?_
      rintro e w3 ⟨⟨za, zc, rfl⟩, k3⟩
      have HB3 := hidIt (on HB.out k3)
      clear k3
      go_wp2_with (fail)
      go_ret
      exact ⟨rfl, HB3.out⟩
set_option maxRecDepth 100000 in
set_option maxHeartbeats 4000000 in
theorem impl_replicaOk (s t : Sl) (r : Rep) (w : World) (hE : RdE w s r.1) (hM : RdM w t r.2) (hs : En.shortR r.1) (h1 : r.1.length ≤ 9223372036854775807) (h2 : r.2.length ≤ 9223372036854775807) :
    Calls Try.prog 25 #[.agg #[sv s, sv t]] w fun e w' => e = .returned (.bool (okR r)) ∧ Below w.heap.size w w' := by
  obtain ⟨s0, s1, s2⟩ := s
  obtain ⟨t0, t1, t2⟩ := t
  obtain ⟨e1, r1, _, _, _⟩ := hE
  obtain ⟨e2, r2, _, _, _⟩ := hM
  simp only at e1 r1 e2 r2
  have C1 := hidIt (fun W (k : En.Rd W s0 r.1) => En.impl_BookOk s0 s2 r.1 W k h1 hs)
  have C2 := hidIt (fun W (k : Mm.Rd W t0 r.2) => Mm.impl_MembersOk t0 t2 r.2 W k h2)
  rw [← e1] at C1
  rw [← e2] at C2
  have HOK : Hid (okR r = (Bk.okBk (En.toB r.1) && Mk.okBk (Mm.toB r.2))) := hidIt rfl
  generalize Bk.okBk (En.toB r.1) = k1 at C1 HOK
  generalize Mk.okBk (Mm.toB r.2) = k2 at C2 HOK
  generalize okR r = k at HOK ⊢
  have HB := hidIt ((Below.refl w.heap.size w).alloc (Nat.le_refl _) (.cells #[.slice s0 s1 s2, .slice t0 t1 t2] 43))
  have H1 := hidIt (r1.kept HB.out)
  have H2 := hidIt (r2.kept HB.out)
  have BX := hidIt (Bo.Box.new w #[.slice s0 s1 s2, .slice t0 t1 t2] 43)
  clear r1 r2 e1 e2 hs
  simp only [sv]
  cases k1 with
  | false =>
    have er := HOK.out
    simp only [Bool.false_and] at er
    subst er
    go_enter Try.func25, Try.ntmps25
    go_wp2_with (fail)
    refine (C1.out _ H1.out).mono ?_
    rintro e w1 ⟨rfl, k⟩
    have HB1 := hidIt (on HB.out k)
    clear k
    go_wp2_with (fail)
    go_ret
    exact ⟨rfl, HB1.out⟩
  | true =>
    have er := HOK.out
    simp only [Bool.true_and] at er
    subst er
    go_enter Try.func25, Try.ntmps25
    go_wp2_with (fail)
    refine (C1.out _ H1.out).mono ?_
    rintro e w1 ⟨rfl, k1⟩
    have HB1 := hidIt (on HB.out k1)
    have BX1 := hidIt (BX.out.kept k1)
    have c1 := BX1.out.c 1 rfl
    have H3 := hidIt (H2.out.kept k1)
    clear k1
    go_wp2_with (fail)
    refine (C2.out _ H3.out).mono ?_
    rintro e w2 ⟨rfl, k2⟩
    have HB2 := hidIt (on HB1.out k2)
    clear k2
    go_wp2_with (fail)
    go_ret
    exact ⟨rfl, HB2.out⟩
set_option maxRecDepth 100000 in
set_option maxHeartbeats 8000000 in
theorem impl_GroupOk (a : Option Addr) (cap : Nat) (L : List Rep) (w : World) (h : Rd w a L) (hs : Short L) (hl : L.length ≤ 9223372036854775807) (hlb : ∀ i, i < L.length → (rat L i).1.length ≤ 9223372036854775807 ∧ (rat L i).2.length ≤ 9223372036854775807) :
    Calls Try.prog 10 #[.slice a L.length cap] w fun e w' => e = .returned (.bool (okG L)) ∧ Below w.heap.size w w' := by
  have N1 : Hid (¬ 1 ≤ L.length → okG L = false) := hidIt (fun q => by cases e : okG L with | false => rfl | true => exact absurd (okG_all e).1 q)
  have N2 : Hid (¬ L.length ≤ 6 → okG L = false) := hidIt (fun q => by cases e : okG L with | false => rfl | true => exact absurd (okG_all e).2.1 q)
  have N3 : Hid (∀ i, i < L.length → okR (rat L i) = false → okG L = false) := hidIt (fun i hi q => by cases e : okG L with | false => rfl | true => exact absurd ((okG_all e).2.2.1 i hi) (by rw [q]; decide))
  have N4 : Hid (1 ≤ L.length → L.length ≤ 6 → (∀ i, i < L.length → okR (rat L i) = true) → okG L = decide ((Bk.whole (bks L)).length ≤ 80)) := hidIt (fun h1 h2 h3 => by
    by_cases q : (Bk.whole (bks L)).length ≤ 80
    · rw [okG_mk h1 h2 h3 q, decide_eq_true q]
    · rw [decide_eq_false q]
      cases e : okG L with
      | false => rfl
      | true => exact absurd (okG_all e).2.2.2 q)
  have CW := hidIt (fun W (r : Rd W a L) (t : Tame L) h1 => impl_keysTogether a cap L W r t h1)
  have HTM := hidIt (fun h2 h3 => tame_of (L := L) h2 h3)
  have CR := hidIt (fun W s t i (hi : i < L.length) (hE : RdE W s (rat L i).1) (hM : RdM W t (rat L i).2) => impl_replicaOk s t (rat L i) W hE hM (hs i hi) (hlb i hi).1 (hlb i hi).2)
  have HR := hidIt h
  clear h hs hlb
  generalize okG L = r at N1 N2 N3 N4 ⊢
  generalize (Bk.whole (bks L)).length = ans at CW N4
  generalize hn : L.length = m at *
  have HN := hidIt hn
  clear hn
  by_cases h1 : 1 ≤ m
  · by_cases h6 : m ≤ 6
    · have g1 : ¬ (m : Int) < 1 := by omega
      have g1' : decide ((m : Int) < 1) = false := decide_eq_false g1
      have g2 : decide ((6 : Int) < (m : Int)) = false := decide_eq_false (by omega)
      go_enter Try.func10, Try.ntmps10
      go_wp2_with (fail)
      go_loopw [15] (fun y wx => ∃ i : Nat, y = .int .i64 i ∧ i ≤ m ∧ Hid (∀ j, j < i → okR (rat L j) = true) ∧ Hid (Below w.heap.size w wx)) (fun y _ => (m - intOf y).toNat)
      case atStart => exact ⟨0, rfl, by omega, hidIt (fun j hj => by omega), hidIt (Below.refl _ _)⟩
      case round =>
        obtain ⟨i, rfl, hi, HO, HB⟩ := hrel
        by_cases hin : i < m
        · have hin' : (i : Int) < (m : Int) := by omega
          have hiL : i < L.length := by rw [HN.out]; exact hin
          obtain ⟨b, off, p, q, ea, c0, c1, rE, rM⟩ := (HR.out.kept HB.out).one (i := i) hiL
          subst ea
          have hbw : b < wr.heap.size := World.block_lt_of_cell? _ _ c0
          have HA := hidIt ((Below.refl wr.heap.size wr).alloc (Nat.le_refl _) (.cells #[sv p, sv q] 43))
          have C1 := hidIt (CR.out _ p q i hin (rE.kept HA.out) (rM.kept HA.out))
          obtain ⟨k, HOK⟩ : ∃ k, Hid (okR (rat L i) = k) := ⟨_, hidIt rfl⟩
          rw [HOK.out] at C1
          obtain ⟨p0, p1, p2⟩ := p
          obtain ⟨q0, q1, q2⟩ := q
          simp only [sv] at c0 c1 C1 HA
          clear rE rM
          cases k with
          | false =>
            have er := N3.out i hin HOK.out
            subst er
            go_wp2_with (fail)
            refine C1.out.mono ?_
            rintro e w1 ⟨rfl, k⟩
            have HB1 := hidIt (on (on HB.out HA.out) k)
            clear k
            go_wp2_with (fail)
            go_ret
            exact ⟨rfl, HB1.out⟩
          | true =>
            go_wp2_with (fail)
            refine C1.out.mono ?_
            rintro e w1 ⟨rfl, k⟩
            have HB1 := hidIt (on (on HB.out HA.out) k)
            clear k
            go_wp2_with (fail)
            refine ⟨⟨i + 1, by simp, by omega, hidIt (fun j hj => ?_), HB1⟩, by simp [intOf]; omega⟩
            rcases Nat.lt_succ_iff_lt_or_eq.1 hj with q | q
            · exact HO.out j q
            · subst q; exact HOK.out
        · have hin' : ¬ (i : Int) < (m : Int) := by omega
          obtain rfl : i = m := by omega
          have er := N4.out h1 h6 HO.out
          have HT := hidIt (HTM.out h6 HO.out)
          go_wp2_with (fail)
          refine (CW.out _ (HR.out.kept HB.out) HT.out h1).mono ?_
          rintro e w1 ⟨rfl, k⟩
          have HB1 := hidIt (on HB.out k)
          clear k
          subst er
          have hd : decide ((ans : Int) ≤ 80) = decide (ans ≤ 80) := decide_eq_decide.2 (by omega)
          go_wp2_with (fail)
          go_ret
          first | exact ⟨rfl, HB1.out⟩ | exact ⟨by rw [hd], HB1.out⟩
    · have g1' : decide ((m : Int) < 1) = false := decide_eq_false (by omega)
      have g2 : decide ((6 : Int) < (m : Int)) = true := decide_eq_true (by omega)
      have er := N2.out h6
      subst er
      go_enter Try.func10, Try.ntmps10
      go_wp2
      go_ret
      exact ⟨rfl, Below.refl _ _⟩
  · have g1' : decide ((m : Int) < 1) = true := decide_eq_true (by omega)
    have er := N1.out h1
    subst er
    go_enter Try.func10, Try.ntmps10
    go_wp2
    go_ret
    exact ⟨rfl, Below.refl _ _⟩
end Go.Proofs.Ytkkbccppfppalaa.Rp
namespace Go.Proofs.Ytkkbccppfppalaa.Rp
open Go.ChangeShapes Go.WideShapes Go.ChangeAt Go.RowKit
open Go.Proofs.Ytkkbccppfppalaa.Vv (Sl sv hidIt)
open Go.Proofs.Ytkkbccppfppalaa.Rg (upd waits wp_region_inv op_at)
set_option linter.unusedVariables false
/-- What the last append leaves. -/
def FinI (d p1 p2 q1 q2 N lo : Nat) (pa qa : Option Addr) (vo : Value) (C : List Vv.Rw) (M : List Rep) (r : Rep) (w0 : World) (W : World) (v : Value) : Prop := ∃ C', OwnC W lo W.heap.size v C' (M ++ [r]) ∧ Below lo w0 W
structure RKi (d p1 p2 q1 q2 N lo : Nat) (pa qa : Option Addr) (vo : Value) (C : List Vv.Rw) (M : List Rep) (r : Rep) (w0 : World) (L : Nat → Bool) (u3 u13 u14 u15 u16 u17 u18 u19 u20 u21 u22 u23 : Value) (W : World) : Prop where
  low : L 10 = false → Below w0.heap.size w0 W
  s3 : L 11 = false → u3 = vo
  E0 : L 1 = true → L 4 = false → ∃ g, u14 = .slice (some ⟨g, 0, none⟩) 0 0 ∧ En.Own W N (.slice (some ⟨g, 0, none⟩) 0 0) []
  E1 : L 4 = true → L 10 = false → ∃ s : Sl, u17 = sv s ∧ En.Own W N (sv s) r.1
  M1 : L 7 = true → L 10 = false → ∃ s : Sl, u20 = sv s ∧ Mm.Own W N (sv s) r.2
  P9 : L 9 = true → L 10 = false → ∃ (g : Nat) (s t : Sl), u22 = .slice (some ⟨g, 0, none⟩) 1 1 ∧ u17 = sv s ∧ u20 = sv t ∧ Vv.Rd W (some ⟨g, 0, none⟩) [(s, t)]
  fin : L 10 = true → FinI d p1 p2 q1 q2 N lo pa qa vo C M r w0 W u23
  d4 : L 4 = true → L 1 = true ∧ L 3 = true
  d7 : L 7 = true → L 6 = true ∧ L 4 = true
  d8 : L 8 = true → L 4 = true ∧ L 7 = true
  d9 : L 9 = true → L 8 = true
  d10 : L 10 = true → L 0 = true ∧ L 9 = true ∧ L 7 = true
  d11 : L 11 = true → L 10 = true
  k0 : L 0 = true → u13 = vo
  k2 : L 2 = true → u15 = .pointer (some ⟨d, 0, none⟩)
  k3 : L 3 = true → u16 = .slice pa p1 p2
  k5 : L 5 = true → u18 = .pointer (some ⟨d, 1, none⟩)
  k6 : L 6 = true → u19 = .slice qa q1 q2
  k8 : L 8 = true → u21 = .agg #[u17, u20]
  k11 : L 11 = true → u3 = u23
def KKi (d p1 p2 q1 q2 N lo : Nat) (pa qa : Option Addr) (vo : Value) (C : List Vv.Rw) (M : List Rep) (r : Rep) (w0 : World) (y0 y1 y2 y4 y5 y6 y7 y8 y9 y10 y11 y12 y24 y25 : Value) (L : Nat → Bool) (a : Act) (W : World) : Prop := ∃ u3 u13 u14 u15 u16 u17 u18 u19 u20 u21 u22 u23 : Value, a = ⟨(y0 :: y1 :: y2 :: u3 :: y4 :: y5 :: y6 :: y7 :: y8 :: y9 :: y10 :: y11 :: y12 :: u13 :: u14 :: u15 :: u16 :: u17 :: u18 :: u19 :: u20 :: u21 :: u22 :: u23 :: y24 :: y25 :: []).toArray, []⟩ ∧ RKi d p1 p2 q1 q2 N lo pa qa vo C M r w0 L u3 u13 u14 u15 u16 u17 u18 u19 u20 u21 u22 u23 W
theorem RKi.kept {d p1 p2 q1 q2 N lo : Nat} {pa qa : Option Addr} {vo : Value} {C : List Vv.Rw} {M : List Rep} {r : Rep} {w0 : World} {L : Nat → Bool} {u3 u13 u14 u15 u16 u17 u18 u19 u20 u21 u22 u23 : Value} {W W' : World} (R : RKi d p1 p2 q1 q2 N lo pa qa vo C M r w0 L u3 u13 u14 u15 u16 u17 u18 u19 u20 u21 u22 u23 W) (h10 : L 10 = false) (k : Below W.heap.size W W') : RKi d p1 p2 q1 q2 N lo pa qa vo C M r w0 L u3 u13 u14 u15 u16 u17 u18 u19 u20 u21 u22 u23 W' :=
  ⟨(fun _ => on (R.low h10) k), R.s3, (fun a b => by obtain ⟨g, e, o⟩ := R.E0 a b; exact ⟨g, e, o.kept k⟩), (fun a b => by obtain ⟨s, e, o⟩ := R.E1 a b; exact ⟨s, e, o.kept k⟩), (fun a b => by obtain ⟨s, e, o⟩ := R.M1 a b; exact ⟨s, e, o.kept k⟩), (fun a b => by obtain ⟨g, s, t, e1, e2, e3, o⟩ := R.P9 a b; exact ⟨g, s, t, e1, e2, e3, o.kept k⟩), (fun q => by rw [h10] at q; cases q), R.d4, R.d7, R.d8, R.d9, R.d10, R.d11, R.k0, R.k2, R.k3, R.k5, R.k6, R.k8, R.k11⟩
/-- The last one comes behind all that turn memory. -/
theorem RKi.behind {d p1 p2 q1 q2 N lo : Nat} {pa qa : Option Addr} {vo : Value} {C : List Vv.Rw} {M : List Rep} {r : Rep} {w0 : World} {L : Nat → Bool} {u3 u13 u14 u15 u16 u17 u18 u19 u20 u21 u22 u23 : Value} {W : World} (R : RKi d p1 p2 q1 q2 N lo pa qa vo C M r w0 L u3 u13 u14 u15 u16 u17 u18 u19 u20 u21 u22 u23 W) (h : L 1 = false ∨ L 3 = false ∨ L 4 = false ∨ L 6 = false ∨ L 7 = false ∨ L 8 = false ∨ L 9 = false) : L 10 = false := by
  cases q : L 10 with
  | false => rfl
  | true =>
    have h10 := R.d10 q
    have h8 := R.d9 h10.2.1
    have h7 := R.d7 h10.2.2
    have h4 := R.d4 h7.2
    simp [h10.2.1, h10.2.2, h8, h7.1, h7.2, h4.1, h4.2] at h
set_option maxRecDepth 100000 in
set_option maxHeartbeats 32000000 in
theorem impl_copiedReplicas (a : Option Addr) (cap : Nat) (L : List Rep) (w : World) (h : Rd w a L) (hT : Tame L) :
    Calls Try.prog 30 #[.slice a L.length cap] w fun e w' => LstP w L e w' := by
  have HTT := hidIt hT
  have hm6 := hT.n
  have HR := hidIt h
  clear h hT
  generalize hn : L.length = m at *
  have HN := hidIt hn
  clear hn
  go_enter Try.func30, Try.ntmps30
  go_wp2_with (fail)
  go_loopw [3, 9] (fun z y wx => ∃ (i go mm co : Nat) (M : List Rep), y = .int .i64 i ∧ z = .slice (some ⟨go, 0, none⟩) mm co ∧ i ≤ m ∧ Hid (M.length = mm) ∧ Hid (mm = i) ∧ Hid (M = L.take i) ∧ Hid (Own wx w.heap.size wx.heap.size (.slice (some ⟨go, 0, none⟩) mm co) M) ∧ Hid (Below w.heap.size w wx)) (fun _ y _ => (m - intOf y).toNat)
  case atStart => exact ⟨0, w.heap.size, 0, 0, [], rfl, rfl, by omega, hidIt rfl, hidIt rfl, hidIt (by simp), hidIt (Own.new w).grow, hidIt ((Below.refl _ w).alloc (Nat.le_refl _) _)⟩
  case round =>
    obtain ⟨i, go, mm, co, M, rfl, rfl, hi, HMM, HMI, HME, HO, HBx⟩ := hrel
    by_cases hin : i < m
    · have hin' : (i : Int) < (m : Int) := by omega
      have hi0 : (0 : Int) ≤ (i : Int) := by omega
      have hiL : i < L.length := by rw [HN.out]; exact hin
      obtain ⟨b, off, p, q, ea, a0, a1, rE, rM⟩ := (HR.out.kept HBx.out).one (i := i) hiL
      subst ea
      have hb80 := HTT.out.bl i hiL
      have hm8 := HTT.out.ml i hiL
      have HTK := hidIt (take_rat hiL)
      obtain ⟨p0, p1, p2⟩ := p
      obtain ⟨q0, q1, q2⟩ := q
      have hbb : b < wr.heap.size := World.block_lt_of_cell? _ _ a0
      have kA := ((Below.refl wr.heap.size wr).alloc (Nat.le_refl _) (.cells #[.slice p0 p1 p2, .slice q0 q1 q2] 43)).drew
      have bxD := Bo.Box.new wr #[.slice p0 p1 p2, .slice q0 q1 q2] 43
      obtain ⟨e1, r1, n1, _, _⟩ := rE.kept kA
      obtain ⟨e2, r2, n2, l2, c2⟩ := rM.kept kA
      simp only at e1 r1 n1 e2 r2 n2 l2 c2
      simp only [sv] at a0 a1
      have hp1 := hidIt e1
      have np := hidIt n1
      have HE := hidIt r1
      obtain ⟨C, hC⟩ := (HO.out.kept kA).grow
      have HC0 := hidIt (fun W (k : Below (wr.alloc (.cells #[.slice p0 p1 p2, .slice q0 q1 q2] 43)).drew.heap.size (wr.alloc (.cells #[.slice p0 p1 p2, .slice q0 q1 q2] 43)).drew W) => Mm.impl_copied q0 q2 (rat L i).2 W (r2.kept k) n2 (by omega))
      rw [← e2] at HC0
      have HOC0 : Hid (OwnC (wr.alloc (.cells #[.slice p0 p1 p2, .slice q0 q1 q2] 43)).drew w.heap.size (wr.alloc (.cells #[.slice p0 p1 p2, .slice q0 q1 q2] 43)).drew.heap.size (.slice (some ⟨go, 0, none⟩) mm co) C M) := hidIt hC
      have c0 : (wr.alloc (.cells #[.slice p0 p1 p2, .slice q0 q1 q2] 43)).drew.cell? ⟨wr.heap.size, 0, none⟩ = some (.slice p0 p1 p2) := bxD.c 0 rfl
      have c1 : (wr.alloc (.cells #[.slice p0 p1 p2, .slice q0 q1 q2] 43)).drew.cell? ⟨wr.heap.size, 1, none⟩ = some (.slice q0 q1 q2) := bxD.c 1 rfl
      have hbw : wr.heap.size < (wr.alloc (.cells #[.slice p0 p1 p2, .slice q0 q1 q2] 43)).drew.heap.size := bxD.lt
      replace HBx := hidIt (on HBx.out kA)
      clear kA bxD r1 r2 e1 e2 n1 n2 l2 c2 hC HO rE rM
      obtain ⟨W0, hW0⟩ : ∃ W0, W0 = (wr.alloc (.cells #[.slice p0 p1 p2, .slice q0 q1 q2] 43)).drew := ⟨_, rfl⟩
      rw [← hW0] at c0 c1 HE HC0 HOC0 HBx hbw
      have HC := HC0
      have HOC := HOC0
      clear HC0 HOC0
      go_wp2_with (fail)
      refine wp_region_inv (by kernel_rfl) (by kernel_rfl) (KKi wr.heap.size p1 p2 q1 q2 W0.heap.size w.heap.size p0 q0 (.slice (some ⟨go, 0, none⟩) mm co) C M (rat L i) W0 _ _ _ _ _ _ _ _ _ _ _ _ _ _) ⟨_, _, _, _, _, _, _, _, _, _, _, _, (by rw [← hW0]; exact ⟨rfl, ⟨(fun _ => (Below.refl _ _)), (fun _ => rfl), (fun q => by cases q), (fun q => by cases q), (fun q => by cases q), (fun q => by cases q), (fun q => by cases q), (fun q => by cases q), (fun q => by cases q), (fun q => by cases q), (fun q => by cases q), (fun q => by cases q), (fun q => by cases q), (fun q => by cases q), (fun q => by cases q), (fun q => by cases q), (fun q => by cases q), (fun q => by cases q), (fun q => by cases q), (fun q => by cases q)⟩⟩)⟩ ?_ ?_
      case refine_1 =>
        intro Lb a' W j hj hI hL hD
        have hcases : j = 0 ∨ j = 1 ∨ j = 2 ∨ j = 3 ∨ j = 4 ∨ j = 5 ∨ j = 6 ∨ j = 7 ∨ j = 8 ∨ j = 9 ∨ j = 10 ∨ j = 11 := by simp at hj; omega
        clear hj
        obtain ⟨u3, u13, u14, u15, u16, u17, u18, u19, u20, u21, u22, u23, rfl, R⟩ := hI
        rcases hcases with rfl | rfl | rfl | rfl | rfl | rfl | rfl | rfl | rfl | rfl | rfl | rfl
        · skip
          have h11 : Lb 11 = false := by
            cases q : Lb 11 with
            | false => rfl
            | true => have z := (R.d10 (R.d11 q)).1; rw [hL] at z; cases z
          have e3 := R.s3 h11
          subst e3
          refine op_at rfl (fun K hK => ?_)
          go_simp
          refine hK _ _ ?_
          exact ⟨_, _, _, _, _, _, _, _, _, _, _, _, rfl, ⟨R.low, R.s3, R.E0, R.E1, R.M1, R.P9, R.fin, R.d4, R.d7, R.d8, R.d9, (fun q => ⟨rfl, (R.d10 q).2.1, (R.d10 q).2.2⟩), R.d11, (fun _ => rfl), R.k2, R.k3, R.k5, R.k6, R.k8, R.k11⟩⟩
        · skip
          have h10 := R.behind (.inl hL)
          have kb := R.low h10
          have R := R.kept h10 ((Below.refl W.heap.size W).alloc (Nat.le_refl _) (.cells #[] 59))
          have n4 : Lb 4 = false := by
            cases q : Lb 4 with
            | false => rfl
            | true => have z := (R.d4 q).1; rw [hL] at z; cases z
          refine op_at rfl (fun K hK => ?_)
          go_simp
          refine hK _ _ ?_
          exact ⟨_, _, _, _, _, _, _, _, _, _, _, _, rfl, ⟨R.low, R.s3, (fun _ _ => ⟨W.heap.size, rfl, (En.Own.new W).mono kb.size⟩), R.E1, R.M1, R.P9, R.fin, (fun q => ⟨rfl, (R.d4 q).2⟩), R.d7, R.d8, R.d9, R.d10, R.d11, R.k0, R.k2, R.k3, R.k5, R.k6, R.k8, R.k11⟩⟩
        · skip
          refine op_at rfl (fun K hK => ?_)
          go_simp
          refine hK _ _ ?_
          exact ⟨_, _, _, _, _, _, _, _, _, _, _, _, rfl, ⟨R.low, R.s3, R.E0, R.E1, R.M1, R.P9, R.fin, R.d4, R.d7, R.d8, R.d9, R.d10, R.d11, R.k0, (fun _ => rfl), R.k3, R.k5, R.k6, R.k8, R.k11⟩⟩
        · skip
          have e2 := R.k2 (hD 2 (by kernel_rfl))
          subst e2
          have h10 := R.behind (.inr (.inl hL))
          have kb := R.low h10
          have cc : W.cell? ⟨wr.heap.size, 0, none⟩ = some (.slice p0 p1 p2) := by rw [kb.cell hbw]; exact c0
          refine op_at rfl (fun K hK => ?_)
          go_simp
          refine hK _ _ ?_
          exact ⟨_, _, _, _, _, _, _, _, _, _, _, _, rfl, ⟨R.low, R.s3, R.E0, R.E1, R.M1, R.P9, R.fin, (fun q => ⟨(R.d4 q).1, rfl⟩), R.d7, R.d8, R.d9, R.d10, R.d11, R.k0, R.k2, (fun _ => rfl), R.k5, R.k6, R.k8, R.k11⟩⟩
        · skip
          have h10 := R.behind (.inr (.inr (.inl hL)))
          have kb := R.low h10
          obtain ⟨g, eg, og⟩ := R.E0 (hD 1 (by kernel_rfl)) hL
          have es := R.k3 (hD 3 (by kernel_rfl))
          subst eg es
          have n7 : Lb 7 = false := by
            cases q : Lb 7 with
            | false => rfl
            | true => have z := (R.d7 q).2; rw [hL] at z; cases z
          have n8 : Lb 8 = false := by
            cases q : Lb 8 with
            | false => rfl
            | true => have z := (R.d8 q).1; rw [hL] at z; cases z
          have n9 : Lb 9 = false := by
            cases q : Lb 9 with
            | false => rfl
            | true => have z := R.d9 q; rw [n8] at z; cases z
          refine op_at rfl (fun K hK => ?_)
          have hpc : p0 = none ∨ ∃ x, p0 = some x := by cases p0 with | none => exact .inl rfl | some x => exact .inr ⟨x, rfl⟩
          rcases hpc with hpa | ⟨x, hpa⟩
          · have hnil : (rat L i).1 = [] := by have z := (HE.out.kept kb); rw [hpa] at z; exact z.none_nil
            have hz : p1 = 0 := by rw [hp1.out, hnil]; rfl
            have hz2 : p2 = 0 := np.out hpa
            refine En.step_append_none rfl (.tmp 14) (.tmp 16) rfl W0.heap.size (.slice (some ⟨g, 0, none⟩) 0 0) [] (by simp [Act.eval]) og (by simp [Act.eval, hz, hz2, hpa]) ?_
            refine hK _ _ ?_
            exact ⟨_, _, _, _, _, _, _, _, _, _, _, _, rfl, ⟨R.low, R.s3, (fun _ q => by cases q), (fun _ _ => ⟨(some ⟨g, 0, none⟩, 0, 0), rfl, by rw [hnil]; exact og⟩), (fun q => by have q2 : Lb 7 = true := q; exact absurd (n7.symm.trans q2) (by decide)), (fun q => by have q2 : Lb 9 = true := q; exact absurd (n9.symm.trans q2) (by decide)), (fun q => by have q2 : Lb 10 = true := q; rw [h10] at q2; cases q2), (fun _ => ⟨hD 1 (by kernel_rfl), hD 3 (by kernel_rfl)⟩), (fun q => ⟨(R.d7 q).1, rfl⟩), (fun q => ⟨rfl, (R.d8 q).2⟩), R.d9, R.d10, R.d11, R.k0, R.k2, R.k3, R.k5, R.k6, (fun q => by have q2 : Lb 8 = true := q; exact absurd (n8.symm.trans q2) (by decide)), R.k11⟩⟩
          · refine En.step_append rfl (.tmp 14) (.tmp 16) rfl W0.heap.size (.slice (some ⟨g, 0, none⟩) 0 0) [] (rat L i).1 (by simp [Act.eval]) og x p1 p2 hp1.out.symm (by simp [Act.eval, hpa]) (rd_cellsE (by have z := (HE.out.kept kb); rw [hpa] at z; exact z)) (by have := hp1.out; simp; omega) kb.size ?_
            intro v' W' o' gr _
            rw [List.nil_append] at o'
            obtain ⟨s, es'⟩ := slE o'
            subst es'
            have kb2 : Below W0.heap.size W0 W' := kb.trans (En.grown_below og gr (Nat.le_refl _) kb.size)
            refine hK _ _ ?_
            exact ⟨_, _, _, _, _, _, _, _, _, _, _, _, rfl, ⟨(fun _ => kb2), R.s3, (fun _ q => by cases q), (fun _ _ => ⟨s, rfl, o'⟩), (fun q => by have q2 : Lb 7 = true := q; exact absurd (n7.symm.trans q2) (by decide)), (fun q => by have q2 : Lb 9 = true := q; exact absurd (n9.symm.trans q2) (by decide)), (fun q => by have q2 : Lb 10 = true := q; rw [h10] at q2; cases q2), (fun _ => ⟨hD 1 (by kernel_rfl), hD 3 (by kernel_rfl)⟩), (fun q => ⟨(R.d7 q).1, rfl⟩), (fun q => ⟨rfl, (R.d8 q).2⟩), R.d9, R.d10, R.d11, R.k0, R.k2, R.k3, R.k5, R.k6, (fun q => by have q2 : Lb 8 = true := q; exact absurd (n8.symm.trans q2) (by decide)), R.k11⟩⟩
        · skip
          refine op_at rfl (fun K hK => ?_)
          go_simp
          refine hK _ _ ?_
          exact ⟨_, _, _, _, _, _, _, _, _, _, _, _, rfl, ⟨R.low, R.s3, R.E0, R.E1, R.M1, R.P9, R.fin, R.d4, R.d7, R.d8, R.d9, R.d10, R.d11, R.k0, R.k2, R.k3, (fun _ => rfl), R.k6, R.k8, R.k11⟩⟩
        · skip
          have e5 := R.k5 (hD 5 (by kernel_rfl))
          subst e5
          have h10 := R.behind (.inr (.inr (.inr (.inl hL))))
          have kb := R.low h10
          have cc : W.cell? ⟨wr.heap.size, 1, none⟩ = some (.slice q0 q1 q2) := by rw [kb.cell hbw]; exact c1
          refine op_at rfl (fun K hK => ?_)
          go_simp
          refine hK _ _ ?_
          exact ⟨_, _, _, _, _, _, _, _, _, _, _, _, rfl, ⟨R.low, R.s3, R.E0, R.E1, R.M1, R.P9, R.fin, R.d4, (fun q => ⟨rfl, (R.d7 q).2⟩), R.d8, R.d9, R.d10, R.d11, R.k0, R.k2, R.k3, R.k5, (fun _ => rfl), R.k8, R.k11⟩⟩
        · skip
          have h10 := R.behind (.inr (.inr (.inr (.inr (.inl hL)))))
          have kb := R.low h10
          have es := R.k6 (hD 6 (by kernel_rfl))
          subst es
          have n8 : Lb 8 = false := by
            cases q : Lb 8 with
            | false => rfl
            | true => have z := (R.d8 q).2; rw [hL] at z; cases z
          have n9 : Lb 9 = false := by
            cases q : Lb 9 with
            | false => rfl
            | true => have z := R.d9 q; rw [n8] at z; cases z
          refine op_at rfl (fun K hK => ?_)
          go_simp
          refine (HC.out W kb).mono ?_
          intro e W1 hz
          obtain ⟨g, c, rfl, _, _, o7, k7⟩ := hz.out
          have R := R.kept h10 k7
          go_simp
          refine hK _ _ ?_
          exact ⟨_, _, _, _, _, _, _, _, _, _, _, _, rfl, ⟨R.low, R.s3, R.E0, R.E1, (fun _ _ => ⟨(some ⟨g, 0, none⟩, q1, c), rfl, o7.mono kb.size⟩), (fun q => by have q2 : Lb 9 = true := q; exact absurd (n9.symm.trans q2) (by decide)), R.fin, R.d4, (fun _ => ⟨hD 6 (by kernel_rfl), hD 4 (by kernel_rfl)⟩), (fun q => ⟨(R.d8 q).1, rfl⟩), R.d9, (fun q => ⟨(R.d10 q).1, (R.d10 q).2.1, rfl⟩), R.d11, R.k0, R.k2, R.k3, R.k5, R.k6, (fun q => by have q2 : Lb 8 = true := q; exact absurd (n8.symm.trans q2) (by decide)), R.k11⟩⟩
        · skip
          have h10 := R.behind (.inr (.inr (.inr (.inr (.inr (.inl hL))))))
          have kb := R.low h10
          obtain ⟨s, es, _⟩ := R.E1 (hD 4 (by kernel_rfl)) h10
          obtain ⟨t, et, _⟩ := R.M1 (hD 7 (by kernel_rfl)) h10
          obtain ⟨s0, s1, s2⟩ := s
          obtain ⟨t0, t1, t2⟩ := t
          simp only [sv] at es et
          subst es et
          refine op_at rfl (fun K hK => ?_)
          go_simp
          refine hK _ _ ?_
          exact ⟨_, _, _, _, _, _, _, _, _, _, _, _, rfl, ⟨R.low, R.s3, R.E0, R.E1, R.M1, R.P9, R.fin, R.d4, R.d7, (fun _ => ⟨hD 4 (by kernel_rfl), hD 7 (by kernel_rfl)⟩), (fun _ => rfl), R.d10, R.d11, R.k0, R.k2, R.k3, R.k5, R.k6, (fun _ => rfl), R.k11⟩⟩
        · skip
          have h10 := R.behind (.inr (.inr (.inr (.inr (.inr (.inr hL))))))
          have kb := R.low h10
          have e8 := R.k8 (hD 8 (by kernel_rfl))
          have d8 := R.d8 (hD 8 (by kernel_rfl))
          obtain ⟨s, es, _⟩ := R.E1 d8.1 h10
          obtain ⟨t, et, _⟩ := R.M1 d8.2 h10
          obtain ⟨s0, s1, s2⟩ := s
          obtain ⟨t0, t1, t2⟩ := t
          simp only [sv] at es et
          subst es et e8
          have R := R.kept h10 ((Below.refl W.heap.size W).alloc (Nat.le_refl _) (.cells #[.slice s0 s1 s2, .slice t0 t1 t2] 43))
          refine op_at rfl (fun K hK => ?_)
          go_simp
          refine hK _ _ ?_
          exact ⟨_, _, _, _, _, _, _, _, _, _, _, _, rfl, ⟨R.low, R.s3, R.E0, R.E1, R.M1, (fun _ _ => ⟨W.heap.size, (s0, s1, s2), (t0, t1, t2), rfl, rfl, rfl, rd_two W s0 t0 s1 s2 t1 t2⟩), R.fin, R.d4, R.d7, R.d8, (fun _ => hD 8 (by kernel_rfl)), (fun q => ⟨(R.d10 q).1, rfl, (R.d10 q).2.2⟩), R.d11, R.k0, R.k2, R.k3, R.k5, R.k6, R.k8, R.k11⟩⟩
        · skip
          have kb := R.low hL
          have e0 := R.k0 (hD 0 (by kernel_rfl))
          subst e0
          obtain ⟨g, s, t, e22, e17, e20, rg⟩ := R.P9 (hD 9 (by kernel_rfl)) hL
          have d8 := R.d8 (R.d9 (hD 9 (by kernel_rfl)))
          obtain ⟨s', es', oE⟩ := R.E1 d8.1 hL
          obtain ⟨t', et', oM⟩ := R.M1 d8.2 hL
          rw [es'] at e17
          rw [et'] at e20
          rw [sv_inj e17] at oE
          rw [sv_inj e20] at oM
          subst e22
          have hO := HOC.out.kept kb
          refine op_at rfl (fun K hK => ?_)
          refine Vv.step_append rfl (.tmp 13) (.tmp 22) rfl w.heap.size (.slice (some ⟨go, 0, none⟩) mm co) C [(s, t)] (by simp [Act.eval]) hO.row ⟨g, 0, none⟩ 1 1 rfl (by simp [Act.eval]) rg.cells (by have := hO.len; have := HMM.out; have := HMI.out; simp; omega) (Nat.le_trans HBx.out.size kb.size) ?_
          intro v' W' o' gr _
          have hM := hO.more o' gr oE oM (Nat.le_refl _)
          have kl : Below w.heap.size W0 W' := (kb.mono HBx.out.size).trans (Vv.grown_below hO.row gr (Nat.le_refl _) (Nat.le_trans HBx.out.size kb.size))
          refine hK _ _ ?_
          have n11 : Lb 11 = false := by
            cases q : Lb 11 with
            | false => rfl
            | true => have z := R.d11 q; rw [hL] at z; cases z
          exact ⟨_, _, _, _, _, _, _, _, _, _, _, _, rfl, ⟨(fun q => by cases q), R.s3, (fun _ q => by have q2 : Lb 4 = false := q; rw [d8.1] at q2; cases q2), (fun _ q => by cases q), (fun _ q => by cases q), (fun _ q => by cases q), (fun _ => ⟨_, hM, kl⟩), R.d4, R.d7, R.d8, R.d9, (fun _ => ⟨hD 0 (by kernel_rfl), hD 9 (by kernel_rfl), hD 7 (by kernel_rfl)⟩), (fun _ => rfl), R.k0, R.k2, R.k3, R.k5, R.k6, R.k8, (fun q => by have q2 : Lb 11 = true := q; exact absurd (n11.symm.trans q2) (by decide))⟩⟩
        · skip
          refine op_at rfl (fun K hK => ?_)
          go_simp
          refine hK _ _ ?_
          exact ⟨_, _, _, _, _, _, _, _, _, _, _, _, rfl, ⟨R.low, (fun q => by cases q), R.E0, R.E1, R.M1, R.P9, R.fin, R.d4, R.d7, R.d8, R.d9, R.d10, (fun _ => hD 10 (by kernel_rfl)), R.k0, R.k2, R.k3, R.k5, R.k6, R.k8, (fun _ => rfl)⟩⟩
      case refine_2 =>
        intro Lb a' W hI hall
        obtain ⟨u3, u13, u14, u15, u16, u17, u18, u19, u20, u21, u22, u23, rfl, R⟩ := hI
        obtain ⟨C', hF, hLo⟩ := R.fin (hall 10)
        have e11 := R.k11 (hall 11)
        subst e11
        clear R hall
        have hlen : (M ++ [rat L i]).length = mm + 1 := by rw [List.length_append, HMM.out]; rfl
        have hOw : Own W w.heap.size W.heap.size _ (M ++ [rat L i]) := ⟨C', hF⟩
        obtain ⟨za, zc, ez, _, _, hzn⟩ := hOw.formN hlen
        subst ez
        obtain ⟨zg, zo, ez⟩ := hOw.rd.addr (by rw [hlen]; omega)
        subst ez
        have hz0 : zo = 0 := by
          obtain ⟨a', c', e', _, _, _, _, hs⟩ := hF.row.form
          obtain ⟨g', eg, _⟩ := hs _ (Value.slice.inj e').1.symm
          cases eg
          rfl
        subst hz0
        have HOw := hidIt hOw
        have HLo := hidIt (HBx.out.trans hLo)
        clear hOw hF hLo
        go_wp2_with (fail)
        exact ⟨⟨i + 1, zg, mm + 1, zc, M ++ [rat L i], by simp, rfl, by omega, hidIt hlen, hidIt (by have := HMI.out; omega), hidIt (by rw [HTK.out, HME.out]), HOw, HLo⟩, by simp [intOf]; omega⟩
    · have hin' : ¬ (i : Int) < (m : Int) := by omega
      have hmi := HMI.out
      subst hmi
      obtain rfl : mm = m := by omega
      have eM : M = L := by rw [HME.out, ← HN.out, List.take_length]
      subst eM
      go_wp2_with (fail)
      go_ret
      exact LstP.of rfl HO.out HBx.out
end Go.Proofs.Ytkkbccppfppalaa.Rp
