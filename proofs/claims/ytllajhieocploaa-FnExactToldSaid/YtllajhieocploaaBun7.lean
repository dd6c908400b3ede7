/-
  slices.Equal at Entries and Members, sameReplica and Agreed of the program. (Written by wip/mkEq.py.)
  bothOf, Told and Around of the program. (Written by wip/mkTold.py.)
  Around of the program, and all that the laws of chapter 13 take of it. (Written by wip/mkArnd.py.)
-/
import Derived.Test.YtllajhieocploaaBun5
import Derived.Test.YtllajhieocploaaBun6
import Derived.Test.YtllajhieocploaaHepP
import Derived.Test.YtllajhieocploaaBun1
namespace Go.Proofs.Ytllajhieocploaa.Rp
open Go.ChangeShapes Go.WideShapes Go.ChangeAt Go.RowKit
open Go.Proofs.Ytllajhieocploaa.Vv (Sl sv hidIt)
open Go.Proofs.Ytllajhieocploaa.Rc (BelowBy BelowBy.one wp_region_below calls_below calls_same)
set_option linter.unusedVariables false
end Go.Proofs.Ytllajhieocploaa.Rp
namespace Go.Proofs.Ytllajhieocploaa.Rp
open Go.ChangeShapes Go.WideShapes Go.ChangeAt Go.RowKit
open Go.Proofs.Ytllajhieocploaa.Vv (Sl sv hidIt)
open Go.Proofs.Ytllajhieocploaa.Rg (upd waits wp_region_inv op_at)
set_option linter.unusedVariables false
/-- What both come to. -/
def BotP (r r' : Rep) (w : World) (e : Ending) (w' : World) : Prop := ∃ (x y : Sl) (J : Rep), e = .returned (.agg #[sv x, sv y]) ∧ En.Own w' w.heap.size (sv x) J.1 ∧ Mm.Own w' w.heap.size (sv y) J.2 ∧ En.toB J.1 = Bk.mergeE (En.toB r.1) (En.toB r'.1) ∧ Mm.toB J.2 = Mk.mergeE (Mm.toB r.2) (Mm.toB r'.2) ∧ Below w.heap.size w w'
theorem BotP.of {r r' : Rep} {w w' : World} {e : Ending} (x y : Sl) (J : Rep) (h : e = .returned (.agg #[sv x, sv y])) (h1 : En.Own w' w.heap.size (sv x) J.1) (h2 : Mm.Own w' w.heap.size (sv y) J.2) (h3 : En.toB J.1 = Bk.mergeE (En.toB r.1) (En.toB r'.1)) (h4 : Mm.toB J.2 = Mk.mergeE (Mm.toB r.2) (Mm.toB r'.2)) (h5 : Below w.heap.size w w') : BotP r r' w e w' := ⟨x, y, J, h, h1, h2, h3, h4, h5⟩
theorem BotP.out {r r' : Rep} {w w' : World} {e : Ending} (h : BotP r r' w e w') : ∃ (x y : Sl) (J : Rep), e = .returned (.agg #[sv x, sv y]) ∧ En.Own w' w.heap.size (sv x) J.1 ∧ Mm.Own w' w.heap.size (sv y) J.2 ∧ En.toB J.1 = Bk.mergeE (En.toB r.1) (En.toB r'.1) ∧ Mm.toB J.2 = Mk.mergeE (Mm.toB r.2) (Mm.toB r'.2) ∧ Below w.heap.size w w' := h
set_option maxRecDepth 100000 in
set_option maxHeartbeats 4000000 in
theorem impl_bothOf (s t p q : Sl) (r r' : Rep) (w : World) (hE : RdE w s r.1) (hM : RdM w t r.2) (hE' : RdE w p r'.1) (hM' : RdM w q r'.2) (hs : En.shortR r.1) (hs' : En.shortR r'.1) (ok : okR r = true) (ok' : okR r' = true) (hl : (Bk.mergeE (En.toB r.1) (En.toB r'.1)).length ≤ 80) :
    Calls Try.prog 27 #[.agg #[sv s, sv t], .agg #[sv p, sv q]] w fun e w' => BotP r r' w e w' := by
  unfold okR at ok ok'
  rw [Bool.and_eq_true] at ok ok'
  have ej : Bk.joinB (En.toB r.1) (En.toB r'.1) = (Bk.mergeE (En.toB r.1) (En.toB r'.1), true) := by unfold Bk.joinB; rw [if_pos ⟨ok.1, ok'.1, hl⟩]
  have em : Mk.mergeB (Mm.toB r.2) (Mm.toB r'.2) = Mk.mergeE (Mm.toB r.2) (Mm.toB r'.2) := by unfold Mk.mergeB; rw [if_pos ⟨ok.2, ok'.2⟩]
  obtain ⟨s0, s1, s2⟩ := s
  obtain ⟨t0, t1, t2⟩ := t
  obtain ⟨p0, p1, p2⟩ := p
  obtain ⟨q0, q1, q2⟩ := q
  obtain ⟨e1, rE, nE, lE, cE⟩ := hE
  obtain ⟨e2, rM, nM, lM, cM⟩ := hM
  obtain ⟨e3, rE', nE', lE', cE'⟩ := hE'
  obtain ⟨e4, rM', nM', lM', cM'⟩ := hM'
  simp only at e1 rE nE lE cE e2 rM nM lM cM e3 rE' nE' lE' cE' e4 rM' nM' lM' cM'
  have C1 := hidIt (fun W (h : En.Rd W s0 r.1) (h' : En.Rd W p0 r'.1) => En.impl_Joined s0 p0 s2 p2 r.1 r'.1 W h h' lE lE' (by omega) (by omega) hs hs')
  have C2 := hidIt (fun W (h : Mm.Rd W t0 r.2) (h' : Mm.Rd W q0 r'.2) => Mm.impl_Merged t0 q0 t2 q2 r.2 r'.2 W h h' nM (by omega) (by omega))
  rw [ej, ← e1, ← e3] at C1
  rw [em, ← e2, ← e4] at C2
  simp only at C1
  have HF : Hid (∀ (x y : Sl) (J : Rep) (w' : World), En.Own w' w.heap.size (sv x) J.1 → Mm.Own w' w.heap.size (sv y) J.2 → En.toB J.1 = Bk.mergeE (En.toB r.1) (En.toB r'.1) → Mm.toB J.2 = Mk.mergeE (Mm.toB r.2) (Mm.toB r'.2) → Below w.heap.size w w' → BotP r r' w (.returned (.agg #[sv x, sv y])) w') := hidIt (fun x y J w' h1 h2 h3 h4 h5 => BotP.of x y J rfl h1 h2 h3 h4 h5)
  generalize Bk.mergeE (En.toB r.1) (En.toB r'.1) = gE at C1 HF
  generalize Mk.mergeE (Mm.toB r.2) (Mm.toB r'.2) = gM at C2 HF
  have ka := (((Below.refl w.heap.size w).alloc (Nat.le_refl _) (.cells #[.slice s0 s1 s2, .slice t0 t1 t2] 36)).alloc (by simp) (.cells #[.slice p0 p1 p2, .slice q0 q1 q2] 36)).alloc (by simp; omega) (.cells #[.slice none 0 0, .slice none 0 0] 36)
  have HB := hidIt ka
  have B1 := Bo.Box.new w #[.slice s0 s1 s2, .slice t0 t1 t2] 36
  have B2 := Bo.Box.new (w.alloc (.cells #[.slice s0 s1 s2, .slice t0 t1 t2] 36)) #[.slice p0 p1 p2, .slice q0 q1 q2] 36
  have B3 := Bo.Box.new ((w.alloc (.cells #[.slice s0 s1 s2, .slice t0 t1 t2] 36)).alloc (.cells #[.slice p0 p1 p2, .slice q0 q1 q2] 36)) #[.slice none 0 0, .slice none 0 0] 36
  have k2 := (Below.refl (w.alloc (.cells #[.slice s0 s1 s2, .slice t0 t1 t2] 36)).heap.size (w.alloc (.cells #[.slice s0 s1 s2, .slice t0 t1 t2] 36))).alloc (Nat.le_refl _) (.cells #[.slice p0 p1 p2, .slice q0 q1 q2] 36)
  have k3 := (Below.refl ((w.alloc (.cells #[.slice s0 s1 s2, .slice t0 t1 t2] 36)).alloc (.cells #[.slice p0 p1 p2, .slice q0 q1 q2] 36)).heap.size ((w.alloc (.cells #[.slice s0 s1 s2, .slice t0 t1 t2] 36)).alloc (.cells #[.slice p0 p1 p2, .slice q0 q1 q2] 36))).alloc (Nat.le_refl _) (.cells #[.slice none 0 0, .slice none 0 0] 36)
  have BX := hidIt ((B1.kept k2).kept k3)
  have BY := hidIt (B2.kept k3)
  have BZ := hidIt B3
  have H1 := hidIt (rE.kept ka)
  have H2 := hidIt (rM.kept ka)
  have H3 := hidIt (rE'.kept ka)
  have H4 := hidIt (rM'.kept ka)
  clear ka B1 B2 B3 k2 k3 rE rM rE' rM' e1 e2 e3 e4 ej em hs hs'
  simp only [sv]
  go_enter Try.func27, Try.ntmps27
  go_wp2_with (fail)
  have HSZ : Hid ((((w.alloc (.cells #[.slice s0 s1 s2, .slice t0 t1 t2] 36)).alloc (.cells #[.slice p0 p1 p2, .slice q0 q1 q2] 36)).alloc (.cells #[.slice none 0 0, .slice none 0 0] 36)).heap.size = w.heap.size + 3) := hidIt (by simp)
  have hb2 : (w.alloc (.cells #[.slice s0 s1 s2, .slice t0 t1 t2] 36)).heap.size = w.heap.size + 1 := by simp
  have hb3 : ((w.alloc (.cells #[.slice s0 s1 s2, .slice t0 t1 t2] 36)).alloc (.cells #[.slice p0 p1 p2, .slice q0 q1 q2] 36)).heap.size = w.heap.size + 2 := by simp
  rw [hb2] at BY
  rw [hb3] at BZ
  clear hb2 hb3
  generalize ((w.alloc (.cells #[.slice s0 s1 s2, .slice t0 t1 t2] 36)).alloc (.cells #[.slice p0 p1 p2, .slice q0 q1 q2] 36)).alloc (.cells #[.slice none 0 0, .slice none 0 0] 36) = wz at HB BX BY BZ H1 H2 H3 H4 HSZ ⊢
  refine (C1.out _ H1.out H3.out).mono ?_
  rintro e w1 ⟨v, J1, rfl, j1, o1, k1⟩
  obtain ⟨za, zc, ez, _⟩ := o1.form
  subst ez
  have HB1 := hidIt (on HB.out k1)
  have BZ1 := hidIt (BZ.out.kept k1)
  have c1 := (BX.out.kept k1).c 1 rfl
  have c2 := (BY.out.kept k1).c 1 rfl
  have H5 := hidIt (H2.out.kept k1)
  have H6 := hidIt (H4.out.kept k1)
  have HO1 := hidIt o1
  have HJ1 := hidIt j1
  have HK1 := hidIt k1
  clear k1 o1 j1
  generalize hj1 : J1.length = l1 at *
  have HL1 := hidIt hj1
  clear hj1
  go_wp2_with (fail)
  refine (C2.out _ H5.out H6.out).mono ?_
  rintro e w2 ⟨v, J2, rfl, j2, o2, k2⟩
  obtain ⟨ya, yc, ey, _⟩ := o2.form
  subst ey
  have HB2 := hidIt (on HB1.out k2)
  have BZ2 := hidIt (BZ1.out.kept k2)
  have d0 := BZ2.out.c 0 rfl
  have d1 := BZ2.out.c 1 rfl
  have fz := BZ2.out.fr
  have HO2 := hidIt o2
  have HO3 := hidIt (HO1.out.kept k2)
  have HJ2 := hidIt j2
  have HSz1 := HK1.out.size
  clear k2 o2 j2 c1 c2
  generalize hj2 : J2.length = l2 at *
  have HL2 := hidIt hj2
  clear hj2
  go_wp2_with (fail)
  have BX9 := hidIt ((BZ2.out.put 0 (.slice za l1 zc) (by decide) rfl).put 1 (.slice ya l2 yc) (by simp) rfl)
  have HB9 := hidIt ((HB2.out.setCell (p := ⟨w.heap.size + 2, 0, none⟩) (by simp) (.slice za l1 zc)).setCell (p := ⟨w.heap.size + 2, 1, none⟩) (by simp) (.slice ya l2 yc))
  have OE9 : En.Own ((w2.setCell ⟨w.heap.size + 2, 0, none⟩ (.slice za l1 zc)).setCell ⟨w.heap.size + 2, 1, none⟩ (.slice ya l2 yc)) w.heap.size (sv (za, l1, zc)) J1 := En.Own.mono (ownsRow_setCell_below (ownsRow_setCell_below HO3.out (a := ⟨w.heap.size + 2, 0, none⟩) (by have := HSZ.out; show w.heap.size + 2 < _; omega) _) (a := ⟨w.heap.size + 2, 1, none⟩) (by have := HSZ.out; show w.heap.size + 2 < _; omega) _) (by have := HSZ.out; omega)
  have OM9 : Mm.Own ((w2.setCell ⟨w.heap.size + 2, 0, none⟩ (.slice za l1 zc)).setCell ⟨w.heap.size + 2, 1, none⟩ (.slice ya l2 yc)) w.heap.size (sv (ya, l2, yc)) J2 := Mm.Own.mono (ownsRow_setCell_below (ownsRow_setCell_below HO2.out (a := ⟨w.heap.size + 2, 0, none⟩) (by have := HSZ.out; show w.heap.size + 2 < _; omega) _) (a := ⟨w.heap.size + 2, 1, none⟩) (by have := HSZ.out; show w.heap.size + 2 < _; omega) _) (by have := HSZ.out; omega)
  have HFin := hidIt (HF.out (za, l1, zc) (ya, l2, yc) (J1, J2) _ OE9 OM9 HJ1.out HJ2.out HB9.out)
  clear OE9 OM9 HB9
  generalize (w2.setCell ⟨w.heap.size + 2, 0, none⟩ (.slice za l1 zc)).setCell ⟨w.heap.size + 2, 1, none⟩ (.slice ya l2 yc) = w9 at BX9 HFin ⊢
  have t0' := BX9.out.c 0 (v := .slice za l1 zc) rfl
  have t1' := BX9.out.c 1 (v := .slice ya l2 yc) rfl
  exact bodyPost_ret (v := .agg #[.slice za l1 zc, .slice ya l2 yc]) (by simp [results, Try.results27, go_sem, t0', t1']) rfl HFin.out
def CPTb (g m cap f t s1 s2 t1 t2 p1 p2 q1 q2 : Nat) (s0 t0 p0 q0 : Option Addr) (r r' : Rep) (w0 : World) (W : World) (v : Value) : Prop := ∃ (s u : Sl) (J : Rep), v = .agg #[sv s, sv u] ∧ En.Own W w0.heap.size (sv s) J.1 ∧ Mm.Own W w0.heap.size (sv u) J.2 ∧ En.toB J.1 = Bk.mergeE (En.toB r.1) (En.toB r'.1) ∧ Mm.toB J.2 = Mk.mergeE (Mm.toB r.2) (Mm.toB r'.2) ∧ Below w0.heap.size w0 W
def SPTb (g m cap f t s1 s2 t1 t2 p1 p2 q1 q2 : Nat) (s0 t0 p0 q0 : Option Addr) (r r' : Rep) (w0 : World) (W' : World) : Prop := ∃ (W : World) (s u : Sl) (J : Rep), W' = (W.setCell ⟨g, t * 2, none⟩ (sv s)).setCell ⟨g, t * 2 + 1, none⟩ (sv u) ∧ En.Own W w0.heap.size (sv s) J.1 ∧ Mm.Own W w0.heap.size (sv u) J.2 ∧ En.toB J.1 = Bk.mergeE (En.toB r.1) (En.toB r'.1) ∧ Mm.toB J.2 = Mk.mergeE (Mm.toB r.2) (Mm.toB r'.2) ∧ Below w0.heap.size w0 W
structure RK_Tb (g m cap f t s1 s2 t1 t2 p1 p2 q1 q2 : Nat) (s0 t0 p0 q0 : Option Addr) (r r' : Rep) (w0 : World) (W0 : World) (L : Nat → Bool) (u40 u41 u42 u43 u44 u45 u46 u47 u48 u49 u50 u51 : Value) (W : World) : Prop where
  st0 : L 10 = false → W = W0
  st1 : L 10 = true → L 12 = false → CPTb g m cap f t s1 s2 t1 t2 p1 p2 q1 q2 s0 t0 p0 q0 r r' w0 W u50
  st2 : L 12 = true → SPTb g m cap f t s1 s2 t1 t2 p1 p2 q1 q2 s0 t0 p0 q0 r r' w0 W
  dep : L 10 = true → L 5 = true ∧ L 9 = true
  dps : L 12 = true → L 10 = true
  k0 : L 0 = true → u40 = .slice (some ⟨g, 0, none⟩) m cap
  k1 : L 1 = true → u41 = .int .i64 t
  k2 : L 2 = true → u42 = .slice (some ⟨g, 0, none⟩) m cap
  k3 : L 3 = true → u43 = .int .i64 f
  k4 : L 4 = true → u44 = .pointer (some ⟨g, f * 2, none⟩)
  k5 : L 5 = true → u45 = .agg #[.slice p0 p1 p2, .slice q0 q1 q2]
  k6 : L 6 = true → u46 = .slice (some ⟨g, 0, none⟩) m cap
  k7 : L 7 = true → u47 = .int .i64 t
  k8 : L 8 = true → u48 = .pointer (some ⟨g, t * 2, none⟩)
  k9 : L 9 = true → u49 = .agg #[.slice s0 s1 s2, .slice t0 t1 t2]
  k11 : L 11 = true → u51 = .pointer (some ⟨g, t * 2, none⟩)
def KK_Tb (g m cap f t s1 s2 t1 t2 p1 p2 q1 q2 : Nat) (s0 t0 p0 q0 : Option Addr) (r r' : Rep) (w0 : World) (W0 : World) (y0 y1 y2 y3 y4 y5 y6 y7 y8 y9 y10 y11 y12 y13 y14 y15 y16 y17 y18 y19 y20 y21 y22 y23 y24 y25 y26 y27 y28 y29 y30 y31 y32 y33 y34 y35 y36 y37 y38 y39 y52 : Value) (L : Nat → Bool) (a : Act) (W : World) : Prop := ∃ u40 u41 u42 u43 u44 u45 u46 u47 u48 u49 u50 u51 : Value, a = ⟨(y0 :: y1 :: y2 :: y3 :: y4 :: y5 :: y6 :: y7 :: y8 :: y9 :: y10 :: y11 :: y12 :: y13 :: y14 :: y15 :: y16 :: y17 :: y18 :: y19 :: y20 :: y21 :: y22 :: y23 :: y24 :: y25 :: y26 :: y27 :: y28 :: y29 :: y30 :: y31 :: y32 :: y33 :: y34 :: y35 :: y36 :: y37 :: y38 :: y39 :: u40 :: u41 :: u42 :: u43 :: u44 :: u45 :: u46 :: u47 :: u48 :: u49 :: u50 :: u51 :: y52 :: []).toArray, []⟩ ∧ RK_Tb g m cap f t s1 s2 t1 t2 p1 p2 q1 q2 s0 t0 p0 q0 r r' w0 W0 L u40 u41 u42 u43 u44 u45 u46 u47 u48 u49 u50 u51 W
/-- What both know is not too much. -/
theorem both_len {L : List Rep} (ok : okG L = true) {f t : Nat} (hf : f < L.length) (ht : t < L.length) : (Bk.mergeE (En.toB (rat L f).1) (En.toB (rat L t).1)).length ≤ 80 ∧ Bk.mergeE (En.toB (rat L f).1) (En.toB (rat L t).1) = Bk.whole (bks [rat L t, rat L f]) ∧ Mk.mergeE (Mm.toB (rat L f).2) (Mm.toB (rat L t).2) = Mk.whole (mbs [rat L t, rat L f]) := by
  have hT := okG_tame ok
  have e1 : Bk.mergeE (En.toB (rat L f).1) (En.toB (rat L t).1) = Bk.whole (bks [rat L t, rat L f]) := by
    show _ = Bk.mergeE (Bk.mergeE [] _) _
    rw [Bk.mergeE_nil]
    exact Bk.merge_comm (hT.br f hf) (hT.br t ht)
  refine ⟨?_, e1, ?_⟩
  · obtain ⟨h1, h2, h3, h4⟩ := (okG_iff L).1 ok
    have hg := h3.tell (f := f) (t := t) (by rw [bks_length]; exact hf) (by rw [bks_length]; exact ht)
    have hm : Bk.at0 (Bk.tell (bks L) f t) t ∈ Bk.tell (bks L) f t := Bk.at0_mem (by rw [Bk.tell_length, bks_length]; exact ht)
    have hl := Bk.len_whole hg.ris hm
    rw [Bk.tell_at (by rw [bks_length]; exact ht), if_pos rfl, bks_at ht, bks_at hf, Bk.merge_comm (hT.br t ht) (hT.br f hf)] at hl
    have := hg.len
    omega
  · show _ = Mk.mergeE (Mk.mergeE [] _) _
    rw [Mk.mergeE_nil]
    exact Mk.merge_comm (hT.mr f hf) (hT.mr t ht)
set_option maxRecDepth 100000 in
set_option maxHeartbeats 8000000 in
theorem impl_Told (a : Option Addr) (cap : Nat) (L : List Rep) (f t : Int) (w : World) (h : Rd w a L) (hs : Short L) (hl : L.length ≤ 9223372036854775807) (hlb : ∀ i, i < L.length → (rat L i).1.length ≤ 9223372036854775807 ∧ (rat L i).2.length ≤ 9223372036854775807) :
    Calls Try.prog 9 #[.slice a L.length cap, .int .i64 f, .int .i64 t] w fun e w' => TolP L f t w e w' := by
  have CG := hidIt (fun W (r : Rd W a L) => impl_GroupOk a cap L W r hs hl hlb)
  have HR := hidIt h
  have HSh := hidIt hs
  clear h hs hlb
  cases ok : okG L with
  | false =>
    rw [ok] at CG
    have HT := hidIt (ToldR.mkNo (f := f) (t := t) ok)
    clear ok
    generalize L.length = m at *
    go_enter Try.func9, Try.ntmps9
    go_wp2_with (fail)
    refine (CG.out _ HR.out).mono ?_
    rintro e w1 ⟨rfl, k⟩
    have HB1 := hidIt k
    clear k
    go_wp2_with (fail)
    refine bodyPost_ret (v := .tuple #[.slice (some ⟨w1.heap.size, 0, none⟩) 0 0, .bool false]) (by simp [results, Try.results9, go_sem]) rfl ?_
    exact TolP.of rfl HT.out ((Own.new w1).mono HB1.out.size (by simp) (Nat.le_refl _)) (HB1.out.alloc HB1.out.size _)
  | true =>
    rw [ok] at CG
    have hT := okG_tame ok
    have hall := okG_all ok
    have h1 := hall.1
    have h6 := hall.2.1
    have CC := hidIt (fun W (r : Rd W a L) => impl_copiedReplicas a cap L W r hT)
    have CB := hidIt (fun W s t p q (f' t' : Nat) (hf : f' < L.length) (ht : t' < L.length) (hE : RdE W s (rat L f').1) (hM : RdM W t (rat L f').2) (hE' : RdE W p (rat L t').1) (hM' : RdM W q (rat L t').2) => impl_bothOf s t p q (rat L f') (rat L t') W hE hM hE' hM' (HSh.out f' hf) (HSh.out t' ht) (hall.2.2.1 f' hf) (hall.2.2.1 t' ht) (both_len ok hf ht).1)
    have HTO := hidIt (fun (q : ¬ inG L.length f t) => ToldR.mkOut (f := f) (t := t) ok q)
    have HTY := hidIt (fun M (q : inG L.length f t) (k : TellR L M f.toNat t.toNat) => ToldR.mkYes (f := f) (t := t) ok q k)
    have HTS := hidIt (fun (f' t' : Nat) (J : Rep) (hf : f' < L.length) (ht : t' < L.length) (e1 : En.toB J.1 = Bk.mergeE (En.toB (rat L f').1) (En.toB (rat L t').1)) (e2 : Mm.toB J.2 = Mk.mergeE (Mm.toB (rat L f').2) (Mm.toB (rat L t').2)) => tell_set (J := J) hf ht (e1.trans (both_len ok hf ht).2.1) (e2.trans (both_len ok hf ht).2.2))
    clear ok hall hT
    generalize hn : L.length = m at *
    have HN := hidIt hn
    clear hn
    go_enter Try.func9, Try.ntmps9
    go_wp2_with (fail)
    refine (CG.out _ HR.out).mono ?_
    rintro e w1 ⟨rfl, k⟩
    have HB1 := hidIt k
    clear k
    go_wp2_with (fail)
    refine (CC.out _ (HR.out.kept HB1.out)).mono ?_
    intro e w2 hz
    obtain ⟨v, rfl, o2, k2⟩ := hz.out
    obtain ⟨va, vc, ev, hvc, hvm, hvn⟩ := o2.formN HN.out
    subst ev
    obtain ⟨g, eg⟩ := own_zero o2 (by rw [HN.out]; exact h1)
    subst eg
    have HB2 := hidIt (on HB1.out k2)
    have HO2 := hidIt (o2.mono HB1.out.size (Nat.le_refl _) (Nat.le_refl _))
    clear hz o2 k2 hvn CG CC
    by_cases q : inG m f t
    · unfold inG at q
      obtain ⟨f', rfl⟩ : ∃ f' : Nat, f = (f' : Int) := ⟨f.toNat, by omega⟩
      obtain ⟨t', rfl⟩ : ∃ t' : Nat, t = (t' : Int) := ⟨t.toNat, by omega⟩
      have z1 : decide ((f' : Int) < 0) = false := decide_eq_false (by omega)
      have z2 : decide ((m : Int) ≤ (f' : Int)) = false := decide_eq_false (by omega)
      have z3 : decide ((t' : Int) < 0) = false := decide_eq_false (by omega)
      have z4 : decide ((m : Int) ≤ (t' : Int)) = false := decide_eq_false (by omega)
      have z5 : ((f' : Int) == (t' : Int)) = false := by simpa using q.2.2.2.2
      have z6 : decide (m ≤ f') = false := decide_eq_false (by omega)
      have z7 : decide (m ≤ t') = false := decide_eq_false (by omega)
      have z8 : f' < m := by omega
      have z9 : t' < m := by omega
      have z10 : ¬ f' = t' := by omega
      have HTY1 := hidIt (fun M (k : TellR L M f' t') => HTY.out M q (by simpa using k))
      clear q HTY HTO
      have htL : t' < L.length := by rw [HN.out]; exact z9
      have hfL : f' < L.length := by rw [HN.out]; exact z8
      obtain ⟨⟨s0, s1, s2⟩, ⟨t0, t1, t2⟩, c0, c1, f0, f1, oE, oM⟩ := HO2.out.cells htL
      obtain ⟨⟨p0, p1, p2⟩, ⟨q0, q1, q2⟩, d0, d1, _, _, oE', oM'⟩ := HO2.out.cells hfL
      have kd : Below w2.heap.size w2 w2.drew := (Below.refl _ w2).drew
      have HC0 := hidIt (CB.out w2.drew (p0, p1, p2) (q0, q1, q2) (s0, s1, s2) (t0, t1, t2) f' t' z8 z9 ((rdE_of oE').kept kd) ((rdM_of oM').kept kd) ((rdE_of oE).kept kd) ((rdM_of oM).kept kd))
      have hgw : g < w2.drew.heap.size := World.block_lt_of_cell? _ _ c0
      have hgl : w.heap.size ≤ g := by
        obtain ⟨C, hC⟩ := HO2.out
        exact (World.ownsRow.lt hC.row g rfl).1
      have c0' : w2.drew.cell? ⟨g, t' * 2, none⟩ = some (.slice s0 s1 s2) := c0
      have c1' : w2.drew.cell? ⟨g, t' * 2 + 1, none⟩ = some (.slice t0 t1 t2) := c1
      have d0' : w2.drew.cell? ⟨g, f' * 2, none⟩ = some (.slice p0 p1 p2) := d0
      have d1' : w2.drew.cell? ⟨g, f' * 2 + 1, none⟩ = some (.slice q0 q1 q2) := d1
      have f0' : w2.drew.frozen? ⟨g, t' * 2, none⟩ = false := f0
      have f1' : w2.drew.frozen? ⟨g, t' * 2 + 1, none⟩ = false := f1
      clear c0 c1 d0 d1 f0 f1 oE oM oE' oM' kd CB
      obtain ⟨W0, hW0⟩ : ∃ W0, W0 = w2.drew := ⟨_, rfl⟩
      have HBW : Hid (∀ W, Below W0.heap.size W0 W → Below w2.heap.size w2 W) := hidIt (fun W k => by rw [hW0] at k; exact ⟨k.os, k.tape, k.output, k.size, k.block⟩)
      have HSZ : Hid (W0.heap.size = w2.heap.size) := hidIt (by rw [hW0]; rfl)
      rw [← hW0] at c0' c1' d0' d1' f0' f1' HC0 hgw
      have c0 := c0'
      have c1 := c1'
      have d0 := d0'
      have d1 := d1'
      have f0 := f0'
      have f1 := f1'
      have HC := HC0
      clear c0' c1' d0' d1' f0' f1' HC0
      have hti : (t' : Int) < (m : Int) := by omega
      have hfi : (f' : Int) < (m : Int) := by omega
      have ht0 : (0 : Int) ≤ (t' : Int) := by omega
      have hf0 : (0 : Int) ≤ (f' : Int) := by omega
      simp only [sv] at HC
      go_wp2_with (fail)
      refine wp_region_inv (by kernel_rfl) (by kernel_rfl) (KK_Tb g m vc f' t' s1 s2 t1 t2 p1 p2 q1 q2 s0 t0 p0 q0 (rat L f') (rat L t') W0 (W0) _ _ _ _ _ _ _ _ _ _ _ _ _ _ _ _ _ _ _ _ _ _ _ _ _ _ _ _ _ _ _ _ _ _ _ _ _ _ _ _ _) ⟨_, _, _, _, _, _, _, _, _, _, _, _, rfl, ⟨fun _ => hW0.symm, (fun q => by cases q), (fun q => by cases q), (fun q => by cases q), (fun q => by cases q), (fun q => by cases q), (fun q => by cases q), (fun q => by cases q), (fun q => by cases q), (fun q => by cases q), (fun q => by cases q), (fun q => by cases q), (fun q => by cases q), (fun q => by cases q), (fun q => by cases q), (fun q => by cases q)⟩⟩ ?_ ?_
      case refine_1 =>
        clear hW0
        intro Lb a' W i hi hI hL hD
        have hcases : i = 0 ∨ i = 1 ∨ i = 2 ∨ i = 3 ∨ i = 4 ∨ i = 5 ∨ i = 6 ∨ i = 7 ∨ i = 8 ∨ i = 9 ∨ i = 10 ∨ i = 11 ∨ i = 12 := by simp at hi; omega
        clear hi
        obtain ⟨u40, u41, u42, u43, u44, u45, u46, u47, u48, u49, u50, u51, rfl, R⟩ := hI
        rcases hcases with rfl | rfl | rfl | rfl | rfl | rfl | rfl | rfl | rfl | rfl | rfl | rfl | rfl
        · skip
          refine op_at rfl (fun K hK => ?_)
          go_simp
          refine hK _ _ ?_
          exact ⟨_, _, _, _, _, _, _, _, _, _, _, _, rfl, R.st0, R.st1, R.st2, R.dep, R.dps, (fun _ => rfl), R.k1, R.k2, R.k3, R.k4, R.k5, R.k6, R.k7, R.k8, R.k9, R.k11⟩
        · skip
          refine op_at rfl (fun K hK => ?_)
          go_simp
          refine hK _ _ ?_
          exact ⟨_, _, _, _, _, _, _, _, _, _, _, _, rfl, R.st0, R.st1, R.st2, R.dep, R.dps, R.k0, (fun _ => rfl), R.k2, R.k3, R.k4, R.k5, R.k6, R.k7, R.k8, R.k9, R.k11⟩
        · skip
          refine op_at rfl (fun K hK => ?_)
          go_simp
          refine hK _ _ ?_
          exact ⟨_, _, _, _, _, _, _, _, _, _, _, _, rfl, R.st0, R.st1, R.st2, R.dep, R.dps, R.k0, R.k1, (fun _ => rfl), R.k3, R.k4, R.k5, R.k6, R.k7, R.k8, R.k9, R.k11⟩
        · skip
          refine op_at rfl (fun K hK => ?_)
          go_simp
          refine hK _ _ ?_
          exact ⟨_, _, _, _, _, _, _, _, _, _, _, _, rfl, R.st0, R.st1, R.st2, R.dep, R.dps, R.k0, R.k1, R.k2, (fun _ => rfl), R.k4, R.k5, R.k6, R.k7, R.k8, R.k9, R.k11⟩
        · skip
          have e2 := R.k2 (hD 2 (by kernel_rfl))
          subst e2
          have e3 := R.k3 (hD 3 (by kernel_rfl))
          subst e3
          refine op_at rfl (fun K hK => ?_)
          go_simp
          refine hK _ _ ?_
          exact ⟨_, _, _, _, _, _, _, _, _, _, _, _, rfl, R.st0, R.st1, R.st2, R.dep, R.dps, R.k0, R.k1, R.k2, R.k3, (fun _ => rfl), R.k5, R.k6, R.k7, R.k8, R.k9, R.k11⟩
        · skip
          have e4 := R.k4 (hD 4 (by kernel_rfl))
          subst e4
          have hc : Lb 10 = false := by
            cases q : Lb 10 with
            | false => rfl
            | true => have z := R.dep q; simp [hL] at z
          have eW := R.st0 hc
          subst eW
          refine op_at rfl (fun K hK => ?_)
          go_simp
          refine hK _ _ ?_
          exact ⟨_, _, _, _, _, _, _, _, _, _, _, _, rfl, R.st0, R.st1, R.st2, (fun q => by have q2 : Lb 10 = true := q; rw [hc] at q2; cases q2), R.dps, R.k0, R.k1, R.k2, R.k3, R.k4, (fun _ => rfl), R.k6, R.k7, R.k8, R.k9, R.k11⟩
        · skip
          refine op_at rfl (fun K hK => ?_)
          go_simp
          refine hK _ _ ?_
          exact ⟨_, _, _, _, _, _, _, _, _, _, _, _, rfl, R.st0, R.st1, R.st2, R.dep, R.dps, R.k0, R.k1, R.k2, R.k3, R.k4, R.k5, (fun _ => rfl), R.k7, R.k8, R.k9, R.k11⟩
        · skip
          refine op_at rfl (fun K hK => ?_)
          go_simp
          refine hK _ _ ?_
          exact ⟨_, _, _, _, _, _, _, _, _, _, _, _, rfl, R.st0, R.st1, R.st2, R.dep, R.dps, R.k0, R.k1, R.k2, R.k3, R.k4, R.k5, R.k6, (fun _ => rfl), R.k8, R.k9, R.k11⟩
        · skip
          have e6 := R.k6 (hD 6 (by kernel_rfl))
          subst e6
          have e7 := R.k7 (hD 7 (by kernel_rfl))
          subst e7
          refine op_at rfl (fun K hK => ?_)
          go_simp
          refine hK _ _ ?_
          exact ⟨_, _, _, _, _, _, _, _, _, _, _, _, rfl, R.st0, R.st1, R.st2, R.dep, R.dps, R.k0, R.k1, R.k2, R.k3, R.k4, R.k5, R.k6, R.k7, (fun _ => rfl), R.k9, R.k11⟩
        · skip
          have e8 := R.k8 (hD 8 (by kernel_rfl))
          subst e8
          have hc : Lb 10 = false := by
            cases q : Lb 10 with
            | false => rfl
            | true => have z := R.dep q; simp [hL] at z
          have eW := R.st0 hc
          subst eW
          refine op_at rfl (fun K hK => ?_)
          go_simp
          refine hK _ _ ?_
          exact ⟨_, _, _, _, _, _, _, _, _, _, _, _, rfl, R.st0, R.st1, R.st2, (fun q => by have q2 : Lb 10 = true := q; rw [hc] at q2; cases q2), R.dps, R.k0, R.k1, R.k2, R.k3, R.k4, R.k5, R.k6, R.k7, R.k8, (fun _ => rfl), R.k11⟩
        · skip
          have e5 := R.k5 (hD 5 (by kernel_rfl))
          subst e5
          have e9 := R.k9 (hD 9 (by kernel_rfl))
          subst e9
          have eW := R.st0 hL
          subst eW
          refine op_at rfl (fun K hK => ?_)
          go_simp
          refine (HC.out).mono ?_
          intro e W1 hz
          obtain ⟨⟨x0, x1, x2⟩, ⟨y0, y1, y2⟩, J, rfl, oE, oM, e1, e2, kk⟩ := hz.out
          simp only [sv]
          go_simp
          refine hK _ _ ?_
          exact ⟨_, _, _, _, _, _, _, _, _, _, _, _, rfl, (fun q => by cases q), (fun _ _ => ⟨(x0, x1, x2), (y0, y1, y2), J, rfl, oE, oM, e1, e2, kk⟩), (fun q => by have q2 := R.dps q; rw [hL] at q2; cases q2), (fun _ => ⟨hD 5 (by kernel_rfl), hD 9 (by kernel_rfl)⟩), (fun _ => rfl), R.k0, R.k1, R.k2, R.k3, R.k4, R.k5, R.k6, R.k7, R.k8, R.k9, R.k11⟩
        · skip
          have e0 := R.k0 (hD 0 (by kernel_rfl))
          subst e0
          have e1 := R.k1 (hD 1 (by kernel_rfl))
          subst e1
          refine op_at rfl (fun K hK => ?_)
          go_simp
          refine hK _ _ ?_
          exact ⟨_, _, _, _, _, _, _, _, _, _, _, _, rfl, R.st0, R.st1, R.st2, R.dep, R.dps, R.k0, R.k1, R.k2, R.k3, R.k4, R.k5, R.k6, R.k7, R.k8, R.k9, (fun _ => rfl)⟩
        · skip
          have e11 := R.k11 (hD 11 (by kernel_rfl))
          subst e11
          have hcc := hD 10 (by kernel_rfl)
          have hc := R.st1 hcc hL
          obtain ⟨⟨x0, x1, x2⟩, ⟨y0, y1, y2⟩, J, rfl, oE, oM, e1, e2, kz⟩ := hc
          have g0 : W.cell? ⟨g, t' * 2, none⟩ = some (.slice s0 s1 s2) := by rw [kz.cell hgw]; exact c0
          have g1 : W.cell? ⟨g, t' * 2 + 1, none⟩ = some (.slice t0 t1 t2) := by rw [kz.cell hgw]; exact c1
          have z0 : W.frozen? ⟨g, t' * 2, none⟩ = false := by rw [kz.frozen hgw]; exact f0
          have z1 : W.frozen? ⟨g, t' * 2 + 1, none⟩ = false := by rw [kz.frozen hgw]; exact f1
          simp only [sv]
          refine op_at rfl (fun K hK => ?_)
          go_simp
          refine hK _ _ ?_
          exact ⟨_, _, _, _, _, _, _, _, _, _, _, _, rfl, (fun q => by have q2 : Lb 10 = false := q; rw [hcc] at q2; cases q2), (fun _ q => by cases q), (fun _ => ⟨W, (x0, x1, x2), (y0, y1, y2), J, rfl, oE, oM, e1, e2, kz⟩), R.dep, (fun _ => hcc), R.k0, R.k1, R.k2, R.k3, R.k4, R.k5, R.k6, R.k7, R.k8, R.k9, R.k11⟩
      case refine_2 =>
        intro Lb a' W hI hall
        obtain ⟨u40, u41, u42, u43, u44, u45, u46, u47, u48, u49, u50, u51, rfl, R⟩ := hI
        have hS := R.st2 (hall 12)
        clear R hall
        obtain ⟨W1, s, u, J, rfl, oE, oM, e1, e2, kk⟩ := hS
        have kw := HBW.out W1 kk
        have hO := HO2.out.kept kw
        have hsz : w2.heap.size ≤ W0.heap.size := by have := HSZ.out; omega
        have hP := hO.put htL (oE.mono hsz) (oM.mono hsz)
        have HG := hidIt hP.grow
        have HB3 := hidIt (HB2.out.trans (((kw.mono (Nat.le_trans HB2.out.size (Nat.le_refl _))).setCell (p := ⟨g, t' * 2, none⟩) hgl (sv s)).setCell (p := ⟨g, t' * 2 + 1, none⟩) hgl (sv u)))
        have HT := hidIt (HTY1.out _ (HTS.out f' t' J z8 z9 e1 e2))
        generalize (W1.setCell ⟨g, t' * 2, none⟩ (sv s)).setCell ⟨g, t' * 2 + 1, none⟩ (sv u) = w9 at HG HB3 ⊢
        clear hP hO kw oE oM e1 e2 kk
        go_wp2_with (fail)
        refine bodyPost_ret (v := .tuple #[.slice (some ⟨g, 0, none⟩) m vc, .bool true]) (by simp [results, Try.results9, go_sem]) rfl ?_
        exact TolP.of rfl HT.out HG.out HB3.out
    · have HT := hidIt (HTO.out q)
      clear CB HTY HTO HTS
      by_cases z1 : f < 0
      · have z1' : decide (f < 0) = true := decide_eq_true z1
        clear q
        go_wp2_with (fail)
        refine bodyPost_ret (v := .tuple #[.slice (some ⟨g, 0, none⟩) m vc, .bool false]) (by simp [results, Try.results9, go_sem]) rfl ?_
        exact TolP.of rfl HT.out HO2.out HB2.out
      · have z1' : decide (f < 0) = false := decide_eq_false z1
        by_cases z2 : (m : Int) ≤ f
        · have z2' : decide ((m : Int) ≤ f) = true := decide_eq_true z2
          clear q
          go_wp2_with (fail)
          refine bodyPost_ret (v := .tuple #[.slice (some ⟨g, 0, none⟩) m vc, .bool false]) (by simp [results, Try.results9, go_sem]) rfl ?_
          exact TolP.of rfl HT.out HO2.out HB2.out
        · have z2' : decide ((m : Int) ≤ f) = false := decide_eq_false z2
          by_cases z3 : t < 0
          · have z3' : decide (t < 0) = true := decide_eq_true z3
            clear q
            go_wp2_with (fail)
            refine bodyPost_ret (v := .tuple #[.slice (some ⟨g, 0, none⟩) m vc, .bool false]) (by simp [results, Try.results9, go_sem]) rfl ?_
            exact TolP.of rfl HT.out HO2.out HB2.out
          · have z3' : decide (t < 0) = false := decide_eq_false z3
            by_cases z4 : (m : Int) ≤ t
            · have z4' : decide ((m : Int) ≤ t) = true := decide_eq_true z4
              clear q
              go_wp2_with (fail)
              refine bodyPost_ret (v := .tuple #[.slice (some ⟨g, 0, none⟩) m vc, .bool false]) (by simp [results, Try.results9, go_sem]) rfl ?_
              exact TolP.of rfl HT.out HO2.out HB2.out
            · have z4' : decide ((m : Int) ≤ t) = false := decide_eq_false z4
              have ef : f = t := by
                unfold inG at q
                omega
              subst ef
              have z5 : (f == f) = true := by simp
              clear q
              go_wp2_with (fail)
              refine bodyPost_ret (v := .tuple #[.slice (some ⟨g, 0, none⟩) m vc, .bool false]) (by simp [results, Try.results9, go_sem]) rfl ?_
              exact TolP.of rfl HT.out HO2.out HB2.out
end Go.Proofs.Ytllajhieocploaa.Rp
namespace Go.Proofs.Ytllajhieocploaa.Bk
set_option linter.unusedVariables false
/-- What has become of them behind k steps around. -/
def st (G : List (List En)) (k : Nat) : List (List En) := if k < G.length then pass G k else pass (round1 G) (k - G.length)
theorem st_zero {G : List (List En)} (h : 0 < G.length) : st G 0 = G := by unfold st; rw [if_pos h]; rfl
theorem st_last {G : List (List En)} (h : 0 < G.length) : st G (2 * G.length - 1) = around G := by
  unfold st around
  by_cases q : 2 * G.length - 1 < G.length
  · omega
  · rw [if_neg q, show 2 * G.length - 1 - G.length = G.length - 1 by omega]
theorem st_one {G : List (List En)} (h : G.length = 1) : st G 1 = G := by
  unfold st
  rw [if_neg (by omega), h]
  show pass (round1 G) 0 = G
  show round1 G = G
  unfold round1
  rw [if_neg (by omega), h]
  rfl
theorem st_step {G : List (List En)} {k n : Nat} (hn : G.length = n) (h1 : 1 < n) (hk : k + 1 < 2 * n) : st G (k + 1) = tell (st G k) (k % n) ((k + 1) % n) := by
  subst hn
  unfold st
  by_cases q : k + 1 < G.length
  · rw [if_pos q, if_pos (by omega), pass_succ, Nat.mod_eq_of_lt (by omega), Nat.mod_eq_of_lt q]
  · by_cases q2 : k + 1 = G.length
    · rw [if_neg q, if_pos (by omega), q2, Nat.mod_self, Nat.sub_self, Nat.mod_eq_of_lt (by omega)]
      show round1 G = _
      unfold round1
      rw [if_pos h1, show G.length - 1 = k by omega]
    · rw [if_neg q, if_neg (by omega), show k + 1 - G.length = (k - G.length) + 1 by omega, pass_succ, Nat.mod_eq_sub_mod (a := k) (by omega), Nat.mod_eq_sub_mod (a := k + 1) (by omega), Nat.mod_eq_of_lt (a := k - G.length) (by omega), Nat.mod_eq_of_lt (a := k + 1 - G.length) (by omega), show k + 1 - G.length = (k - G.length) + 1 by omega]
end Go.Proofs.Ytllajhieocploaa.Bk
namespace Go.Proofs.Ytllajhieocploaa.Mk
set_option linter.unusedVariables false
/-- What has become of them behind k steps around. -/
def st (G : List (List En)) (k : Nat) : List (List En) := if k < G.length then pass G k else pass (round1 G) (k - G.length)
theorem st_zero {G : List (List En)} (h : 0 < G.length) : st G 0 = G := by unfold st; rw [if_pos h]; rfl
theorem st_last {G : List (List En)} (h : 0 < G.length) : st G (2 * G.length - 1) = around G := by
  unfold st around
  by_cases q : 2 * G.length - 1 < G.length
  · omega
  · rw [if_neg q, show 2 * G.length - 1 - G.length = G.length - 1 by omega]
theorem st_one {G : List (List En)} (h : G.length = 1) : st G 1 = G := by
  unfold st
  rw [if_neg (by omega), h]
  show pass (round1 G) 0 = G
  show round1 G = G
  unfold round1
  rw [if_neg (by omega), h]
  rfl
theorem st_step {G : List (List En)} {k n : Nat} (hn : G.length = n) (h1 : 1 < n) (hk : k + 1 < 2 * n) : st G (k + 1) = tell (st G k) (k % n) ((k + 1) % n) := by
  subst hn
  unfold st
  by_cases q : k + 1 < G.length
  · rw [if_pos q, if_pos (by omega), pass_succ, Nat.mod_eq_of_lt (by omega), Nat.mod_eq_of_lt q]
  · by_cases q2 : k + 1 = G.length
    · rw [if_neg q, if_pos (by omega), q2, Nat.mod_self, Nat.sub_self, Nat.mod_eq_of_lt (by omega)]
      show round1 G = _
      unfold round1
      rw [if_pos h1, show G.length - 1 = k by omega]
    · rw [if_neg q, if_neg (by omega), show k + 1 - G.length = (k - G.length) + 1 by omega, pass_succ, Nat.mod_eq_sub_mod (a := k) (by omega), Nat.mod_eq_sub_mod (a := k + 1) (by omega), Nat.mod_eq_of_lt (a := k - G.length) (by omega), Nat.mod_eq_of_lt (a := k + 1 - G.length) (by omega), show k + 1 - G.length = (k - G.length) + 1 by omega]
end Go.Proofs.Ytllajhieocploaa.Mk
namespace Go.Proofs.Ytllajhieocploaa.Rp
open Go.ChangeShapes Go.WideShapes Go.ChangeAt Go.RowKit
open Go.Proofs.Ytllajhieocploaa.Vv (Sl sv hidIt)
set_option linter.unusedVariables false
theorem mod_ne {k n : Nat} (h1 : 1 < n) : k % n ≠ (k + 1) % n := by
  intro e
  have h := Nat.mod_add_mod k n 1
  rw [← h] at e
  have hl : k % n < n := Nat.mod_lt _ (by omega)
  by_cases q : k % n + 1 < n
  · rw [Nat.mod_eq_of_lt q] at e
    omega
  · rw [show k % n + 1 = n by omega, Nat.mod_self] at e
    omega
theorem okR_short {r : Rep} (h : okR r = true) : ∀ j, j < r.1.length → (En.rat r.1 j).1.size ≤ 9223372036854775807 ∧ (En.rat r.1 j).2.1.size ≤ 9223372036854775807 := by
  intro j hj
  unfold okR at h
  rw [Bool.and_eq_true] at h
  have hm : En.toE (En.rat r.1 j) ∈ En.toB r.1 := List.mem_map.2 ⟨_, En.rat_mem hj, rfl⟩
  have ho := Bk.ok_all h.1 hm
  unfold Bk.okE at ho
  simp only [Bool.and_eq_true, decide_eq_true_eq] at ho
  have e1 : (En.toE (En.rat r.1 j)).key.length = (En.rat r.1 j).1.size := En.bs_length _
  have e2 : (En.toE (En.rat r.1 j)).value.length = (En.rat r.1 j).2.1.size := En.bs_length _
  omega
theorem okG_short {L : List Rep} (h : okG L = true) : Short L := fun i hi j hj => okR_short ((okG_all h).2.2.1 i hi) j hj
/-- Where Around stands behind k steps. -/
def ArS (w wx : World) (L : List Rep) (k : Nat) (v : Value) : Prop := ∃ M, bks M = Bk.st (bks L) k ∧ mbs M = Mk.st (mbs L) k ∧ okG M = true ∧ M.length = L.length ∧ Own wx w.heap.size wx.heap.size v M ∧ Below w.heap.size w wx
theorem ars_step {L M : List Rep} {k : Nat} (hb : bks M = Bk.st (bks L) k) (hm : mbs M = Mk.st (mbs L) k) (ok : okG M = true) (hl : M.length = L.length) (hk : k + 1 < 2 * L.length) {M' : List Rep} {b : Bool} (t : ToldR M ((k % L.length : Nat) : Int) (((k + 1) % L.length : Nat) : Int) M' b) : bks M' = Bk.st (bks L) (k + 1) ∧ mbs M' = Mk.st (mbs L) (k + 1) ∧ okG M' = true ∧ M'.length = L.length := by
  have h1 := (okG_all ok).1
  by_cases hn : 1 < L.length
  · have hr : inG M.length ((k % L.length : Nat) : Int) (((k + 1) % L.length : Nat) : Int) := by
      have a1 : k % L.length < L.length := Nat.mod_lt _ (by omega)
      have a2 : (k + 1) % L.length < L.length := Nat.mod_lt _ (by omega)
      have a3 := mod_ne (k := k) hn
      unfold inG
      rw [hl]
      omega
    obtain ⟨r, _⟩ := t.yes ok hr
    have a1 : k % L.length < M.length := by rw [hl]; exact Nat.mod_lt _ (by omega)
    have a2 : (k + 1) % L.length < M.length := by rw [hl]; exact Nat.mod_lt _ (by omega)
    simp only [Int.toNat_natCast] at r
    refine ⟨?_, ?_, okG_tell ok a1 a2 r, by rw [r.len, hl]⟩
    · rw [r.bk, hb, Bk.st_step (bks_length L) hn hk]
    · rw [r.mb, hm, Mk.st_step (mbs_length L) hn hk]
  · have e1 : L.length = 1 := by omega
    have e0 : k = 0 := by omega
    subst e0
    have hr : ¬ inG M.length ((0 % L.length : Nat) : Int) (((0 + 1) % L.length : Nat) : Int) := by
      rw [e1]
      unfold inG
      simp
    obtain ⟨rfl, _⟩ := t.out ok hr
    refine ⟨?_, ?_, ok, hl⟩
    · rw [hb, Bk.st_zero (by rw [bks_length]; omega), Bk.st_one (by rw [bks_length]; exact e1)]
    · rw [hm, Mk.st_zero (by rw [mbs_length]; omega), Mk.st_one (by rw [mbs_length]; exact e1)]
set_option maxRecDepth 100000 in
set_option maxHeartbeats 8000000 in
theorem impl_Around (a : Option Addr) (cap : Nat) (L : List Rep) (w : World) (h : Rd w a L) (hs : Short L) (hl : L.length ≤ 9223372036854775807) (hlb : ∀ i, i < L.length → (rat L i).1.length ≤ 9223372036854775807 ∧ (rat L i).2.length ≤ 9223372036854775807) :
    Calls Try.prog 14 #[.slice a L.length cap] w fun e w' => ArnP L w e w' := by
  have CG := hidIt (fun W (r : Rd W a L) => impl_GroupOk a cap L W r hs hl hlb)
  have HR := hidIt h
  clear h hs hlb
  cases ok : okG L with
  | false =>
    rw [ok] at CG
    have HT := hidIt (ArndR.mkNo ok)
    clear ok
    generalize L.length = m at *
    go_enter Try.func14, Try.ntmps14
    go_wp2_with (fail)
    refine (CG.out _ HR.out).mono ?_
    rintro e w1 ⟨rfl, k⟩
    have HB1 := hidIt k
    clear k
    go_wp2_with (fail)
    go_ret
    exact ArnP.of HT.out (LstP.of rfl ((Own.new w1).mono HB1.out.size (by simp) (Nat.le_refl _)) (HB1.out.alloc HB1.out.size _))
  | true =>
    rw [ok] at CG
    have hT := okG_tame ok
    have h1 := (okG_all ok).1
    have h6 := (okG_all ok).2.1
    have CC := hidIt (fun W (r : Rd W a L) => impl_copiedReplicas a cap L W r hT)
    have HTY := hidIt (fun M h1 h2 => ArndR.mkYes (M := M) ok h1 h2)
    have HA0 : Hid (∀ W v, Own W w.heap.size W.heap.size v L → Below w.heap.size w W → ArS w W L 0 v) := hidIt (fun W v o k => ⟨L, (Bk.st_zero (by rw [bks_length]; omega)).symm, (Mk.st_zero (by rw [mbs_length]; omega)).symm, ok, rfl, o, k⟩)
    have HA1 : Hid (∀ W v k, ArS w W L k v → k + 1 < 2 * L.length → ∀ (f t : Int), f = ((k % L.length : Nat) : Int) → t = (((k + 1) % L.length : Nat) : Int) → Calls Try.prog 9 #[v, .int .i64 f, .int .i64 t] W fun e w' => ∃ g c b, e = .returned (.tuple #[.slice g L.length c, .bool b]) ∧ ArS w w' L (k + 1) (.slice g L.length c)) := hidIt (fun W v k hA hk f t ef et => by
      subst ef et
      obtain ⟨M, e1, e2, okM, hlM, o, kb⟩ := hA
      obtain ⟨va, vc, ev, hvc, hvm, hvn⟩ := o.formN hlM
      subst ev
      have hTM := okG_tame okM
      have C := impl_Told va vc M ((k % L.length : Nat) : Int) (((k + 1) % L.length : Nat) : Int) W o.rd (okG_short okM) (by rw [hlM]; omega) (fun i hi => ⟨by have := hTM.bl i hi; omega, by have := hTM.ml i hi; omega⟩)
      rw [hlM] at C
      refine C.mono ?_
      intro e w' hz
      obtain ⟨v', M', b, rfl, tR, o', k'⟩ := hz.out
      obtain ⟨q1, q2, q3, q4⟩ := ars_step e1 e2 okM hlM hk tR
      obtain ⟨ya, yc, ey, _⟩ := o'.formN q4
      subst ey
      exact ⟨ya, yc, b, rfl, M', q1, q2, q3, q4, o'.mono kb.size (Nat.le_refl _) (Nat.le_refl _), on kb k'⟩)
    have HA2 : Hid (∀ W v, ArS w W L (2 * L.length - 1) v → ArnP L w (.returned v) W) := hidIt (fun W v hA => by
      obtain ⟨M, e1, e2, okM, hlM, o, kb⟩ := hA
      have z1 := Bk.st_last (G := bks L) (by rw [bks_length]; omega)
      have z2 := Mk.st_last (G := mbs L) (by rw [mbs_length]; omega)
      rw [bks_length] at z1
      rw [mbs_length] at z2
      exact ArnP.of (HTY.out M (e1.trans z1) (e2.trans z2)) (LstP.of rfl o kb))
    clear ok hT HTY
    generalize hn : L.length = m at *
    have HN := hidIt hn
    clear hn
    go_enter Try.func14, Try.ntmps14
    go_wp2_with (fail)
    refine (CG.out _ HR.out).mono ?_
    rintro e w1 ⟨rfl, k⟩
    have HB1 := hidIt k
    clear k
    go_wp2_with (fail)
    refine (CC.out _ (HR.out.kept HB1.out)).mono ?_
    intro e w2 hz
    obtain ⟨v, rfl, o2, k2⟩ := hz.out
    obtain ⟨va, vc, ev, hvc, hvm, hvn⟩ := o2.formN HN.out
    subst ev
    have HS0 := hidIt (HA0.out w2 _ (o2.mono HB1.out.size (Nat.le_refl _) (Nat.le_refl _)) (on HB1.out k2))
    clear hz o2 k2 hvn CG CC HA0 HB1
    have hm1 : (1 : Int) ≤ (m : Int) := by omega
    have hm6 : (m : Int) ≤ 6 := by omega
    go_wp2_with (fail)
    go_loopw [3, 17] (fun z y wx => ∃ (k : Nat) (za : Option Addr) (zc : Nat), y = .int .i64 k ∧ z = .slice za m zc ∧ k ≤ 2 * m - 1 ∧ Hid (ArS w wx L k (.slice za m zc))) (fun _ y _ => (2 * m - intOf y).toNat)
    case atStart => exact ⟨0, va, vc, rfl, rfl, by omega, HS0⟩
    case round =>
      obtain ⟨k, za, zc, rfl, rfl, hk, HS⟩ := hrel
      clear HS0
      by_cases hin : k < 2 * m - 1
      · have hin' : (k : Int) < 2 * (m : Int) - 1 := by omega
        have hk0 : (0 : Int) ≤ (k : Int) := by omega
        have hmz : ¬ ((m : Int) = 0) := by omega
        have HA : Hid (ArS w wr.drew L k (.slice za m zc)) := hidIt (by
          obtain ⟨M, e1, e2, e3, e4, o, kb⟩ := HS.out
          exact ⟨M, e1, e2, e3, e4, (o.kept ((Below.refl _ wr).drew)).grow, kb.drew⟩)
        have C := hidIt (HA1.out wr.drew _ k HA.out (by omega) ((k : Int) % (m : Int)) (((k : Int) + 1) % (m : Int)) (by simp) (by simp))
        clear HA HS
        go_wp2_with (fail)
        go_region_with (go_at_call 9; refine C.out.mono ?_; rintro e w5 ⟨g5, c5, b5, rfl, s5⟩)
        all_goals (have HS5 := hidIt s5; clear s5; first | exact ⟨⟨k + 1, g5, c5, by simp, rfl, by omega, HS5⟩, by simp [intOf]; omega⟩ | (go_wp2_with (fail); exact ⟨⟨k + 1, g5, c5, by simp, rfl, by omega, HS5⟩, by simp [intOf]; omega⟩))
      · have hin' : ¬ (k : Int) < 2 * (m : Int) - 1 := by omega
        obtain rfl : k = 2 * m - 1 := by omega
        have HF := hidIt (HA2.out _ _ HS.out)
        go_wp2_with (fail)
        go_ret
        exact HF.out
end Go.Proofs.Ytllajhieocploaa.Rp
