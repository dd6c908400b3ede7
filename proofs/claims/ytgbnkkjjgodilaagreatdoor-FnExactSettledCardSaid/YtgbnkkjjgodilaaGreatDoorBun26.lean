/- bothOf, Told and Around of the program. (Written by wip/mkTold.py.) -/
import Derived.Test.YtgbnkkjjgodilaaGreatDoorBun24
import Derived.Test.YtgbnkkjjgodilaaGreatDoorBun25
import Derived.Test.YtgbnkkjjgodilaaGreatDoorBun9
import Derived.Test.YtgbnkkjjgodilaaGreatDoorBun13
set_option maxRecDepth 100000
set_option maxHeartbeats 32000000
set_option linter.unusedVariables false
namespace Go.Proofs.YtgbnkkjjgodilaaGreatDoor.Rp
open Go.ChangeShapes Go.WideShapes Go.ChangeAt Go.RowKit
open Vv (Sl sv hidIt)
open Rg (upd waits wp_region_inv op_at)
def BotP (r r' : Rep) (w : World) (e : Ending) (w' : World) : Prop:=∃ (x y : Sl) (J : Rep),e = .returned (.agg #[sv x,sv y]) ∧ En.Own w' w.heap.size (sv x) J.1 ∧ Mm.Own w' w.heap.size (sv y) J.2 ∧ En.toB J.1 = Bk.mergeE (En.toB r.1) (En.toB r'.1) ∧ Mm.toB J.2 = Mk.mergeE (Mm.toB r.2) (Mm.toB r'.2) ∧ Below w.heap.size w w'
theorem BotP.of {r r' : Rep} {w w' : World} {e : Ending} (x y : Sl) (J : Rep) (h : e = .returned (.agg #[sv x,sv y])) (h1 : En.Own w' w.heap.size (sv x) J.1) (h2 : Mm.Own w' w.heap.size (sv y) J.2) (h3 : En.toB J.1 = Bk.mergeE (En.toB r.1) (En.toB r'.1)) (h4 : Mm.toB J.2 = Mk.mergeE (Mm.toB r.2) (Mm.toB r'.2)) (h5 : Below w.heap.size w w') : BotP r r' w e w':=⟨x,y,J,h,h1,h2,h3,h4,h5⟩
theorem BotP.out {r r' : Rep} {w w' : World} {e : Ending} (h : BotP r r' w e w') : ∃ (x y : Sl) (J : Rep),e = .returned (.agg #[sv x,sv y]) ∧ En.Own w' w.heap.size (sv x) J.1 ∧ Mm.Own w' w.heap.size (sv y) J.2 ∧ En.toB J.1 = Bk.mergeE (En.toB r.1) (En.toB r'.1) ∧ Mm.toB J.2 = Mk.mergeE (Mm.toB r.2) (Mm.toB r'.2) ∧ Below w.heap.size w w':=h
theorem impl_bothOf (s t p q : Sl) (r r' : Rep) (w : World) (hE : RdE w s r.1) (hM : RdM w t r.2) (hE' : RdE w p r'.1) (hM' : RdM w q r'.2) (hs : En.shortR r.1) (hs' : En.shortR r'.1) (ok : okR r = true) (ok' : okR r' = true) (hl : (Bk.mergeE (En.toB r.1) (En.toB r'.1)).length ≤ 80) :
  Calls Tryz.prog 90 #[.agg #[sv s,sv t],.agg #[sv p,sv q]] w fun e w'=>BotP r r' w e w':=by
 unfold okR at ok ok'
 rw [Bool.and_eq_true] at ok ok'
 have ej : Bk.joinB (En.toB r.1) (En.toB r'.1) = (Bk.mergeE (En.toB r.1) (En.toB r'.1),true):=by unfold Bk.joinB; rw [if_pos ⟨ok.1,ok'.1,hl⟩]
 have em : Mk.mergeB (Mm.toB r.2) (Mm.toB r'.2) = Mk.mergeE (Mm.toB r.2) (Mm.toB r'.2):=by unfold Mk.mergeB; rw [if_pos ⟨ok.2,ok'.2⟩]
 obtain ⟨s0,s1,s2⟩:=s
 obtain ⟨t0,t1,t2⟩:=t
 obtain ⟨p0,p1,p2⟩:=p
 obtain ⟨q0,q1,q2⟩:=q
 obtain ⟨e1,rE,nE,lE,cE⟩:=hE
 obtain ⟨e2,rM,nM,lM,cM⟩:=hM
 obtain ⟨e3,rE',nE',lE',cE'⟩:=hE'
 obtain ⟨e4,rM',nM',lM',cM'⟩:=hM'
 simp only at e1 rE nE lE cE e2 rM nM lM cM e3 rE' nE' lE' cE' e4 rM' nM' lM' cM'
 have C1:=hidIt (fun W (h : En.Rd W s0 r.1) (h' : En.Rd W p0 r'.1)=>En.impl_Joined s0 p0 s2 p2 r.1 r'.1 W h h' lE lE' (by omega) (by omega) hs hs')
 have C2:=hidIt (fun W (h : Mm.Rd W t0 r.2) (h' : Mm.Rd W q0 r'.2)=>Mm.impl_Merged t0 q0 t2 q2 r.2 r'.2 W h h' nM (by omega) (by omega))
 rw [ej,← e1,← e3] at C1
 rw [em,← e2,← e4] at C2
 simp only at C1
 have HF : Hid (∀ (x y : Sl) (J : Rep) (w' : World),En.Own w' w.heap.size (sv x) J.1 → Mm.Own w' w.heap.size (sv y) J.2 → En.toB J.1 = Bk.mergeE (En.toB r.1) (En.toB r'.1) → Mm.toB J.2 = Mk.mergeE (Mm.toB r.2) (Mm.toB r'.2) → Below w.heap.size w w' → BotP r r' w (.returned (.agg #[sv x,sv y])) w'):=hidIt (fun x y J w' h1 h2 h3 h4 h5=>BotP.of x y J rfl h1 h2 h3 h4 h5)
 generalize Bk.mergeE (En.toB r.1) (En.toB r'.1) = gE at C1 HF
 generalize Mk.mergeE (Mm.toB r.2) (Mm.toB r'.2) = gM at C2 HF
 have ka:=(((Below.refl w.heap.size w).alloc (Nat.le_refl _) (.cells #[.slice s0 s1 s2,.slice t0 t1 t2] 43)).alloc (by simp) (.cells #[.slice p0 p1 p2,.slice q0 q1 q2] 43)).alloc (by simp; omega) (.cells #[.slice none 0 0,.slice none 0 0] 43)
 have HB:=hidIt ka
 have B1:=Bo.Box.new w #[.slice s0 s1 s2,.slice t0 t1 t2] 43
 have B2:=Bo.Box.new (w.alloc (.cells #[.slice s0 s1 s2,.slice t0 t1 t2] 43)) #[.slice p0 p1 p2,.slice q0 q1 q2] 43
 have B3:=Bo.Box.new ((w.alloc (.cells #[.slice s0 s1 s2,.slice t0 t1 t2] 43)).alloc (.cells #[.slice p0 p1 p2,.slice q0 q1 q2] 43)) #[.slice none 0 0,.slice none 0 0] 43
 have k2:=(Below.refl (w.alloc (.cells #[.slice s0 s1 s2,.slice t0 t1 t2] 43)).heap.size (w.alloc (.cells #[.slice s0 s1 s2,.slice t0 t1 t2] 43))).alloc (Nat.le_refl _) (.cells #[.slice p0 p1 p2,.slice q0 q1 q2] 43)
 have k3:=(Below.refl ((w.alloc (.cells #[.slice s0 s1 s2,.slice t0 t1 t2] 43)).alloc (.cells #[.slice p0 p1 p2,.slice q0 q1 q2] 43)).heap.size ((w.alloc (.cells #[.slice s0 s1 s2,.slice t0 t1 t2] 43)).alloc (.cells #[.slice p0 p1 p2,.slice q0 q1 q2] 43))).alloc (Nat.le_refl _) (.cells #[.slice none 0 0,.slice none 0 0] 43)
 have BX:=hidIt ((B1.kept k2).kept k3)
 have BY:=hidIt (B2.kept k3)
 have BZ:=hidIt B3
 have H1:=hidIt (rE.kept ka)
 have H2:=hidIt (rM.kept ka)
 have H3:=hidIt (rE'.kept ka)
 have H4:=hidIt (rM'.kept ka)
 clear ka B1 B2 B3 k2 k3 rE rM rE' rM' e1 e2 e3 e4 ej em hs hs'
 simp only [sv]
 go_enter Tryz.func90,Tryz.ntmps90
 go_wp2_with (fail)
 have HSZ : Hid ((((w.alloc (.cells #[.slice s0 s1 s2,.slice t0 t1 t2] 43)).alloc (.cells #[.slice p0 p1 p2,.slice q0 q1 q2] 43)).alloc (.cells #[.slice none 0 0,.slice none 0 0] 43)).heap.size = w.heap.size + 3):=hidIt (by simp)
 have hb2 : (w.alloc (.cells #[.slice s0 s1 s2,.slice t0 t1 t2] 43)).heap.size = w.heap.size + 1:=by simp
 have hb3 : ((w.alloc (.cells #[.slice s0 s1 s2,.slice t0 t1 t2] 43)).alloc (.cells #[.slice p0 p1 p2,.slice q0 q1 q2] 43)).heap.size = w.heap.size + 2:=by simp
 rw [hb2] at BY
 rw [hb3] at BZ
 clear hb2 hb3
 generalize ((w.alloc (.cells #[.slice s0 s1 s2,.slice t0 t1 t2] 43)).alloc (.cells #[.slice p0 p1 p2,.slice q0 q1 q2] 43)).alloc (.cells #[.slice none 0 0,.slice none 0 0] 43) = wz at HB BX BY BZ H1 H2 H3 H4 HSZ ⊢
 refine (C1.out _ H1.out H3.out).mono ?_
 rintro e w1 ⟨v,J1,rfl,j1,o1,k1⟩
 obtain ⟨za,zc,ez,_⟩:=o1.form
 subst ez
 have HB1:=hidIt (on HB.out k1)
 have BZ1:=hidIt (BZ.out.kept k1)
 have c1:=(BX.out.kept k1).c 1 rfl
 have c2:=(BY.out.kept k1).c 1 rfl
 have H5:=hidIt (H2.out.kept k1)
 have H6:=hidIt (H4.out.kept k1)
 have HO1:=hidIt o1
 have HJ1:=hidIt j1
 have HK1:=hidIt k1
 clear k1 o1 j1
 generalize hj1 : J1.length = l1 at *
 have HL1:=hidIt hj1
 clear hj1
 go_wp2_with (fail)
 refine (C2.out _ H5.out H6.out).mono ?_
 rintro e w2 ⟨v,J2,rfl,j2,o2,k2⟩
 obtain ⟨ya,yc,ey,_⟩:=o2.form
 subst ey
 have HB2:=hidIt (on HB1.out k2)
 have BZ2:=hidIt (BZ1.out.kept k2)
 have d0:=BZ2.out.c 0 rfl
 have d1:=BZ2.out.c 1 rfl
 have fz:=BZ2.out.fr
 have HO2:=hidIt o2
 have HO3:=hidIt (HO1.out.kept k2)
 have HJ2:=hidIt j2
 have HSz1:=HK1.out.size
 clear k2 o2 j2 c1 c2
 generalize hj2 : J2.length = l2 at *
 have HL2:=hidIt hj2
 clear hj2
 go_wp2_with (fail)
 have BX9:=hidIt ((BZ2.out.put 0 (.slice za l1 zc) (by decide) rfl).put 1 (.slice ya l2 yc) (by simp) rfl)
 have HB9:=hidIt ((HB2.out.setCell (p:=⟨w.heap.size + 2,0,none⟩) (by simp) (.slice za l1 zc)).setCell (p:=⟨w.heap.size + 2,1,none⟩) (by simp) (.slice ya l2 yc))
 have OE9 : En.Own ((w2.setCell ⟨w.heap.size + 2,0,none⟩ (.slice za l1 zc)).setCell ⟨w.heap.size + 2,1,none⟩ (.slice ya l2 yc)) w.heap.size (sv (za,l1,zc)) J1:=En.Own.mono (ownsRow_setCell_below (ownsRow_setCell_below HO3.out (a:=⟨w.heap.size + 2,0,none⟩) (by have:=HSZ.out; show w.heap.size + 2 < _; omega) _) (a:=⟨w.heap.size + 2,1,none⟩) (by have:=HSZ.out; show w.heap.size + 2 < _; omega) _) (by have:=HSZ.out; omega)
 have OM9 : Mm.Own ((w2.setCell ⟨w.heap.size + 2,0,none⟩ (.slice za l1 zc)).setCell ⟨w.heap.size + 2,1,none⟩ (.slice ya l2 yc)) w.heap.size (sv (ya,l2,yc)) J2:=Mm.Own.mono (ownsRow_setCell_below (ownsRow_setCell_below HO2.out (a:=⟨w.heap.size + 2,0,none⟩) (by have:=HSZ.out; show w.heap.size + 2 < _; omega) _) (a:=⟨w.heap.size + 2,1,none⟩) (by have:=HSZ.out; show w.heap.size + 2 < _; omega) _) (by have:=HSZ.out; omega)
 have HFin:=hidIt (HF.out (za,l1,zc) (ya,l2,yc) (J1,J2) _ OE9 OM9 HJ1.out HJ2.out HB9.out)
 clear OE9 OM9 HB9
 generalize (w2.setCell ⟨w.heap.size + 2,0,none⟩ (.slice za l1 zc)).setCell ⟨w.heap.size + 2,1,none⟩ (.slice ya l2 yc) = w9 at BX9 HFin ⊢
 have t0':=BX9.out.c 0 (v:=.slice za l1 zc) rfl
 have t1':=BX9.out.c 1 (v:=.slice ya l2 yc) rfl
 exact bodyPost_ret (v:=.agg #[.slice za l1 zc,.slice ya l2 yc]) (by simp [results,Tryz.results90,go_sem,t0',t1']) rfl HFin.out
def CPTb (g m cap f t s1 s2 t1 t2 p1 p2 q1 q2 : Nat) (s0 t0 p0 q0 : Option Addr) (r r' : Rep) (w0 : World) (W : World) (v : Value) : Prop:=∃ (s u : Sl) (J : Rep),v = .agg #[sv s,sv u] ∧ En.Own W w0.heap.size (sv s) J.1 ∧ Mm.Own W w0.heap.size (sv u) J.2 ∧ En.toB J.1 = Bk.mergeE (En.toB r.1) (En.toB r'.1) ∧ Mm.toB J.2 = Mk.mergeE (Mm.toB r.2) (Mm.toB r'.2) ∧ Below w0.heap.size w0 W
def SPTb (g m cap f t s1 s2 t1 t2 p1 p2 q1 q2 : Nat) (s0 t0 p0 q0 : Option Addr) (r r' : Rep) (w0 : World) (W' : World) : Prop:=∃ (W : World) (s u : Sl) (J : Rep),W' = (W.setCell ⟨g,t * 2,none⟩ (sv s)).setCell ⟨g,t * 2 + 1,none⟩ (sv u) ∧ En.Own W w0.heap.size (sv s) J.1 ∧ Mm.Own W w0.heap.size (sv u) J.2 ∧ En.toB J.1 = Bk.mergeE (En.toB r.1) (En.toB r'.1) ∧ Mm.toB J.2 = Mk.mergeE (Mm.toB r.2) (Mm.toB r'.2) ∧ Below w0.heap.size w0 W
structure RK_Tb (g m cap f t s1 s2 t1 t2 p1 p2 q1 q2 : Nat) (s0 t0 p0 q0 : Option Addr) (r r' : Rep) (w0 : World) (W0 : World) (L : Nat → Bool) (u40 u41 u42 u43 u44 u45 u46 u47 u48 u49 u50 u51 : Value) (W : World) : Prop where
 st0 : L 10 = false → W = W0
 st1 : L 10 = true → L 12 = false → CPTb g m cap f t s1 s2 t1 t2 p1 p2 q1 q2 s0 t0 p0 q0 r r' w0 W u50
 st2 : L 12 = true → SPTb g m cap f t s1 s2 t1 t2 p1 p2 q1 q2 s0 t0 p0 q0 r r' w0 W
 dep : L 10 = true → L 5 = true ∧ L 9 = true
 dps : L 12 = true → L 10 = true
 k0 : L 0 = true → u40 = .slice (some ⟨g,0,none⟩) m cap
 k1 : L 1 = true → u41 = .int .i64 t
 k2 : L 2 = true → u42 = .slice (some ⟨g,0,none⟩) m cap
 k3 : L 3 = true → u43 = .int .i64 f
 k4 : L 4 = true → u44 = .pointer (some ⟨g,f * 2,none⟩)
 k5 : L 5 = true → u45 = .agg #[.slice p0 p1 p2,.slice q0 q1 q2]
 k6 : L 6 = true → u46 = .slice (some ⟨g,0,none⟩) m cap
 k7 : L 7 = true → u47 = .int .i64 t
 k8 : L 8 = true → u48 = .pointer (some ⟨g,t * 2,none⟩)
 k9 : L 9 = true → u49 = .agg #[.slice s0 s1 s2,.slice t0 t1 t2]
 k11 : L 11 = true → u51 = .pointer (some ⟨g,t * 2,none⟩)
def KK_Tb (g m cap f t s1 s2 t1 t2 p1 p2 q1 q2 : Nat) (s0 t0 p0 q0 : Option Addr) (r r' : Rep) (w0 : World) (W0 : World) (y0 y1 y2 y3 y4 y5 y6 y7 y8 y9 y10 y11 y12 y13 y14 y15 y16 y17 y18 y19 y20 y21 y22 y23 y24 y25 y26 y27 y28 y29 y30 y31 y32 y33 y34 y35 y36 y37 y38 y39 y52 : Value) (L : Nat → Bool) (a : Act) (W : World) : Prop:=∃ u40 u41 u42 u43 u44 u45 u46 u47 u48 u49 u50 u51 : Value,a = ⟨(y0 :: y1 :: y2 :: y3 :: y4 :: y5 :: y6 :: y7 :: y8 :: y9 :: y10 :: y11 :: y12 :: y13 :: y14 :: y15 :: y16 :: y17 :: y18 :: y19 :: y20 :: y21 :: y22 :: y23 :: y24 :: y25 :: y26 :: y27 :: y28 :: y29 :: y30 :: y31 :: y32 :: y33 :: y34 :: y35 :: y36 :: y37 :: y38 :: y39 :: u40 :: u41 :: u42 :: u43 :: u44 :: u45 :: u46 :: u47 :: u48 :: u49 :: u50 :: u51 :: y52 :: []).toArray,[]⟩ ∧ RK_Tb g m cap f t s1 s2 t1 t2 p1 p2 q1 q2 s0 t0 p0 q0 r r' w0 W0 L u40 u41 u42 u43 u44 u45 u46 u47 u48 u49 u50 u51 W
theorem both_len {L : List Rep} (ok : okG L = true) {f t : Nat} (hf : f < L.length) (ht : t < L.length) : (Bk.mergeE (En.toB (rat L f).1) (En.toB (rat L t).1)).length ≤ 80 ∧ Bk.mergeE (En.toB (rat L f).1) (En.toB (rat L t).1) = Bk.whole (bks [rat L t,rat L f]) ∧ Mk.mergeE (Mm.toB (rat L f).2) (Mm.toB (rat L t).2) = Mk.whole (mbs [rat L t,rat L f]):=by
 have hT:=okG_tame ok
 have e1 : Bk.mergeE (En.toB (rat L f).1) (En.toB (rat L t).1) = Bk.whole (bks [rat L t,rat L f]):=by
  show _ = Bk.mergeE (Bk.mergeE [] _) _
  rw [Bk.mergeE_nil]
  exact Bk.merge_comm (hT.br f hf) (hT.br t ht)
 refine ⟨?_,e1,?_⟩
 ·
  obtain ⟨h1,h2,h3,h4⟩:=(okG_iff L).1 ok
  have hg:=h3.tell (f:=f) (t:=t) (by rw [bks_length]; exact hf) (by rw [bks_length]; exact ht)
  have hm : Bk.at0 (Bk.tell (bks L) f t) t ∈ Bk.tell (bks L) f t:=Bk.at0_mem (by rw [Bk.tell_length,bks_length]; exact ht)
  have hl:=Bk.len_whole hg.ris hm
  rw [Bk.tell_at (by rw [bks_length]; exact ht),if_pos rfl,bks_at ht,bks_at hf,Bk.merge_comm (hT.br t ht) (hT.br f hf)] at hl
  have:=hg.len
  omega
 ·
  show _ = Mk.mergeE (Mk.mergeE [] _) _
  rw [Mk.mergeE_nil]
  exact Mk.merge_comm (hT.mr f hf) (hT.mr t ht)
theorem impl_Told (a : Option Addr) (cap : Nat) (L : List Rep) (f t : Int) (w : World) (h : Rd w a L) (hs : Short L) (hl : L.length ≤ 9223372036854775807) (hlb : ∀ i,i < L.length → (rat L i).1.length ≤ 9223372036854775807 ∧ (rat L i).2.length ≤ 9223372036854775807) :
  Calls Tryz.prog 54 #[.slice a L.length cap,.int .i64 f,.int .i64 t] w fun e w'=>TolP L f t w e w':=by
 have CG:=hidIt (fun W (r : Rd W a L)=>impl_GroupOk a cap L W r hs hl hlb)
 have HR:=hidIt h
 have HSh:=hidIt hs
 clear h hs hlb
 cases ok : okG L with
 | false =>
  rw [ok] at CG
  have HT:=hidIt (ToldR.mkNo (f:=f) (t:=t) ok)
  clear ok
  generalize L.length = m at *
  go_enter Tryz.func54,Tryz.ntmps54
  go_wp2_with (fail)
  refine (CG.out _ HR.out).mono ?_
  rintro e w1 ⟨rfl,k⟩
  have HB1:=hidIt k
  clear k
  go_wp2_with (fail)
  refine bodyPost_ret (v:=.tuple #[.slice (some ⟨w1.heap.size,0,none⟩) 0 0,.bool false]) (by simp [results,Tryz.results54,go_sem]) rfl ?_
  exact TolP.of rfl HT.out ((Own.new w1).mono HB1.out.size (by simp) (Nat.le_refl _)) (HB1.out.alloc HB1.out.size _)
 | true =>
  rw [ok] at CG
  have hT:=okG_tame ok
  have hall:=okG_all ok
  have h1:=hall.1
  have h6:=hall.2.1
  have CC:=hidIt (fun W (r : Rd W a L)=>impl_copiedReplicas a cap L W r hT)
  have CB:=hidIt (fun W s t p q (f' t' : Nat) (hf : f' < L.length) (ht : t' < L.length) (hE : RdE W s (rat L f').1) (hM : RdM W t (rat L f').2) (hE' : RdE W p (rat L t').1) (hM' : RdM W q (rat L t').2)=>impl_bothOf s t p q (rat L f') (rat L t') W hE hM hE' hM' (HSh.out f' hf) (HSh.out t' ht) (hall.2.2.1 f' hf) (hall.2.2.1 t' ht) (both_len ok hf ht).1)
  have HTO:=hidIt (fun (q : ¬ inG L.length f t)=>ToldR.mkOut (f:=f) (t:=t) ok q)
  have HTY:=hidIt (fun M (q : inG L.length f t) (k : TellR L M f.toNat t.toNat)=>ToldR.mkYes (f:=f) (t:=t) ok q k)
  have HTS:=hidIt (fun (f' t' : Nat) (J : Rep) (hf : f' < L.length) (ht : t' < L.length) (e1 : En.toB J.1 = Bk.mergeE (En.toB (rat L f').1) (En.toB (rat L t').1)) (e2 : Mm.toB J.2 = Mk.mergeE (Mm.toB (rat L f').2) (Mm.toB (rat L t').2))=>tell_set (J:=J) hf ht (e1.trans (both_len ok hf ht).2.1) (e2.trans (both_len ok hf ht).2.2))
  clear ok hall hT
  generalize hn : L.length = m at *
  have HN:=hidIt hn
  clear hn
  go_enter Tryz.func54,Tryz.ntmps54
  go_wp2_with (fail)
  refine (CG.out _ HR.out).mono ?_
  rintro e w1 ⟨rfl,k⟩
  have HB1:=hidIt k
  clear k
  go_wp2_with (fail)
  refine (CC.out _ (HR.out.kept HB1.out)).mono ?_
  intro e w2 hz
  obtain ⟨v,rfl,o2,k2⟩:=hz.out
  obtain ⟨va,vc,ev,hvc,hvm,hvn⟩:=o2.formN HN.out
  subst ev
  obtain ⟨g,eg⟩:=own_zero o2 (by rw [HN.out]; exact h1)
  subst eg
  have HB2:=hidIt (on HB1.out k2)
  have HO2:=hidIt (o2.mono HB1.out.size (Nat.le_refl _) (Nat.le_refl _))
  clear hz o2 k2 hvn CG CC
  by_cases q : inG m f t
  ·
   unfold inG at q
   obtain ⟨f',rfl⟩ : ∃ f' : Nat,f = (f' : Int):=⟨f.toNat,by omega⟩
   obtain ⟨t',rfl⟩ : ∃ t' : Nat,t = (t' : Int):=⟨t.toNat,by omega⟩
   have z1 : decide ((f' : Int) < 0) = false:=decide_eq_false (by omega)
   have z2 : decide ((m : Int) ≤ (f' : Int)) = false:=decide_eq_false (by omega)
   have z3 : decide ((t' : Int) < 0) = false:=decide_eq_false (by omega)
   have z4 : decide ((m : Int) ≤ (t' : Int)) = false:=decide_eq_false (by omega)
   have z5 : ((f' : Int) == (t' : Int)) = false:=by simpa using q.2.2.2.2
   have z6 : decide (m ≤ f') = false:=decide_eq_false (by omega)
   have z7 : decide (m ≤ t') = false:=decide_eq_false (by omega)
   have z8 : f' < m:=by omega
   have z9 : t' < m:=by omega
   have z10 : ¬ f' = t':=by omega
   have HTY1:=hidIt (fun M (k : TellR L M f' t')=>HTY.out M q (by simpa using k))
   clear q HTY HTO
   have htL : t' < L.length:=by rw [HN.out]; exact z9
   have hfL : f' < L.length:=by rw [HN.out]; exact z8
   obtain ⟨⟨s0,s1,s2⟩,⟨t0,t1,t2⟩,c0,c1,f0,f1,oE,oM⟩:=HO2.out.cells htL
   obtain ⟨⟨p0,p1,p2⟩,⟨q0,q1,q2⟩,d0,d1,_,_,oE',oM'⟩:=HO2.out.cells hfL
   have kd : Below w2.heap.size w2 w2.drew:=(Below.refl _ w2).drew
   have HC0:=hidIt (CB.out w2.drew (p0,p1,p2) (q0,q1,q2) (s0,s1,s2) (t0,t1,t2) f' t' z8 z9 ((rdE_of oE').kept kd) ((rdM_of oM').kept kd) ((rdE_of oE).kept kd) ((rdM_of oM).kept kd))
   have hgw : g < w2.drew.heap.size:=World.block_lt_of_cell? _ _ c0
   have hgl : w.heap.size ≤ g:=by
    obtain ⟨C,hC⟩:=HO2.out
    exact (World.ownsRow.lt hC.row g rfl).1
   have c0' : w2.drew.cell? ⟨g,t' * 2,none⟩ = some (.slice s0 s1 s2):=c0
   have c1' : w2.drew.cell? ⟨g,t' * 2 + 1,none⟩ = some (.slice t0 t1 t2):=c1
   have d0' : w2.drew.cell? ⟨g,f' * 2,none⟩ = some (.slice p0 p1 p2):=d0
   have d1' : w2.drew.cell? ⟨g,f' * 2 + 1,none⟩ = some (.slice q0 q1 q2):=d1
   have f0' : w2.drew.frozen? ⟨g,t' * 2,none⟩ = false:=f0
   have f1' : w2.drew.frozen? ⟨g,t' * 2 + 1,none⟩ = false:=f1
   clear c0 c1 d0 d1 f0 f1 oE oM oE' oM' kd CB
   obtain ⟨W0,hW0⟩ : ∃ W0,W0 = w2.drew:=⟨_,rfl⟩
   have HBW : Hid (∀ W,Below W0.heap.size W0 W → Below w2.heap.size w2 W):=hidIt (fun W k=>by rw [hW0] at k; exact ⟨k.os,k.tape,k.output,k.size,k.block⟩)
   have HSZ : Hid (W0.heap.size = w2.heap.size):=hidIt (by rw [hW0]; rfl)
   rw [← hW0] at c0' c1' d0' d1' f0' f1' HC0 hgw
   have c0:=c0'
   have c1:=c1'
   have d0:=d0'
   have d1:=d1'
   have f0:=f0'
   have f1:=f1'
   have HC:=HC0
   clear c0' c1' d0' d1' f0' f1' HC0
   have hti : (t' : Int) < (m : Int):=by omega
   have hfi : (f' : Int) < (m : Int):=by omega
   have ht0 : (0 : Int) ≤ (t' : Int):=by omega
   have hf0 : (0 : Int) ≤ (f' : Int):=by omega
   simp only [sv] at HC
   go_wp2_with (fail)
   refine wp_region_inv (by kernel_rfl) (by kernel_rfl) (KK_Tb g m vc f' t' s1 s2 t1 t2 p1 p2 q1 q2 s0 t0 p0 q0 (rat L f') (rat L t') W0 (W0) _ _ _ _ _ _ _ _ _ _ _ _ _ _ _ _ _ _ _ _ _ _ _ _ _ _ _ _ _ _ _ _ _ _ _ _ _ _ _ _ _) ⟨_,_,_,_,_,_,_,_,_,_,_,_,rfl,⟨fun _=>hW0.symm,(fun q=>by cases q),(fun q=>by cases q),(fun q=>by cases q),(fun q=>by cases q),(fun q=>by cases q),(fun q=>by cases q),(fun q=>by cases q),(fun q=>by cases q),(fun q=>by cases q),(fun q=>by cases q),(fun q=>by cases q),(fun q=>by cases q),(fun q=>by cases q),(fun q=>by cases q),(fun q=>by cases q)⟩⟩ ?_ ?_
   case refine_1 =>
    clear hW0
    intro Lb a' W i hi hI hL hD
    have hcases : i = 0 ∨ i = 1 ∨ i = 2 ∨ i = 3 ∨ i = 4 ∨ i = 5 ∨ i = 6 ∨ i = 7 ∨ i = 8 ∨ i = 9 ∨ i = 10 ∨ i = 11 ∨ i = 12:=by simp at hi; omega
    clear hi
    obtain ⟨u40,u41,u42,u43,u44,u45,u46,u47,u48,u49,u50,u51,rfl,R⟩:=hI
    rcases hcases with rfl | rfl | rfl | rfl | rfl | rfl | rfl | rfl | rfl | rfl | rfl | rfl | rfl
    ·
     skip
     refine op_at rfl (fun K hK=>?_)
     go_simp
     refine hK _ _ ?_
     exact ⟨_,_,_,_,_,_,_,_,_,_,_,_,rfl,R.st0,R.st1,R.st2,R.dep,R.dps,(fun _=>rfl),R.k1,R.k2,R.k3,R.k4,R.k5,R.k6,R.k7,R.k8,R.k9,R.k11⟩
    ·
     skip
     refine op_at rfl (fun K hK=>?_)
     go_simp
     refine hK _ _ ?_
     exact ⟨_,_,_,_,_,_,_,_,_,_,_,_,rfl,R.st0,R.st1,R.st2,R.dep,R.dps,R.k0,(fun _=>rfl),R.k2,R.k3,R.k4,R.k5,R.k6,R.k7,R.k8,R.k9,R.k11⟩
    ·
     skip
     refine op_at rfl (fun K hK=>?_)
     go_simp
     refine hK _ _ ?_
     exact ⟨_,_,_,_,_,_,_,_,_,_,_,_,rfl,R.st0,R.st1,R.st2,R.dep,R.dps,R.k0,R.k1,(fun _=>rfl),R.k3,R.k4,R.k5,R.k6,R.k7,R.k8,R.k9,R.k11⟩
    ·
     skip
     refine op_at rfl (fun K hK=>?_)
     go_simp
     refine hK _ _ ?_
     exact ⟨_,_,_,_,_,_,_,_,_,_,_,_,rfl,R.st0,R.st1,R.st2,R.dep,R.dps,R.k0,R.k1,R.k2,(fun _=>rfl),R.k4,R.k5,R.k6,R.k7,R.k8,R.k9,R.k11⟩
    ·
     skip
     have e2:=R.k2 (hD 2 (by kernel_rfl))
     subst e2
     have e3:=R.k3 (hD 3 (by kernel_rfl))
     subst e3
     refine op_at rfl (fun K hK=>?_)
     go_simp
     refine hK _ _ ?_
     exact ⟨_,_,_,_,_,_,_,_,_,_,_,_,rfl,R.st0,R.st1,R.st2,R.dep,R.dps,R.k0,R.k1,R.k2,R.k3,(fun _=>rfl),R.k5,R.k6,R.k7,R.k8,R.k9,R.k11⟩
    ·
     skip
     have e4:=R.k4 (hD 4 (by kernel_rfl))
     subst e4
     have hc : Lb 10 = false:=by
      cases q : Lb 10 with
      | false=>rfl
      | true=>have z:=R.dep q; simp [hL] at z
     have eW:=R.st0 hc
     subst eW
     refine op_at rfl (fun K hK=>?_)
     go_simp
     refine hK _ _ ?_
     exact ⟨_,_,_,_,_,_,_,_,_,_,_,_,rfl,R.st0,R.st1,R.st2,(fun q=>by have q2 : Lb 10 = true:=q; rw [hc] at q2; cases q2),R.dps,R.k0,R.k1,R.k2,R.k3,R.k4,(fun _=>rfl),R.k6,R.k7,R.k8,R.k9,R.k11⟩
    ·
     skip
     refine op_at rfl (fun K hK=>?_)
     go_simp
     refine hK _ _ ?_
     exact ⟨_,_,_,_,_,_,_,_,_,_,_,_,rfl,R.st0,R.st1,R.st2,R.dep,R.dps,R.k0,R.k1,R.k2,R.k3,R.k4,R.k5,(fun _=>rfl),R.k7,R.k8,R.k9,R.k11⟩
    ·
     skip
     refine op_at rfl (fun K hK=>?_)
     go_simp
     refine hK _ _ ?_
     exact ⟨_,_,_,_,_,_,_,_,_,_,_,_,rfl,R.st0,R.st1,R.st2,R.dep,R.dps,R.k0,R.k1,R.k2,R.k3,R.k4,R.k5,R.k6,(fun _=>rfl),R.k8,R.k9,R.k11⟩
    ·
     skip
     have e6:=R.k6 (hD 6 (by kernel_rfl))
     subst e6
     have e7:=R.k7 (hD 7 (by kernel_rfl))
     subst e7
     refine op_at rfl (fun K hK=>?_)
     go_simp
     refine hK _ _ ?_
     exact ⟨_,_,_,_,_,_,_,_,_,_,_,_,rfl,R.st0,R.st1,R.st2,R.dep,R.dps,R.k0,R.k1,R.k2,R.k3,R.k4,R.k5,R.k6,R.k7,(fun _=>rfl),R.k9,R.k11⟩
    ·
     skip
     have e8:=R.k8 (hD 8 (by kernel_rfl))
     subst e8
     have hc : Lb 10 = false:=by
      cases q : Lb 10 with
      | false=>rfl
      | true=>have z:=R.dep q; simp [hL] at z
     have eW:=R.st0 hc
     subst eW
     refine op_at rfl (fun K hK=>?_)
     go_simp
     refine hK _ _ ?_
     exact ⟨_,_,_,_,_,_,_,_,_,_,_,_,rfl,R.st0,R.st1,R.st2,(fun q=>by have q2 : Lb 10 = true:=q; rw [hc] at q2; cases q2),R.dps,R.k0,R.k1,R.k2,R.k3,R.k4,R.k5,R.k6,R.k7,R.k8,(fun _=>rfl),R.k11⟩
    ·
     skip
     have e5:=R.k5 (hD 5 (by kernel_rfl))
     subst e5
     have e9:=R.k9 (hD 9 (by kernel_rfl))
     subst e9
     have eW:=R.st0 hL
     subst eW
     refine op_at rfl (fun K hK=>?_)
     go_simp
     refine (HC.out).mono ?_
     intro e W1 hz
     obtain ⟨⟨x0,x1,x2⟩,⟨y0,y1,y2⟩,J,rfl,oE,oM,e1,e2,kk⟩:=hz.out
     simp only [sv]
     go_simp
     refine hK _ _ ?_
     exact ⟨_,_,_,_,_,_,_,_,_,_,_,_,rfl,(fun q=>by cases q),(fun _ _=>⟨(x0,x1,x2),(y0,y1,y2),J,rfl,oE,oM,e1,e2,kk⟩),(fun q=>by have q2:=R.dps q; rw [hL] at q2; cases q2),(fun _=>⟨hD 5 (by kernel_rfl),hD 9 (by kernel_rfl)⟩),(fun _=>rfl),R.k0,R.k1,R.k2,R.k3,R.k4,R.k5,R.k6,R.k7,R.k8,R.k9,R.k11⟩
    ·
     skip
     have e0:=R.k0 (hD 0 (by kernel_rfl))
     subst e0
     have e1:=R.k1 (hD 1 (by kernel_rfl))
     subst e1
     refine op_at rfl (fun K hK=>?_)
     go_simp
     refine hK _ _ ?_
     exact ⟨_,_,_,_,_,_,_,_,_,_,_,_,rfl,R.st0,R.st1,R.st2,R.dep,R.dps,R.k0,R.k1,R.k2,R.k3,R.k4,R.k5,R.k6,R.k7,R.k8,R.k9,(fun _=>rfl)⟩
    ·
     skip
     have e11:=R.k11 (hD 11 (by kernel_rfl))
     subst e11
     have hcc:=hD 10 (by kernel_rfl)
     have hc:=R.st1 hcc hL
     obtain ⟨⟨x0,x1,x2⟩,⟨y0,y1,y2⟩,J,rfl,oE,oM,e1,e2,kz⟩:=hc
     have g0 : W.cell? ⟨g,t' * 2,none⟩ = some (.slice s0 s1 s2):=by rw [kz.cell hgw]; exact c0
     have g1 : W.cell? ⟨g,t' * 2 + 1,none⟩ = some (.slice t0 t1 t2):=by rw [kz.cell hgw]; exact c1
     have z0 : W.frozen? ⟨g,t' * 2,none⟩ = false:=by rw [kz.frozen hgw]; exact f0
     have z1 : W.frozen? ⟨g,t' * 2 + 1,none⟩ = false:=by rw [kz.frozen hgw]; exact f1
     simp only [sv]
     refine op_at rfl (fun K hK=>?_)
     go_simp
     refine hK _ _ ?_
     exact ⟨_,_,_,_,_,_,_,_,_,_,_,_,rfl,(fun q=>by have q2 : Lb 10 = false:=q; rw [hcc] at q2; cases q2),(fun _ q=>by cases q),(fun _=>⟨W,(x0,x1,x2),(y0,y1,y2),J,rfl,oE,oM,e1,e2,kz⟩),R.dep,(fun _=>hcc),R.k0,R.k1,R.k2,R.k3,R.k4,R.k5,R.k6,R.k7,R.k8,R.k9,R.k11⟩
   case refine_2 =>
    intro Lb a' W hI hall
    obtain ⟨u40,u41,u42,u43,u44,u45,u46,u47,u48,u49,u50,u51,rfl,R⟩:=hI
    have hS:=R.st2 (hall 12)
    clear R hall
    obtain ⟨W1,s,u,J,rfl,oE,oM,e1,e2,kk⟩:=hS
    have kw:=HBW.out W1 kk
    have hO:=HO2.out.kept kw
    have hsz : w2.heap.size ≤ W0.heap.size:=by have:=HSZ.out; omega
    have hP:=hO.put htL (oE.mono hsz) (oM.mono hsz)
    have HG:=hidIt hP.grow
    have HB3:=hidIt (HB2.out.trans (((kw.mono (Nat.le_trans HB2.out.size (Nat.le_refl _))).setCell (p:=⟨g,t' * 2,none⟩) hgl (sv s)).setCell (p:=⟨g,t' * 2 + 1,none⟩) hgl (sv u)))
    have HT:=hidIt (HTY1.out _ (HTS.out f' t' J z8 z9 e1 e2))
    generalize (W1.setCell ⟨g,t' * 2,none⟩ (sv s)).setCell ⟨g,t' * 2 + 1,none⟩ (sv u) = w9 at HG HB3 ⊢
    clear hP hO kw oE oM e1 e2 kk
    go_wp2_with (fail)
    refine bodyPost_ret (v:=.tuple #[.slice (some ⟨g,0,none⟩) m vc,.bool true]) (by simp [results,Tryz.results54,go_sem]) rfl ?_
    exact TolP.of rfl HT.out HG.out HB3.out
  ·
   have HT:=hidIt (HTO.out q)
   clear CB HTY HTO HTS
   by_cases z1 : f < 0
   ·
    have z1' : decide (f < 0) = true:=decide_eq_true z1
    clear q
    go_wp2_with (fail)
    refine bodyPost_ret (v:=.tuple #[.slice (some ⟨g,0,none⟩) m vc,.bool false]) (by simp [results,Tryz.results54,go_sem]) rfl ?_
    exact TolP.of rfl HT.out HO2.out HB2.out
   ·
    have z1' : decide (f < 0) = false:=decide_eq_false z1
    by_cases z2 : (m : Int) ≤ f
    ·
     have z2' : decide ((m : Int) ≤ f) = true:=decide_eq_true z2
     clear q
     go_wp2_with (fail)
     refine bodyPost_ret (v:=.tuple #[.slice (some ⟨g,0,none⟩) m vc,.bool false]) (by simp [results,Tryz.results54,go_sem]) rfl ?_
     exact TolP.of rfl HT.out HO2.out HB2.out
    ·
     have z2' : decide ((m : Int) ≤ f) = false:=decide_eq_false z2
     by_cases z3 : t < 0
     ·
      have z3' : decide (t < 0) = true:=decide_eq_true z3
      clear q
      go_wp2_with (fail)
      refine bodyPost_ret (v:=.tuple #[.slice (some ⟨g,0,none⟩) m vc,.bool false]) (by simp [results,Tryz.results54,go_sem]) rfl ?_
      exact TolP.of rfl HT.out HO2.out HB2.out
     ·
      have z3' : decide (t < 0) = false:=decide_eq_false z3
      by_cases z4 : (m : Int) ≤ t
      ·
       have z4' : decide ((m : Int) ≤ t) = true:=decide_eq_true z4
       clear q
       go_wp2_with (fail)
       refine bodyPost_ret (v:=.tuple #[.slice (some ⟨g,0,none⟩) m vc,.bool false]) (by simp [results,Tryz.results54,go_sem]) rfl ?_
       exact TolP.of rfl HT.out HO2.out HB2.out
      ·
       have z4' : decide ((m : Int) ≤ t) = false:=decide_eq_false z4
       have ef : f = t:=by
        unfold inG at q
        omega
       subst ef
       have z5 : (f == f) = true:=by simp
       clear q
       go_wp2_with (fail)
       refine bodyPost_ret (v:=.tuple #[.slice (some ⟨g,0,none⟩) m vc,.bool false]) (by simp [results,Tryz.results54,go_sem]) rfl ?_
       exact TolP.of rfl HT.out HO2.out HB2.out
end Go.Proofs.YtgbnkkjjgodilaaGreatDoor.Rp
namespace Go.Proofs.YtgbnkkjjgodilaaGreatDoor.Bk
def st (G : List (List En)) (k : Nat) : List (List En):=if k < G.length then pass G k else pass (round1 G) (k - G.length)
theorem st_zero {G : List (List En)} (h : 0 < G.length) : st G 0 = G:=by unfold st; rw [if_pos h]; rfl
theorem st_last {G : List (List En)} (h : 0 < G.length) : st G (2 * G.length - 1) = around G:=by
 unfold st around
 by_cases q : 2 * G.length - 1 < G.length
 ·
  omega
 ·
  rw [if_neg q,show 2 * G.length - 1 - G.length = G.length - 1 by omega]
theorem st_one {G : List (List En)} (h : G.length = 1) : st G 1 = G:=by
 unfold st
 rw [if_neg (by omega),h]
 show pass (round1 G) 0 = G
 show round1 G = G
 unfold round1
 rw [if_neg (by omega),h]
 rfl
theorem st_step {G : List (List En)} {k n : Nat} (hn : G.length = n) (h1 : 1 < n) (hk : k + 1 < 2 * n) : st G (k + 1) = tell (st G k) (k % n) ((k + 1) % n):=by
 subst hn
 unfold st
 by_cases q : k + 1 < G.length
 ·
  rw [if_pos q,if_pos (by omega),pass_succ,Nat.mod_eq_of_lt (by omega),Nat.mod_eq_of_lt q]
 ·
  by_cases q2 : k + 1 = G.length
  ·
   rw [if_neg q,if_pos (by omega),q2,Nat.mod_self,Nat.sub_self,Nat.mod_eq_of_lt (by omega)]
   show round1 G = _
   unfold round1
   rw [if_pos h1,show G.length - 1 = k by omega]
  ·
   rw [if_neg q,if_neg (by omega),show k + 1 - G.length = (k - G.length) + 1 by omega,pass_succ,Nat.mod_eq_sub_mod (a:=k) (by omega),Nat.mod_eq_sub_mod (a:=k + 1) (by omega),Nat.mod_eq_of_lt (a:=k - G.length) (by omega),Nat.mod_eq_of_lt (a:=k + 1 - G.length) (by omega),show k + 1 - G.length = (k - G.length) + 1 by omega]
end Go.Proofs.YtgbnkkjjgodilaaGreatDoor.Bk
namespace Go.Proofs.YtgbnkkjjgodilaaGreatDoor.Mk
def st (G : List (List En)) (k : Nat) : List (List En):=if k < G.length then pass G k else pass (round1 G) (k - G.length)
theorem st_zero {G : List (List En)} (h : 0 < G.length) : st G 0 = G:=by unfold st; rw [if_pos h]; rfl
theorem st_last {G : List (List En)} (h : 0 < G.length) : st G (2 * G.length - 1) = around G:=by
 unfold st around
 by_cases q : 2 * G.length - 1 < G.length
 ·
  omega
 ·
  rw [if_neg q,show 2 * G.length - 1 - G.length = G.length - 1 by omega]
theorem st_one {G : List (List En)} (h : G.length = 1) : st G 1 = G:=by
 unfold st
 rw [if_neg (by omega),h]
 show pass (round1 G) 0 = G
 show round1 G = G
 unfold round1
 rw [if_neg (by omega),h]
 rfl
theorem st_step {G : List (List En)} {k n : Nat} (hn : G.length = n) (h1 : 1 < n) (hk : k + 1 < 2 * n) : st G (k + 1) = tell (st G k) (k % n) ((k + 1) % n):=by
 subst hn
 unfold st
 by_cases q : k + 1 < G.length
 ·
  rw [if_pos q,if_pos (by omega),pass_succ,Nat.mod_eq_of_lt (by omega),Nat.mod_eq_of_lt q]
 ·
  by_cases q2 : k + 1 = G.length
  ·
   rw [if_neg q,if_pos (by omega),q2,Nat.mod_self,Nat.sub_self,Nat.mod_eq_of_lt (by omega)]
   show round1 G = _
   unfold round1
   rw [if_pos h1,show G.length - 1 = k by omega]
  ·
   rw [if_neg q,if_neg (by omega),show k + 1 - G.length = (k - G.length) + 1 by omega,pass_succ,Nat.mod_eq_sub_mod (a:=k) (by omega),Nat.mod_eq_sub_mod (a:=k + 1) (by omega),Nat.mod_eq_of_lt (a:=k - G.length) (by omega),Nat.mod_eq_of_lt (a:=k + 1 - G.length) (by omega),show k + 1 - G.length = (k - G.length) + 1 by omega]
end Go.Proofs.YtgbnkkjjgodilaaGreatDoor.Mk
namespace Go.Proofs.YtgbnkkjjgodilaaGreatDoor.Rp
open Go.ChangeShapes Go.WideShapes Go.ChangeAt Go.RowKit
open Vv (Sl sv hidIt)
theorem mod_ne {k n : Nat} (h1 : 1 < n) : k % n ≠ (k + 1) % n:=by
 intro e
 have h:=Nat.mod_add_mod k n 1
 rw [← h] at e
 have hl : k % n < n:=Nat.mod_lt _ (by omega)
 by_cases q : k % n + 1 < n
 ·
  rw [Nat.mod_eq_of_lt q] at e
  omega
 ·
  rw [show k % n + 1 = n by omega,Nat.mod_self] at e
  omega
theorem okR_short {r : Rep} (h : okR r = true) : ∀ j,j < r.1.length → (En.rat r.1 j).1.size ≤ 9223372036854775807 ∧ (En.rat r.1 j).2.1.size ≤ 9223372036854775807:=by
 intro j hj
 unfold okR at h
 rw [Bool.and_eq_true] at h
 have hm : En.toE (En.rat r.1 j) ∈ En.toB r.1:=List.mem_map.2 ⟨_,En.rat_mem hj,rfl⟩
 have ho:=Bk.ok_all h.1 hm
 unfold Bk.okE at ho
 simp only [Bool.and_eq_true,decide_eq_true_eq] at ho
 have e1 : (En.toE (En.rat r.1 j)).key.length = (En.rat r.1 j).1.size:=En.bs_length _
 have e2 : (En.toE (En.rat r.1 j)).value.length = (En.rat r.1 j).2.1.size:=En.bs_length _
 omega
theorem okG_short {L : List Rep} (h : okG L = true) : Short L:=fun i hi j hj=>okR_short ((okG_all h).2.2.1 i hi) j hj
def ArS (w wx : World) (L : List Rep) (k : Nat) (v : Value) : Prop:=∃ M,bks M = Bk.st (bks L) k ∧ mbs M = Mk.st (mbs L) k ∧ okG M = true ∧ M.length = L.length ∧ Own wx w.heap.size wx.heap.size v M ∧ Below w.heap.size w wx
theorem ars_step {L M : List Rep} {k : Nat} (hb : bks M = Bk.st (bks L) k) (hm : mbs M = Mk.st (mbs L) k) (ok : okG M = true) (hl : M.length = L.length) (hk : k + 1 < 2 * L.length) {M' : List Rep} {b : Bool} (t : ToldR M ((k % L.length : Nat) : Int) (((k + 1) % L.length : Nat) : Int) M' b) : bks M' = Bk.st (bks L) (k + 1) ∧ mbs M' = Mk.st (mbs L) (k + 1) ∧ okG M' = true ∧ M'.length = L.length:=by
 have h1:=(okG_all ok).1
 by_cases hn : 1 < L.length
 ·
  have hr : inG M.length ((k % L.length : Nat) : Int) (((k + 1) % L.length : Nat) : Int):=by
   have a1 : k % L.length < L.length:=Nat.mod_lt _ (by omega)
   have a2 : (k + 1) % L.length < L.length:=Nat.mod_lt _ (by omega)
   have a3:=mod_ne (k:=k) hn
   unfold inG
   rw [hl]
   omega
  obtain ⟨r,_⟩:=t.yes ok hr
  have a1 : k % L.length < M.length:=by rw [hl]; exact Nat.mod_lt _ (by omega)
  have a2 : (k + 1) % L.length < M.length:=by rw [hl]; exact Nat.mod_lt _ (by omega)
  simp only [Int.toNat_natCast] at r
  refine ⟨?_,?_,okG_tell ok a1 a2 r,by rw [r.len,hl]⟩
  ·
   rw [r.bk,hb,Bk.st_step (bks_length L) hn hk]
  ·
   rw [r.mb,hm,Mk.st_step (mbs_length L) hn hk]
 ·
  have e1 : L.length = 1:=by omega
  have e0 : k = 0:=by omega
  subst e0
  have hr : ¬ inG M.length ((0 % L.length : Nat) : Int) (((0 + 1) % L.length : Nat) : Int):=by
   rw [e1]
   unfold inG
   simp
  obtain ⟨rfl,_⟩:=t.out ok hr
  refine ⟨?_,?_,ok,hl⟩
  ·
   rw [hb,Bk.st_zero (by rw [bks_length]; omega),Bk.st_one (by rw [bks_length]; exact e1)]
  ·
   rw [hm,Mk.st_zero (by rw [mbs_length]; omega),Mk.st_one (by rw [mbs_length]; exact e1)]
theorem impl_Around (a : Option Addr) (cap : Nat) (L : List Rep) (w : World) (h : Rd w a L) (hs : Short L) (hl : L.length ≤ 9223372036854775807) (hlb : ∀ i,i < L.length → (rat L i).1.length ≤ 9223372036854775807 ∧ (rat L i).2.length ≤ 9223372036854775807) :
  Calls Tryz.prog 30 #[.slice a L.length cap] w fun e w'=>ArnP L w e w':=by
 have CG:=hidIt (fun W (r : Rd W a L)=>impl_GroupOk a cap L W r hs hl hlb)
 have HR:=hidIt h
 clear h hs hlb
 cases ok : okG L with
 | false =>
  rw [ok] at CG
  have HT:=hidIt (ArndR.mkNo ok)
  clear ok
  generalize L.length = m at *
  go_enter Tryz.func30,Tryz.ntmps30
  go_wp2_with (fail)
  refine (CG.out _ HR.out).mono ?_
  rintro e w1 ⟨rfl,k⟩
  have HB1:=hidIt k
  clear k
  go_wp2_with (fail)
  go_ret
  exact ArnP.of HT.out (LstP.of rfl ((Own.new w1).mono HB1.out.size (by simp) (Nat.le_refl _)) (HB1.out.alloc HB1.out.size _))
 | true =>
  rw [ok] at CG
  have hT:=okG_tame ok
  have h1:=(okG_all ok).1
  have h6:=(okG_all ok).2.1
  have CC:=hidIt (fun W (r : Rd W a L)=>impl_copiedReplicas a cap L W r hT)
  have HTY:=hidIt (fun M h1 h2=>ArndR.mkYes (M:=M) ok h1 h2)
  have HA0 : Hid (∀ W v,Own W w.heap.size W.heap.size v L → Below w.heap.size w W → ArS w W L 0 v):=hidIt (fun W v o k=>⟨L,(Bk.st_zero (by rw [bks_length]; omega)).symm,(Mk.st_zero (by rw [mbs_length]; omega)).symm,ok,rfl,o,k⟩)
  have HA1 : Hid (∀ W v k,ArS w W L k v → k + 1 < 2 * L.length → ∀ (f t : Int),f = ((k % L.length : Nat) : Int) → t = (((k + 1) % L.length : Nat) : Int) → Calls Tryz.prog 54 #[v,.int .i64 f,.int .i64 t] W fun e w'=>∃ g c b,e = .returned (.tuple #[.slice g L.length c,.bool b]) ∧ ArS w w' L (k + 1) (.slice g L.length c)):=hidIt (fun W v k hA hk f t ef et=>by
   subst ef et
   obtain ⟨M,e1,e2,okM,hlM,o,kb⟩:=hA
   obtain ⟨va,vc,ev,hvc,hvm,hvn⟩:=o.formN hlM
   subst ev
   have hTM:=okG_tame okM
   have C:=impl_Told va vc M ((k % L.length : Nat) : Int) (((k + 1) % L.length : Nat) : Int) W o.rd (okG_short okM) (by rw [hlM]; omega) (fun i hi=>⟨by have:=hTM.bl i hi; omega,by have:=hTM.ml i hi; omega⟩)
   rw [hlM] at C
   refine C.mono ?_
   intro e w' hz
   obtain ⟨v',M',b,rfl,tR,o',k'⟩:=hz.out
   obtain ⟨q1,q2,q3,q4⟩:=ars_step e1 e2 okM hlM hk tR
   obtain ⟨ya,yc,ey,_⟩:=o'.formN q4
   subst ey
   exact ⟨ya,yc,b,rfl,M',q1,q2,q3,q4,o'.mono kb.size (Nat.le_refl _) (Nat.le_refl _),on kb k'⟩)
  have HA2 : Hid (∀ W v,ArS w W L (2 * L.length - 1) v → ArnP L w (.returned v) W):=hidIt (fun W v hA=>by
   obtain ⟨M,e1,e2,okM,hlM,o,kb⟩:=hA
   have z1:=Bk.st_last (G:=bks L) (by rw [bks_length]; omega)
   have z2:=Mk.st_last (G:=mbs L) (by rw [mbs_length]; omega)
   rw [bks_length] at z1
   rw [mbs_length] at z2
   exact ArnP.of (HTY.out M (e1.trans z1) (e2.trans z2)) (LstP.of rfl o kb))
  clear ok hT HTY
  generalize hn : L.length = m at *
  have HN:=hidIt hn
  clear hn
  go_enter Tryz.func30,Tryz.ntmps30
  go_wp2_with (fail)
  refine (CG.out _ HR.out).mono ?_
  rintro e w1 ⟨rfl,k⟩
  have HB1:=hidIt k
  clear k
  go_wp2_with (fail)
  refine (CC.out _ (HR.out.kept HB1.out)).mono ?_
  intro e w2 hz
  obtain ⟨v,rfl,o2,k2⟩:=hz.out
  obtain ⟨va,vc,ev,hvc,hvm,hvn⟩:=o2.formN HN.out
  subst ev
  have HS0:=hidIt (HA0.out w2 _ (o2.mono HB1.out.size (Nat.le_refl _) (Nat.le_refl _)) (on HB1.out k2))
  clear hz o2 k2 hvn CG CC HA0 HB1
  have hm1 : (1 : Int) ≤ (m : Int):=by omega
  have hm6 : (m : Int) ≤ 6:=by omega
  go_wp2_with (fail)
  go_loopw [3,17] (fun z y wx=>∃ (k : Nat) (za : Option Addr) (zc : Nat),y = .int .i64 k ∧ z = .slice za m zc ∧ k ≤ 2 * m - 1 ∧ Hid (ArS w wx L k (.slice za m zc))) (fun _ y _=>(2 * m - intOf y).toNat)
  case atStart=>exact ⟨0,va,vc,rfl,rfl,by omega,HS0⟩
  case round =>
   obtain ⟨k,za,zc,rfl,rfl,hk,HS⟩:=hrel
   clear HS0
   by_cases hin : k < 2 * m - 1
   ·
    have hin' : (k : Int) < 2 * (m : Int) - 1:=by omega
    have hk0 : (0 : Int) ≤ (k : Int):=by omega
    have hmz : ¬ ((m : Int) = 0):=by omega
    have HA : Hid (ArS w wr.drew L k (.slice za m zc)):=hidIt (by
     obtain ⟨M,e1,e2,e3,e4,o,kb⟩:=HS.out
     exact ⟨M,e1,e2,e3,e4,(o.kept ((Below.refl _ wr).drew)).grow,kb.drew⟩)
    have C:=hidIt (HA1.out wr.drew _ k HA.out (by omega) ((k : Int) % (m : Int)) (((k : Int) + 1) % (m : Int)) (by simp) (by simp))
    clear HA HS
    go_wp2_with (fail)
    go_region_with (go_at_call 54; refine C.out.mono ?_; rintro e w5 ⟨g5,c5,b5,rfl,s5⟩)
    all_goals (have HS5:=hidIt s5; clear s5; first | exact ⟨⟨k + 1,g5,c5,by simp,rfl,by omega,HS5⟩,by simp [intOf]; omega⟩ | (go_wp2_with (fail); exact ⟨⟨k + 1,g5,c5,by simp,rfl,by omega,HS5⟩,by simp [intOf]; omega⟩))
   ·
    have hin' : ¬ (k : Int) < 2 * (m : Int) - 1:=by omega
    obtain rfl : k = 2 * m - 1:=by omega
    have HF:=hidIt (HA2.out _ _ HS.out)
    go_wp2_with (fail)
    go_ret
    exact HF.out
end Go.Proofs.YtgbnkkjjgodilaaGreatDoor.Rp
namespace Go.Proofs.YtgbnkkjjgodilaaGreatDoor.Kc
open Go.ChangeShapes Go.WideShapes Go.ChangeAt Go.RowKit
open Vv (Sl sv hidIt)
open Nd (Nw RdN OwnN ShortN SmallN)
open Ns (nod nrw sl4 OwnR)
open Rp (OnlyIn own_apart row_in)
def setRE (r : Nv.Rw) (p : Vv.Rw) : Nv.Rw:=(p.1,p.2,r.2.2)
def setN (x : Nw) (r : Rp.Rep) : Nw:=⟨r.1,r.2,x.ph,x.mn,x.ol,x.nw,x.tm,x.buc,x.log,x.apex⟩
def setL (L : List Nw) (M : List Rp.Rep) : List Nw:=(List.range L.length).map (fun i=>setN (nod L i) (Rp.rat M i))
theorem setL_len (L : List Nw) (M : List Rp.Rep) : (setL L M).length = L.length:=by simp [setL]
theorem nod_setL {L : List Nw} {M : List Rp.Rep} {i : Nat} (h : i < L.length) : nod (setL L M) i = setN (nod L i) (Rp.rat M i):=by
 rw [Ns.nod_at (by rw [setL_len]; exact h)]
 simp [setL]
structure StlR (c d : Cw) : Prop where
 no : okK c = false → d = ⟨0,[],[]⟩
 yes : okK c = true → ∃ M,Rp.ArndR (reps c.nodes) M ∧ d = ⟨c.now,setL c.nodes M,c.clock⟩
theorem StlR.unique {c d d' : Cw} (h : StlR c d) (h' : StlR c d') : d = d':=by
 cases ok : okK c with
 | false=>rw [h.no ok,h'.no ok]
 | true =>
  obtain ⟨M,a,b⟩:=h.yes ok
  obtain ⟨M',a',b'⟩:=h'.yes ok
  rw [b,b',a.unique a']
theorem StlR.mkNo {c : Cw} (ok : okK c = false) : StlR c ⟨0,[],[]⟩:=⟨fun _=>rfl,(fun h=>by rw [ok] at h; cases h)⟩
theorem StlR.mkYes {c : Cw} {M : List Rp.Rep} (ok : okK c = true) (h : Rp.ArndR (reps c.nodes) M) : StlR c ⟨c.now,setL c.nodes M,c.clock⟩:=⟨(fun z=>by rw [ok] at z; cases z),fun _=>⟨M,h,rfl⟩⟩
def StP (w : World) (c : Cw) (en : Ending) (w' : World) : Prop:=∃ d,StlR c d ∧ ∃ n k : Sl,en = .returned (kv d n k) ∧ OwnK w' w.heap.size w'.heap.size d n k ∧ Below w.heap.size w w'
theorem StP.out {w w' : World} {c : Cw} {en : Ending} (h : StP w c en w') : ∃ d,StlR c d ∧ ∃ n k : Sl,en = .returned (kv d n k) ∧ OwnK w' w.heap.size w'.heap.size d n k ∧ Below w.heap.size w w':=h
theorem StP.of {w w' : World} {c d : Cw} {en : Ending} {n k : Sl} (h : StlR c d) (h1 : en = .returned (kv d n k)) (h2 : OwnK w' w.heap.size w'.heap.size d n k) (h3 : Below w.heap.size w w') : StP w c en w':=⟨d,h,n,k,h1,h2,h3⟩
theorem StP.zero {w w' : World} {c : Cw} {en : Ending} (ok : okK c = false) (h : en = .returned (.agg #[.int .i64 0,.slice none 0 0,.slice none 0 0])) (h2 : Below w.heap.size w w') : StP w c en w' :=
 ⟨_,.mkNo ok,(none,0,0),(none,0,0),h,⟨Ns.Own.ofNil w' h2.size (Nat.le_refl _),World.ownsRow_nil _ _ _ _,fun g hg=>by cases hg⟩,h2⟩
theorem onlyIn_below {B : Nat} {w w' : World} (k : Below B w w') : OnlyIn B w.heap.size w w':=⟨k.os,k.tape,k.output,k.size,fun i hi hn=>k.block i (by omega)⟩
theorem row_far {w w' : World} {q b T s n lo m cap : Nat} {u : Value} {xs : List Value} {C : List Nv.Rw} (o : w.ownsRow b T s u n xs) (hC : Nv.Own w lo (.slice (some ⟨q,0,none⟩) m cap) C) (hT : T ≠ 49) (Y : OnlyIn q (q + 1) w w') : w'.ownsRow b T s u n xs :=
 row_in o Y (fun g hg hz=>own_apart o hC hT g hg (by show some q = some g; congr 1; omega))
theorem OwnK.apart {w w' : World} {lo hi lo' hi' : Nat} {c : Cw} {n k : Sl} (h : OwnK w lo hi c n k) (Y : OnlyIn lo' hi' w w') (hd : hi ≤ lo' ∨ hi' ≤ lo) : OwnK w' lo hi c n k :=
 ⟨h.on.apart Y hd,row_in h.ok Y (fun g hg=>by have h1:=(World.ownsRow.lt h.ok g hg).1; have h2:=h.b g hg; omega),h.b⟩
theorem box_in {lo hi : Nat} {w w' : World} {b : Nat} {c : Array Value} (h : Bo.Box w b c) (Y : OnlyIn lo hi w w') (hd : ¬ (lo ≤ b ∧ b < hi)) : Bo.Box w' b c :=
 ⟨Nat.lt_of_lt_of_le h.lt Y.size,fun i=>by rw [World.cell?_of_block (w:=w) (Y.block b h.lt hd)]; exact h.at' i,fun i=>by rw [World.frozen?_of_block (w:=w) (Y.block b h.lt hd)]; exact h.fr i⟩
theorem set2 {w : World} {base q m cap i : Nat} {D : List Nv.Rw} (h : Nv.Own w base (.slice (some ⟨q,0,none⟩) m cap) D) (hi : i < D.length) (p : Vv.Rw) : Nv.Own ((w.setCell ⟨q,i * 10,none⟩ (sv p.1)).setCell ⟨q,i * 10 + 1,none⟩ (sv p.2)) base (.slice (some ⟨q,0,none⟩) m cap) (D.set i (setRE (Nv.rat D i) p)):=by
 have h1:=h.set (i:=i) (j:=0) (v:=sv p.1) (y:=(p.1,(Nv.rat D i).2)) hi (by omega) (fun k hk=>by
  match k,hk with
  | 0,_=>rfl
  | 1,_=>rfl
  | 2,_=>rfl
  | 3,_=>rfl
  | 4,_=>rfl
  | 5,_=>rfl
  | 6,_=>rfl
  | 7,_=>rfl
  | 8,_=>rfl
  | 9,_=>rfl)
 have h2:=h1.set (i:=i) (j:=1) (v:=sv p.2) (y:=setRE (Nv.rat D i) p) (by rw [List.length_set]; exact hi) (by omega) (fun k hk=>by
  rw [Nv.rat_set hi,if_pos rfl]
  match k,hk with
  | 0,_=>rfl
  | 1,_=>rfl
  | 2,_=>rfl
  | 3,_=>rfl
  | 4,_=>rfl
  | 5,_=>rfl
  | 6,_=>rfl
  | 7,_=>rfl
  | 8,_=>rfl
  | 9,_=>rfl)
 rw [List.set_set] at h2
 exact h2
theorem set2_only {w : World} {q i : Nat} {u v : Value} : Only q w ((w.setCell ⟨q,i * 10,none⟩ u).setCell ⟨q,i * 10 + 1,none⟩ v):=((Only.refl q w).setCell (i * 10) u).setCell (i * 10 + 1) v
structure Mix (C D : List Nv.Rw) (G : List Vv.Rw) (i : Nat) : Prop where
 len : D.length = C.length
 lo : ∀ j,j < i → Nv.rat D j = setRE (Nv.rat C j) (Vv.rat G j)
 hi : ∀ j,i ≤ j → j < C.length → Nv.rat D j = Nv.rat C j
theorem Mix.start (C : List Nv.Rw) (G : List Vv.Rw) : Mix C C G 0:=⟨rfl,fun j hj=>absurd hj (Nat.not_lt_zero _),fun _ _ _=>rfl⟩
theorem Mix.step {C D : List Nv.Rw} {G : List Vv.Rw} {i : Nat} (h : Mix C D G i) (hi : i < C.length) : Mix C (D.set i (setRE (Nv.rat D i) (Vv.rat G i))) G (i + 1):=by
 have hD : i < D.length:=by rw [h.len]; exact hi
 refine ⟨by rw [List.length_set]; exact h.len,fun j hj=>?_,fun j hj hjl=>?_⟩
 ·
  rw [Nv.rat_set hD]
  by_cases e : i = j
  ·
   subst e
   rw [if_pos rfl,h.hi i (Nat.le_refl _) hi]
  ·
   rw [if_neg e]
   exact h.lo j (by omega)
 ·
  rw [Nv.rat_set hD,if_neg (by omega)]
  exact h.hi j (by omega) hjl
theorem sl4_set (r : Nv.Rw) (p : Vv.Rw) (t : Nat) : sl4 (setRE r p) t = match t with
  | 0=>p.1
  | 1=>p.2
  | _=>sl4 r t:=by
 match t with
 | 0=>rfl
 | 1=>rfl
 | 2=>rfl
 | k + 3=>rfl
theorem settle_own {w w' : World} {lo hi lo2 hi2 q m cap : Nat} {gv : Value} {C D : List Nv.Rw} {G : List Vv.Rw} {L : List Nw} {M : List Rp.Rep}
  (hC : Ns.OwnC w lo hi (.slice (some ⟨q,0,none⟩) m cap) C L) (hG : Rp.OwnC w lo2 hi2 gv G M) (hl : M.length = L.length) (hlo : lo ≤ lo2) (Y : OnlyIn q (q + 1) w w') (hD : Nv.Own w' lo (.slice (some ⟨q,0,none⟩) m cap) D) (hM : Mix C D G L.length) : Ns.OwnC w' lo w'.heap.size (.slice (some ⟨q,0,none⟩) m cap) D (setL L M):=by
 have hDl : D.length = L.length:=hM.len.trans hC.len
 have hs:=Y.size
 have hh2:=hG.hi'
 have hh:=hC.hi'
 have eD:=hM.lo
 have hll:=hC.lo'
 refine ⟨by rw [hDl,setL_len],hD,fun y hy=>(World.ownsRow.lt hD y hy).2,fun j hj=>?_,fun j hj=>?_,fun j hj t y hy=>?_,fun j k hj hk hne t y hy hz=>?_,Nat.le_refl _,by omega⟩
 all_goals rw [setL_len] at hj
 ·
  rw [eD j hj,nod_setL hj]
  have:=hC.fl j hj
  generalize Nv.rat C j = r at this ⊢
  rw [this]
  rfl
 ·
  rw [eD j hj,nod_setL hj]
  have o:=hC.nd j hj
  have oe:=row_far (hG.bk j (by rw [hl]; exact hj)) hC.row (by decide) Y
  have om:=row_far (hG.mb j (by rw [hl]; exact hj)) hC.row (by decide) Y
  exact ⟨(show En.Own w' lo2 _ _ from oe).mono hlo,(show Mm.Own w' lo2 _ _ from om).mono hlo,row_far o.b hC.row (by decide) Y,row_far o.g hC.row (by decide) Y⟩
 ·
  rw [eD j hj,sl4_set] at hy
  match t,hy with
  | 0,hy=>have:=hG.bb j (by rw [hl]; exact hj) y hy; omega
  | 1,hy=>have:=hG.bm j (by rw [hl]; exact hj) y hy; omega
  | 2,hy=>have:=hC.bd j hj 2 y hy; omega
  | k + 3,hy=>have:=hC.bd j hj (k + 3) y hy; omega
 ·
  rw [setL_len] at hk
  rw [eD j hj,sl4_set] at hy
  rw [eD k hk,sl4_set] at hz
  match t,hy,hz with
  | 0,hy,hz=>exact hG.db j k (by rw [hl]; exact hj) (by rw [hl]; exact hk) hne y hy hz
  | 1,hy,hz=>exact hG.dm j k (by rw [hl]; exact hj) (by rw [hl]; exact hk) hne y hy hz
  | 2,hy,hz=>exact hC.dj j k hj hk hne 2 y hy hz
  | p + 3,hy,hz=>exact hC.dj j k hj hk hne (p + 3) y hy hz
theorem arnd_len {L M : List Rp.Rep} (ok : Rp.okG L = true) (h : Rp.ArndR L M) : M.length = L.length:=by
 have e1:=h.bk ok
 rw [← Rp.bks_length M,e1,Bk.around_length,Rp.bks_length]
theorem reps_short {c : Cw} (h : ShortK c) : Rp.Short (reps c.nodes):=fun i hi=>by
 rw [reps_length] at hi
 rw [rat_reps hi]
 exact (h i hi).e
end Go.Proofs.YtgbnkkjjgodilaaGreatDoor.Kc
namespace Go.Proofs.YtgbnkkjjgodilaaGreatDoor.Kc
open Go.ChangeShapes Go.WideShapes Go.ChangeAt Go.RowKit
open Vv (Sl sv hidIt)
open Nd (Nw RdN OwnN ShortN SmallN)
open Ns (nod)
open Rp (OnlyIn own_apart row_in)
open Rg (upd waits wp_region_inv op_at no1 box_only below_only row_only)
theorem Iv_far {w w' : World} {q lo b m cap : Nat} {u : Value} {K : List Int} {C : List Nv.Rw} (o : Iv.Own w b u K) (hC : Nv.Own w lo (.slice (some ⟨q,0,none⟩) m cap) C) (Y : OnlyIn q (q + 1) w w') : Iv.Own w' b u K:=row_far o hC (by decide) Y
theorem own_some {w : World} {lo hi m : Nat} {n0 : Option Addr} {n2 : Nat} {C : List Nv.Rw} {L : List Nw} (h : Ns.OwnC w lo hi (.slice n0 m n2) C L) (h1 : 1 ≤ m) : ∃ q,n0 = some ⟨q,0,none⟩ ∧ q < hi:=by
 rcases h.row.2 with ⟨e,_⟩ | ⟨g,cap,cur,e,_⟩
 ·
  simp only [Value.slice.injEq] at e; omega
 ·
  simp only [Value.slice.injEq] at e
  exact ⟨g,e.1,h.blk g (by rw [e.1]; rfl)⟩
theorem rep_some {w : World} {lo hi m : Nat} {v : Value} {L : List Rp.Rep} (h : Rp.Own w lo hi v L) (hm : L.length = m) (h1 : 1 ≤ m) : ∃ g c,v = .slice (some ⟨g,0,none⟩) m c:=by
 obtain ⟨C,h⟩:=h
 have hl : C.length = m:=h.len.trans hm
 rcases h.row.2 with ⟨_,e⟩ | ⟨g,cap,cur,e,_⟩
 ·
  omega
 ·
  rw [hl] at e
  exact ⟨g,cap,e⟩
def SlP (lo gb : Nat) (c : Cw) (n k : Sl) (w : World) (en : Ending) (w' : World) : Prop:=en = .returned (.tuple #[]) ∧ ∃ M,Rp.ArndR (reps c.nodes) M ∧ OwnK w' lo w'.heap.size ⟨c.now,setL c.nodes M,c.clock⟩ n k ∧ Bo.Box w' gb (kc c n k) ∧ Below lo w w'
theorem SlP.out {lo gb : Nat} {c : Cw} {n k : Sl} {w w' : World} {en : Ending} (h : SlP lo gb c n k w en w') : en = .returned (.tuple #[]) ∧ ∃ M,Rp.ArndR (reps c.nodes) M ∧ OwnK w' lo w'.heap.size ⟨c.now,setL c.nodes M,c.clock⟩ n k ∧ Bo.Box w' gb (kc c n k) ∧ Below lo w w':=h
theorem SlP.of {lo gb : Nat} {c : Cw} {n k : Sl} {w w' : World} {en : Ending} {M : List Rp.Rep} (h : en = .returned (.tuple #[])) (h1 : Rp.ArndR (reps c.nodes) M) (h2 : OwnK w' lo w'.heap.size ⟨c.now,setL c.nodes M,c.clock⟩ n k) (h3 : Bo.Box w' gb (kc c n k)) (h4 : Below lo w w') : SlP lo gb c n k w en w':=⟨h,M,h1,h2,h3,h4⟩
structure RT (gb q g i : Nat) (no : Int) (n1 n2 cc : Nat) (s0 : Option Addr) (s1 s2 : Nat) (p0 : Option Addr) (p1 p2 : Nat) (r0 : Option Addr) (r1 r2 : Nat) (w0 : World) (L : Nat → Bool) (u20 u21 u22 u23 u24 u25 u26 u27 u28 u29 u30 : Value) (W : World) : Prop where
 k0 : L 0 = true → u20 = .pointer (some ⟨gb,0,none⟩)
 k1 : L 1 = true → u21 = .pointer (some ⟨gb,0,none⟩)
 k2 : L 2 = true → u22 = .pointer (some ⟨gb,1,none⟩)
 k3 : L 3 = true → u23 = .slice (some ⟨q,0,none⟩) n1 n2
 k4 : L 4 = true → u24 = .int .i64 i
 k5 : L 5 = true → u25 = .slice (some ⟨g,0,none⟩) n1 cc
 k6 : L 6 = true → u26 = .int .i64 i
 k7 : L 7 = true → u27 = .pointer (some ⟨g,i * 2,none⟩)
 k8 : L 8 = true → u28 = .agg #[.slice p0 p1 p2,.slice r0 r1 r2]
 k9 : L 9 = true → u29 = .pointer (some ⟨q,i * 10,none⟩)
 k10 : L 10 = true → u30 = .pointer (some ⟨q,i * 10,none⟩)
 eqW : L 11 = false → W = w0
 fin : L 11 = true → W = (w0.setCell ⟨q,i * 10,none⟩ (.slice p0 p1 p2)).setCell ⟨q,i * 10 + 1,none⟩ (.slice r0 r1 r2)
 p11_3 : L 11 = true → L 3 = true
 p11_8 : L 11 = true → L 8 = true
def KT (gb q g i : Nat) (no : Int) (n1 n2 cc : Nat) (s0 : Option Addr) (s1 s2 : Nat) (p0 : Option Addr) (p1 p2 : Nat) (r0 : Option Addr) (r1 r2 : Nat) (w0 : World) (y0 y1 y2 y3 y4 y5 y6 y7 y8 y9 y10 y11 y12 y13 y14 y15 y16 y17 y18 y19 : Value) (L : Nat → Bool) (a : Act) (W : World) : Prop:=∃ u20 u21 u22 u23 u24 u25 u26 u27 u28 u29 u30 : Value,a = ⟨(y0 :: y1 :: y2 :: y3 :: y4 :: y5 :: y6 :: y7 :: y8 :: y9 :: y10 :: y11 :: y12 :: y13 :: y14 :: y15 :: y16 :: y17 :: y18 :: y19 :: u20 :: u21 :: u22 :: u23 :: u24 :: u25 :: u26 :: u27 :: u28 :: u29 :: u30 :: []).toArray,[]⟩ ∧ RT gb q g i no n1 n2 cc s0 s1 s2 p0 p1 p2 r0 r1 r2 w0 L u20 u21 u22 u23 u24 u25 u26 u27 u28 u29 u30 W
theorem spec_l18Settle (gb : Nat) (c : Cw) (n k : Sl) (lo hh : Nat) (w : World) (hb : Bo.Box w gb (kc c n k)) (h : OwnK w lo hh c n k) (ok : okK c = true) (hgb : hh ≤ gb) : Calls Tryz.prog 28 #[.pointer (some ⟨gb,0,none⟩)] w fun en w'=>SlP lo gb c n k w en w':=by
 obtain ⟨_,hN1,hN4,hCk,hE,hG⟩:=okK_out ok
 have hT : Rp.Tame (reps c.nodes):=Rp.tame_of (by rw [reps_length]; omega) (Rp.okG_all hG).2.2.1
 have hR:=h.rd
 have CG:=hidIt (fun W (r : RdK W c n k)=>(spec_l18Group c n k W r hN4).mono (fun e w' h=>h.out))
 have CC:=hidIt (fun a cap W (r : Rp.Rd W a (reps c.nodes))=>(Rp.spec_l13Copy a cap (reps c.nodes) W r hT).mono (fun e w' h=>h.out))
 have CA:=hidIt (fun lo2 g m cap W (o : Rp.Own W lo2 W.heap.size (.slice (some ⟨g,0,none⟩) m cap) (reps c.nodes)) hm=>(Rp.spec_l13Around lo2 g m cap (reps c.nodes) W o hG hm).mono (fun e w' h=>h.out))
 have HMk:=hidIt (fun M h1 h2=>Rp.ArndR.mkYes (L:=reps c.nodes) (M:=M) hG h1 h2)
 have HAl:=hidIt (fun M (h : Rp.ArndR (reps c.nodes) M)=>arnd_len hG h)
 have FIN:=hidIt (fun (e : Ending) (w' : World) M=>SlP.of (lo:=lo) (gb:=gb) (c:=c) (n:=n) (k:=k) (w:=w) (w':=w') (en:=e) (M:=M))
 obtain ⟨no,ns,ck⟩:=c
 obtain ⟨n0,n1,n2⟩:=n
 obtain ⟨s0,s1,s2⟩:=k
 rw [reps_length] at CC
 have HRl : Hid ((reps ns).length = n1):=hidIt (by rw [reps_length]; exact hR.nl.symm)
 have HN : Hid (ns.length = n1):=hidIt hR.nl.symm
 simp only [kv,kc,sv] at hN1 hN4 hb CG CC CA HMk HAl FIN
 have hn1 : 1 ≤ n1:=by have:=HN.out; omega
 have hn4 : n1 ≤ 4:=by have:=HN.out; omega
 have HRd:=hidIt hR
 have HOw:=hidIt h
 have HBx:=hidIt hb
 have d0:=hb.c 0 (v:=.int .i64 no) rfl
 have d1:=hb.c 1 (v:=.slice n0 n1 n2) rfl
 have d2:=hb.c 2 (v:=.slice s0 s1 s2) rfl
 have hsz:=hb.lt
 clear h ok hE hG hT hR hN1 hN4 hCk hb
 go_enter Tryz.func28,Tryz.ntmps28
 go_wp2_with (fail)
 refine (CG.out _ HRd.out).mono ?_
 rintro en w1 ⟨a1,c1,rfl,r1,k1⟩
 rw [HN.out]
 have R1:=hidIt r1
 have K1:=hidIt k1
 clear r1 k1 d0 d1 d2
 rw [HN.out] at CC
 go_wp2_with (fail)
 refine (CC.out a1 c1 _ R1.out).mono ?_
 rintro en w2 ⟨v,rfl,o2,k2⟩
 obtain ⟨g,cc,ev⟩:=rep_some o2 HRl.out hn1
 subst ev
 have O2:=hidIt o2
 have K2:=hidIt k2
 clear o2 k2
 go_wp2_with (fail)
 refine (CA.out _ g n1 cc _ O2.out HRl.out).mono ?_
 rintro en w3 ⟨rfl,M,⟨hm1,hm2⟩,o3,k3⟩
 have HAr:=hidIt (HMk.out M hm1 hm2)
 have hs1:=K1.out.size
 have hs2:=K2.out.size
 have hs3:=k3.size
 have hK:=((HOw.out.kept K1.out).kept K2.out).apart (onlyIn_below k3) (.inl (by omega))
 have BX3:=hidIt (box_in ((HBx.out.kept K1.out).kept K2.out) (onlyIn_below k3) (by omega))
 have HB3 : Hid (Below lo w w3):=hidIt (((K1.out.mono (by have:=HOw.out.on.lo_le; omega)).trans (K2.out.mono (by have:=HOw.out.on.lo_le; omega))).trans (k3.mono (by have:=HOw.out.on.lo_le; omega)))
 generalize hlo2 : w1.heap.size = lo2 at *
 have HL2 : Hid (lo ≤ lo2):=hidIt (by have:=HOw.out.on.lo_le; omega)
 obtain ⟨C,ocn⟩:=hK.on
 have hCl : C.length = n1:=ocn.len.trans HN.out
 obtain ⟨q,hq0,hq⟩:=own_some (by simpa [sv] using ocn) hn1
 subst hq0
 obtain ⟨G,ocg⟩:=o3
 have hGl : G.length = n1:=by rw [ocg.len,HAl.out M HAr.out]; exact HRl.out
 have HGl:=hidIt hGl
 have HCl:=hidIt hCl
 have HQ : Hid (q < hh ∧ hh ≤ gb):=hidIt ⟨hq,hgb⟩
 have OCN : Hid (Ns.OwnC w3 lo hh (.slice (some ⟨q,0,none⟩) n1 n2) C ns):=hidIt ocn
 have OCG:=hidIt ocg
 have OKK : Hid (Iv.Own w3 lo (.slice s0 s1 s2) ck):=hidIt hK.ok
 have HKb:=hidIt hK.b
 clear hm1 hm2 k3 hK ocn ocg hGl hCl hq hlo2 hs1 hs2 hs3 K1 K2 R1 O2 CG CC CA HBx
 go_wp2_with (fail)
 go_loopw [3] (fun y wx=>∃ (i : Nat) (D : List Nv.Rw),y = .int .i64 i ∧ i ≤ n1 ∧ Hid (Mix C D G i) ∧ Hid (Nv.Own wx lo (.slice (some ⟨q,0,none⟩) n1 n2) D) ∧ Hid (OnlyIn q (q + 1) w3 wx)) (fun y _=>(n1 - intOf y).toNat)
 case atStart=>exact ⟨0,C,rfl,by omega,hidIt (Mix.start C G),hidIt OCN.out.row,hidIt (OnlyIn.refl _ _ _)⟩
 case round =>
  obtain ⟨i,D,rfl,hi,MX,OD,YX⟩:=hrel
  have BX:=hidIt (box_in BX3.out YX.out (by have:=HQ.out; omega))
  by_cases hin : i < n1
  ·
   have hin' : (i : Int) < (n1 : Int):=by omega
   have hi0' : (0 : Int) ≤ (i : Int):=by omega
   have oG:=row_far OCG.out.row OCN.out.row (by decide) YX.out
   have gg0:=(show Vv.Own wr lo2 (.slice (some ⟨g,0,none⟩) n1 cc) G from oG).at (i:=i) (j:=0) (by rw [HGl.out]; exact hin) (by omega)
   have gg1:=(show Vv.Own wr lo2 (.slice (some ⟨g,0,none⟩) n1 cc) G from oG).at (i:=i) (j:=1) (by rw [HGl.out]; exact hin) (by omega)
   simp only [Vv.rcell,Nat.add_zero] at gg0 gg1
   have hiC : i < C.length:=by rw [HCl.out]; exact hin
   have hiD : i < D.length:=by rw [MX.out.len]; exact hiC
   have qq0:=OD.out.at (i:=i) (j:=0) hiD (by omega)
   have qq1:=OD.out.at (i:=i) (j:=1) hiD (by omega)
   simp only [Nv.rcell,Nat.add_zero] at qq0 qq1
   have ff0:=OD.out.free (i * 10)
   have ff1:=OD.out.free (i * 10 + 1)
   have MX2:=hidIt (MX.out.step hiC)
   have hset:=fun (W : World) (o : Nv.Own W lo (.slice (some ⟨q,0,none⟩) n1 n2) D)=>set2 o hiD (Vv.rat G i)
   have HSet:=hidIt hset
   clear hset oG hiC hiD
   generalize Vv.rat G i = p at *
   obtain ⟨⟨p0,p1,p2⟩,⟨r0,r1,r2⟩⟩:=p
   simp only [sv] at gg0 gg1 HSet
   have d1:=BX.out.c 1 (v:=.slice (some ⟨q,0,none⟩) n1 n2) rfl
   have HD1 : Hid (wr.drew.cell? ⟨gb,1,none⟩ = some (.slice (some ⟨q,0,none⟩) n1 n2)):=hidIt d1
   have HIN:=hidIt hin'
   have HI0:=hidIt hi0'
   have HG0 : Hid (wr.drew.cell? ⟨g,i * 2,none⟩ = some (.slice p0 p1 p2)):=hidIt gg0
   have HG1 : Hid (wr.drew.cell? ⟨g,i * 2 + 1,none⟩ = some (.slice r0 r1 r2)):=hidIt gg1
   have HC0 : Hid (wr.drew.cell? ⟨q,i * 10,none⟩ = some _ ∧ wr.drew.cell? ⟨q,i * 10 + 1,none⟩ = some _ ∧ wr.drew.frozen? ⟨q,i * 10,none⟩ = false ∧ wr.drew.frozen? ⟨q,i * 10 + 1,none⟩ = false):=hidIt ⟨qq0,qq1,ff0,ff1⟩
   have ODd : Hid (Nv.Own wr.drew lo (.slice (some ⟨q,0,none⟩) n1 n2) D):=hidIt OD.out.drew
   have YXd:=hidIt (YX.out.trans (OnlyIn.of_below (Below.refl wr.heap.size wr).drew))
   clear gg0 gg1 qq0 qq1 ff0 ff1
   obtain ⟨W6,hW6⟩ : ∃ W6,W6 = wr.drew:=⟨_,rfl⟩
   rw [← hW6] at HD1 HG0 HG1 HC0 ODd YXd
   have HW6:=hidIt hW6
   clear hW6
   go_wp2_with (fail)
   clear d1
   refine wp_region_inv (by kernel_rfl) (by kernel_rfl) (KT gb q g i no n1 n2 cc s0 s1 s2 p0 p1 p2 r0 r1 r2 W6 _ _ _ _ _ _ _ _ _ _ _ _ _ _ _ _ _ _ _ _) ⟨_,_,_,_,_,_,_,_,_,_,_,rfl,⟨(fun q0=>by cases q0),(fun q0=>by cases q0),(fun q0=>by cases q0),(fun q0=>by cases q0),(fun q0=>by cases q0),(fun q0=>by cases q0),(fun q0=>by cases q0),(fun q0=>by cases q0),(fun q0=>by cases q0),(fun q0=>by cases q0),(fun q0=>by cases q0),(fun _=>HW6.out.symm),(fun q0=>by cases q0),(fun q0=>by cases q0),(fun q0=>by cases q0)⟩⟩ ?_ ?_
   case refine_1 =>
    intro Lb a' W j hj hI hL hD
    have hcases : j = 0 ∨ j = 1 ∨ j = 2 ∨ j = 3 ∨ j = 4 ∨ j = 5 ∨ j = 6 ∨ j = 7 ∨ j = 8 ∨ j = 9 ∨ j = 10 ∨ j = 11:=by simp at hj; omega
    clear hj
    obtain ⟨u20,u21,u22,u23,u24,u25,u26,u27,u28,u29,u30,rfl,R⟩:=hI
    rcases hcases with rfl | rfl | rfl | rfl | rfl | rfl | rfl | rfl | rfl | rfl | rfl | rfl
    ·
     skip
     refine op_at rfl (fun K hK=>?_)
     go_simp
     refine hK _ _ ?_
     exact ⟨_,_,_,_,_,_,_,_,_,_,_,rfl,{ R with k0:=(fun _=>rfl) }⟩
    ·
     skip
     have e0:=R.k0 (hD 0 (by kernel_rfl))
     subst e0
     refine op_at rfl (fun K hK=>?_)
     go_simp
     refine hK _ _ ?_
     exact ⟨_,_,_,_,_,_,_,_,_,_,_,rfl,{ R with k1:=(fun _=>rfl) }⟩
    ·
     skip
     have e1:=R.k1 (hD 1 (by kernel_rfl))
     subst e1
     refine op_at rfl (fun K hK=>?_)
     go_simp
     refine hK _ _ ?_
     exact ⟨_,_,_,_,_,_,_,_,_,_,_,rfl,{ R with k2:=(fun _=>rfl) }⟩
    ·
     skip
     have e2:=R.k2 (hD 2 (by kernel_rfl))
     subst e2
     have n11 : Lb 11 = false:=by
      cases q : Lb 11 with
      | false=>rfl
      | true=>have z:=R.p11_3 (q); rw [hL] at z; cases z
     have eW:=R.eqW n11
     subst eW
     have d1:=HD1.out
     refine op_at rfl (fun K hK=>?_)
     go_simp
     refine hK _ _ ?_
     exact ⟨_,_,_,_,_,_,_,_,_,_,_,rfl,{ R with k3:=(fun _=>rfl),p11_3:=(fun _=>rfl) }⟩
    ·
     skip
     refine op_at rfl (fun K hK=>?_)
     go_simp
     refine hK _ _ ?_
     exact ⟨_,_,_,_,_,_,_,_,_,_,_,rfl,{ R with k4:=(fun _=>rfl) }⟩
    ·
     skip
     refine op_at rfl (fun K hK=>?_)
     go_simp
     refine hK _ _ ?_
     exact ⟨_,_,_,_,_,_,_,_,_,_,_,rfl,{ R with k5:=(fun _=>rfl) }⟩
    ·
     skip
     refine op_at rfl (fun K hK=>?_)
     go_simp
     refine hK _ _ ?_
     exact ⟨_,_,_,_,_,_,_,_,_,_,_,rfl,{ R with k6:=(fun _=>rfl) }⟩
    ·
     skip
     have e5:=R.k5 (hD 5 (by kernel_rfl))
     subst e5
     have e6:=R.k6 (hD 6 (by kernel_rfl))
     subst e6
     have hin1:=HIN.out
     have hin0:=HI0.out
     refine op_at rfl (fun K hK=>?_)
     go_simp
     refine hK _ _ ?_
     exact ⟨_,_,_,_,_,_,_,_,_,_,_,rfl,{ R with k7:=(fun _=>rfl) }⟩
    ·
     skip
     have e7:=R.k7 (hD 7 (by kernel_rfl))
     subst e7
     have n11 : Lb 11 = false:=by
      cases q : Lb 11 with
      | false=>rfl
      | true=>have z:=R.p11_8 (q); rw [hL] at z; cases z
     have eW:=R.eqW n11
     subst eW
     have d1:=HG0.out
     have d2:=HG1.out
     refine op_at rfl (fun K hK=>?_)
     go_simp
     refine hK _ _ ?_
     exact ⟨_,_,_,_,_,_,_,_,_,_,_,rfl,{ R with k8:=(fun _=>rfl),p11_8:=(fun _=>rfl) }⟩
    ·
     skip
     have e3:=R.k3 (hD 3 (by kernel_rfl))
     subst e3
     have e4:=R.k4 (hD 4 (by kernel_rfl))
     subst e4
     have hin1:=HIN.out
     have hin0:=HI0.out
     refine op_at rfl (fun K hK=>?_)
     go_simp
     refine hK _ _ ?_
     exact ⟨_,_,_,_,_,_,_,_,_,_,_,rfl,{ R with k9:=(fun _=>rfl) }⟩
    ·
     skip
     have e9:=R.k9 (hD 9 (by kernel_rfl))
     subst e9
     refine op_at rfl (fun K hK=>?_)
     go_simp
     refine hK _ _ ?_
     exact ⟨_,_,_,_,_,_,_,_,_,_,_,rfl,{ R with k10:=(fun _=>rfl) }⟩
    ·
     skip
     have e8:=R.k8 (hD 8 (by kernel_rfl))
     subst e8
     have e10:=R.k10 (hD 10 (by kernel_rfl))
     subst e10
     have eW:=R.eqW hL
     subst eW
     obtain ⟨d1,d2,f1,f2⟩:=HC0.out
     refine op_at rfl (fun K hK=>?_)
     go_simp
     refine hK _ _ ?_
     exact ⟨_,_,_,_,_,_,_,_,_,_,_,rfl,{ R with eqW:=(fun q0=>by cases q0),fin:=(fun _=>rfl),p11_3:=(fun _=>hD 3 (by kernel_rfl)),p11_8:=(fun _=>hD 8 (by kernel_rfl)) }⟩
   case refine_2 =>
    intro Lb a' W hI hall
    obtain ⟨u20,u21,u22,u23,u24,u25,u26,u27,u28,u29,u30,rfl,R⟩:=hI
    have eW:=R.fin (hall 11)
    have ODs:=hidIt (HSet.out W6 ODd.out)
    have YXs:=hidIt (YXd.out.trans (OnlyIn.of_only (set2_only (w:=W6) (q:=q) (i:=i) (u:=.slice p0 p1 p2) (v:=.slice r0 r1 r2)) (.inr ⟨Nat.le_refl _,Nat.lt_succ_self _⟩)))
    rw [← eW] at ODs YXs
    clear R hall eW HSet
    go_wp2_with (fail)
    exact ⟨⟨i + 1,_,by simp,by omega,MX2,ODs,YXs⟩,by simp [intOf]; omega⟩
  ·
   have hin' : ¬ (i : Int) < (n1 : Int):=by omega
   obtain rfl : i = n1:=by omega
   have d1:=BX.out.c 1 (v:=.slice (some ⟨q,0,none⟩) i n2) rfl
   have hml : M.length = ns.length:=by rw [HAl.out M HAr.out,HRl.out]; exact HN.out.symm
   have z:=settle_own OCN.out OCG.out hml HL2.out YX.out OD.out (by rw [HN.out]; exact MX.out)
   have OZ:=hidIt z
   have OKZ:=hidIt (Iv_far OKK.out OCN.out.row YX.out)
   have HBZ:=hidIt (HB3.out.trans (YX.out.below (World.ownsRow.lt OCN.out.row q rfl).1 (by have:=OCN.out.hi'; have:=OCN.out.lo'; omega)))
   clear z
   go_wp2_with (fail)
   refine bodyPost_end (v:=.tuple #[]) (by simp [results,Tryz.results28,go_sem]) rfl ?_
   exact FIN.out _ _ M rfl HAr.out ⟨⟨D,OZ.out⟩,OKZ.out,fun g hg=>(World.ownsRow.lt OKZ.out g hg).2⟩ BX.out HBZ.out
theorem OwnK.fresh {w w' : World} {lo hi base q : Nat} {c : Cw} {n k : Sl} (h : OwnK w lo hi c n k) (Y : Only q w w') (hq : q < lo) (hb : base ≤ lo) : OwnK w' base w'.heap.size c n k :=
 have z:=h.apart (OnlyIn.of_only (lo:=q) (hi:=q + 1) Y (.inr ⟨Nat.le_refl _,Nat.lt_succ_self _⟩)) (.inr hq)
 ⟨z.on.grow.mono hb (Nat.le_refl _) (Nat.le_refl _),z.ok.mono hb,fun g hg=>(World.ownsRow.lt z.ok g hg).2⟩
theorem spec_Settled (c : Cw) (n k : Sl) (lo hh : Nat) (w : World) (h : OwnK w lo hh c n k) (hs : ShortK c) : Calls Tryz.prog 10 #[kv c n k] w fun en w'=>StP w c en w':=by
 have CO:=hidIt (fun W (kb : Below w.heap.size w W)=>spec_ClusterOk c n k W (h.rd.kept kb) hs)
 have CP:=hidIt (fun W (kb : Below w.heap.size w W) (ok : okK c = true)=>(spec_copy c n k lo hh W (h.kept kb) ok).mono (fun e w' h=>h.out))
 have CS:=hidIt (fun gb n k lo2 hh2 W (b : Bo.Box W gb (kc c n k)) (o : OwnK W lo2 hh2 c n k) (ok : okK c = true) hg=>(spec_l18Settle gb c n k lo2 hh2 W b o ok hg).mono (fun e w' h=>h.out))
 have HZ0:=hidIt (fun (ok : okK c = false) (en : Ending) (w' : World)=>StP.zero (w:=w) (w':=w') (c:=c) (en:=en) ok)
 have HZ1:=hidIt (fun (ok : okK c = true) (M : List Rp.Rep) (hM : Rp.ArndR (reps c.nodes) M) (en : Ending) (w' : World) (n' k' : Sl)=>StP.of (w:=w) (w':=w') (en:=en) (n:=n') (k:=k') (StlR.mkYes (c:=c) (M:=M) ok hM))
 obtain ⟨no,ns,ck⟩:=c
 obtain ⟨n0,n1,n2⟩:=n
 obtain ⟨s0,s1,s2⟩:=k
 have kA : Below w.heap.size w ((w.alloc (.cells #[.int .i64 no,.slice n0 n1 n2,.slice s0 s1 s2] 30)).alloc (.cells #[.int .i64 0,.slice none 0 0,.slice none 0 0] 30)):=((Below.refl w.heap.size w).alloc (Nat.le_refl _) _).alloc (by simp) _
 have BP : Hid (Bo.Box ((w.alloc (.cells #[.int .i64 no,.slice n0 n1 n2,.slice s0 s1 s2] 30)).alloc (.cells #[.int .i64 0,.slice none 0 0,.slice none 0 0] 30)) (w.heap.size) #[.int .i64 no,.slice n0 n1 n2,.slice s0 s1 s2]):=hidIt ((Bo.Box.new w _ _).alloc _)
 have BQ : Hid (Bo.Box ((w.alloc (.cells #[.int .i64 no,.slice n0 n1 n2,.slice s0 s1 s2] 30)).alloc (.cells #[.int .i64 0,.slice none 0 0,.slice none 0 0] 30)) (w.heap.size + 1) #[.int .i64 0,.slice none 0 0,.slice none 0 0]):=hidIt (Bo.Box.newAt (by simp))
 have HB:=hidIt kA
 have p0:=BP.out.c 0 (v:=.int .i64 no) rfl
 have p1:=BP.out.c 1 (v:=.slice n0 n1 n2) rfl
 have p2:=BP.out.c 2 (v:=.slice s0 s1 s2) rfl
 simp only [kv,kc,sv] at CO CP ⊢
 generalize hok : okK ⟨no,ns,ck⟩ = pv at CO CP HZ0 HZ1 CS
 clear h hs kA hok 
 go_enter Tryz.func10,Tryz.ntmps10
 go_wp2_with (fail)
 refine (CO.out _ HB.out).mono ?_
 rintro en w1 ⟨rfl,k1⟩
 replace HB:=hidIt (HB.out.trans (k1.mono HB.out.size))
 replace BP:=hidIt (BP.out.kept k1)
 replace BQ:=hidIt (BQ.out.kept k1)
 clear k1 p0 p1 p2 CO
 cases pv with
 | false =>
  have c0z:=BQ.out.c 0 (v:=.int .i64 0) rfl
  have c1z:=BQ.out.c 1 (v:=.slice none 0 0) rfl
  have c2z:=BQ.out.c 2 (v:=.slice none 0 0) rfl
  have z0z:=BQ.out.fr 0
  have z1z:=BQ.out.fr 1
  have z2z:=BQ.out.fr 2
  have RZ:=hidIt ((((BQ.out).put (c':=#[.int .i64 0,.slice none 0 0,.slice none 0 0]) 0 (.int .i64 0) (by simp) rfl).put (c':=#[.int .i64 0,.slice none 0 0,.slice none 0 0]) 1 (.slice none 0 0) (by simp) rfl).put (c':=#[.int .i64 0,.slice none 0 0,.slice none 0 0]) 2 (.slice none 0 0) (by simp) rfl)
  have HZ:=hidIt ((((HB.out).setCell (p:=⟨w.heap.size + 1,0,none⟩) (by show w.heap.size ≤ w.heap.size + 1; omega) (.int .i64 0)).setCell (p:=⟨w.heap.size + 1,1,none⟩) (by show w.heap.size ≤ w.heap.size + 1; omega) (.slice none 0 0)).setCell (p:=⟨w.heap.size + 1,2,none⟩) (by show w.heap.size ≤ w.heap.size + 1; omega) (.slice none 0 0))
  have YZ:=hidIt ((((Only.refl (w.heap.size + 1) (w1)).setCell 0 (.int .i64 0)).setCell 1 (.slice none 0 0)).setCell 2 (.slice none 0 0))
  go_wp2_with (fail)
  generalize (((w1).setCell ⟨w.heap.size + 1,0,none⟩ (.int .i64 0)).setCell ⟨w.heap.size + 1,1,none⟩ (.slice none 0 0)).setCell ⟨w.heap.size + 1,2,none⟩ (.slice none 0 0) = wz at RZ HZ YZ ⊢
  clear c0z z0z c1z z1z c2z z2z
  have q0c:=RZ.out.c 0 (v:=.int .i64 0) rfl
  have q1c:=RZ.out.c 1 (v:=.slice none 0 0) rfl
  have q2c:=RZ.out.c 2 (v:=.slice none 0 0) rfl
  refine bodyPost_ret (v:=.agg #[.int .i64 0,.slice none 0 0,.slice none 0 0]) (by simp [results,Tryz.results10,go_sem,q0c,q1c,q2c]) rfl ?_
  exact HZ0.out (by first | rfl | trivial) _ _ rfl HZ.out
 | true =>
 have p0:=BP.out.c 0 (v:=.int .i64 no) rfl
 have p1:=BP.out.c 1 (v:=.slice n0 n1 n2) rfl
 have p2:=BP.out.c 2 (v:=.slice s0 s1 s2) rfl
 go_wp2_with (fail)
 refine (CP.out _ HB.out (by first | rfl | trivial)).mono ?_
 rintro en w2 ⟨⟨x0,x1,x2⟩,⟨y0,y1,y2⟩,rfl,oK,k2⟩
 have hsz2:=k2.size
 have hsz1:=BQ.out.lt
 have HB2:=hidIt (HB.out.trans (k2.mono HB.out.size))
 have BQ2:=hidIt (BQ.out.kept k2)
 clear p0 p1 p2 HB BP BQ CP
 have kB : Below w2.heap.size w2 (w2.alloc (.cells #[.int .i64 no,.slice x0 x1 x2,.slice y0 y1 y2] 30)):=(Below.refl _ _).alloc (Nat.le_refl _) _
 have OK3:=hidIt (oK.kept kB)
 have BX3:=hidIt (Bo.Box.new w2 #[.int .i64 no,.slice x0 x1 x2,.slice y0 y1 y2] 30)
 have BQ3:=hidIt (BQ2.out.kept kB)
 have HB3:=hidIt (HB2.out.trans (kB.mono HB2.out.size))
 clear k2 oK kB BQ2 HB2
 go_wp2_with (fail)
 generalize w2.alloc (.cells #[.int .i64 no,.slice x0 x1 x2,.slice y0 y1 y2] 30) = W3 at OK3 BX3 BQ3 HB3 ⊢
 refine (CS.out w2.heap.size (x0,x1,x2) (y0,y1,y2) w1.heap.size w2.heap.size _ BX3.out OK3.out (by first | rfl | trivial) (Nat.le_refl _)).mono ?_
 rintro en w4 ⟨rfl,M,hA,oS,bS,k4⟩
 have HAr:=hidIt hA
 have OS:=hidIt oS
 have BS:=hidIt bS
 have BQ4:=hidIt (box_in BQ3.out (onlyIn_below k4) (by omega))
 have HB4:=hidIt (HB3.out.trans (k4.mono (by omega)))
 clear hA oS bS k4 BQ3 HB3 BX3 OK3
 have e0:=BS.out.c 0 (v:=.int .i64 no) rfl
 have e1:=BS.out.c 1 (v:=.slice x0 x1 x2) rfl
 have e2:=BS.out.c 2 (v:=.slice y0 y1 y2) rfl
 have c0z:=BQ4.out.c 0 (v:=.int .i64 0) rfl
 have c1z:=BQ4.out.c 1 (v:=.slice none 0 0) rfl
 have c2z:=BQ4.out.c 2 (v:=.slice none 0 0) rfl
 have z0z:=BQ4.out.fr 0
 have z1z:=BQ4.out.fr 1
 have z2z:=BQ4.out.fr 2
 have RZ:=hidIt ((((BQ4.out).put (c':=#[.int .i64 no,.slice none 0 0,.slice none 0 0]) 0 (.int .i64 no) (by simp) rfl).put (c':=#[.int .i64 no,.slice x0 x1 x2,.slice none 0 0]) 1 (.slice x0 x1 x2) (by simp) rfl).put (c':=#[.int .i64 no,.slice x0 x1 x2,.slice y0 y1 y2]) 2 (.slice y0 y1 y2) (by simp) rfl)
 have HZ:=hidIt ((((HB4.out).setCell (p:=⟨w.heap.size + 1,0,none⟩) (by show w.heap.size ≤ w.heap.size + 1; omega) (.int .i64 no)).setCell (p:=⟨w.heap.size + 1,1,none⟩) (by show w.heap.size ≤ w.heap.size + 1; omega) (.slice x0 x1 x2)).setCell (p:=⟨w.heap.size + 1,2,none⟩) (by show w.heap.size ≤ w.heap.size + 1; omega) (.slice y0 y1 y2))
 have YZ:=hidIt ((((Only.refl (w.heap.size + 1) (w4)).setCell 0 (.int .i64 no)).setCell 1 (.slice x0 x1 x2)).setCell 2 (.slice y0 y1 y2))
 go_wp2_with (fail)
 generalize (((w4).setCell ⟨w.heap.size + 1,0,none⟩ (.int .i64 no)).setCell ⟨w.heap.size + 1,1,none⟩ (.slice x0 x1 x2)).setCell ⟨w.heap.size + 1,2,none⟩ (.slice y0 y1 y2) = wz at RZ HZ YZ ⊢
 clear c0z z0z c1z z1z c2z z2z e0 e1 e2
 have q0c:=RZ.out.c 0 (v:=.int .i64 no) rfl
 have q1c:=RZ.out.c 1 (v:=.slice x0 x1 x2) rfl
 have q2c:=RZ.out.c 2 (v:=.slice y0 y1 y2) rfl
 refine bodyPost_ret (v:=.agg #[.int .i64 no,.slice x0 x1 x2,.slice y0 y1 y2]) (by simp [results,Tryz.results10,go_sem,q0c,q1c,q2c]) rfl ?_
 exact HZ1.out (by first | rfl | trivial) M HAr.out _ _ (x0,x1,x2) (y0,y1,y2) rfl (OwnK.fresh OS.out YZ.out (by omega) (by omega)) HZ.out
end Go.Proofs.YtgbnkkjjgodilaaGreatDoor.Kc
namespace Go.Proofs.YtgbnkkjjgodilaaGreatDoor.Kc
open Go.ChangeShapes Go.WideShapes Go.ChangeAt Go.RowKit
open Vv (Sl sv hidIt)
open Nd (Nw RdN OwnN ShortN SmallN)
open Ns (nod)
open Rp (OnlyIn own_apart row_in)
open Rg (upd waits wp_region_inv op_at no1 box_only below_only row_only)
theorem impl_Settled (c : Cw) (n k : Sl) (lo hh : Nat) (w : World) (h : OwnK w lo hh c n k) (hs : ShortK c) (ht : Sg.Tab w) : Calls Tryz.prog 11 #[kv c n k] w fun en w'=>StP w c en w':=by
 have CO:=hidIt (fun W (kb : Below w.heap.size w W)=>impl_ClusterOk c n k W (h.rd.kept kb) hs (ht.kept kb))
 have CP:=hidIt (fun W (kb : Below w.heap.size w W) (ok : okK c = true)=>(impl_copy c n k lo hh W (h.kept kb) ok).mono (fun e w' h=>h.out))
 have HPt:=hidIt (fun (ok : okK c = true)=>okK_out ok)
 have CR:=hidIt (fun a cap W (r : Ns.Rd W a c.nodes) hl=>(impl_replicasOf a cap c.nodes W r hl).mono (fun e w' h=>h.out))
 have CA:=hidIt (fun a cap W (r : Rp.Rd W a (reps c.nodes)) hl hlb=>(Rp.impl_Around a cap (reps c.nodes) W r (reps_short hs) hl hlb).mono (fun e w' h=>h.out))
 have HAl:=hidIt (fun M (hG : Rp.okG (reps c.nodes) = true) (h : Rp.ArndR (reps c.nodes) M)=>arnd_len hG h)
 have HLn:=hidIt (fun (W : World) (a : Option Addr) (r : Ns.Rd W a c.nodes) i hi=>lens r (i:=i) hi)
 have HZ0:=hidIt (fun (ok : okK c = false) (en : Ending) (w' : World)=>StP.zero (w:=w) (w':=w') (c:=c) (en:=en) ok)
 have HZ1:=hidIt (fun (ok : okK c = true) (M : List Rp.Rep) (hM : Rp.ArndR (reps c.nodes) M) (en : Ending) (w' : World) (n' k' : Sl)=>StP.of (w:=w) (w':=w') (en:=en) (n:=n') (k:=k') (StlR.mkYes (c:=c) (M:=M) ok hM))
 obtain ⟨no,ns,ck⟩:=c
 obtain ⟨n0,n1,n2⟩:=n
 obtain ⟨s0,s1,s2⟩:=k
 have kA : Below w.heap.size w ((w.alloc (.cells #[.int .i64 no,.slice n0 n1 n2,.slice s0 s1 s2] 30)).alloc (.cells #[.int .i64 0,.slice none 0 0,.slice none 0 0] 30)):=((Below.refl w.heap.size w).alloc (Nat.le_refl _) _).alloc (by simp) _
 have BP : Hid (Bo.Box ((w.alloc (.cells #[.int .i64 no,.slice n0 n1 n2,.slice s0 s1 s2] 30)).alloc (.cells #[.int .i64 0,.slice none 0 0,.slice none 0 0] 30)) (w.heap.size) #[.int .i64 no,.slice n0 n1 n2,.slice s0 s1 s2]):=hidIt ((Bo.Box.new w _ _).alloc _)
 have BQ : Hid (Bo.Box ((w.alloc (.cells #[.int .i64 no,.slice n0 n1 n2,.slice s0 s1 s2] 30)).alloc (.cells #[.int .i64 0,.slice none 0 0,.slice none 0 0] 30)) (w.heap.size + 1) #[.int .i64 0,.slice none 0 0,.slice none 0 0]):=hidIt (Bo.Box.newAt (by simp))
 have HB:=hidIt kA
 have p0:=BP.out.c 0 (v:=.int .i64 no) rfl
 have p1:=BP.out.c 1 (v:=.slice n0 n1 n2) rfl
 have p2:=BP.out.c 2 (v:=.slice s0 s1 s2) rfl
 simp only [kv,kc,sv] at CO CP ⊢
 generalize hok : okK ⟨no,ns,ck⟩ = pv at CO CP HZ0 HZ1 HPt
 clear h hs kA hok ht
 go_enter Tryz.func11,Tryz.ntmps11
 go_wp2_with (fail)
 refine (CO.out _ HB.out).mono ?_
 rintro en w1 ⟨rfl,k1⟩
 replace HB:=hidIt (HB.out.trans (k1.mono HB.out.size))
 replace BP:=hidIt (BP.out.kept k1)
 replace BQ:=hidIt (BQ.out.kept k1)
 clear k1 p0 p1 p2 CO
 cases pv with
 | false =>
  have c0z:=BQ.out.c 0 (v:=.int .i64 0) rfl
  have c1z:=BQ.out.c 1 (v:=.slice none 0 0) rfl
  have c2z:=BQ.out.c 2 (v:=.slice none 0 0) rfl
  have z0z:=BQ.out.fr 0
  have z1z:=BQ.out.fr 1
  have z2z:=BQ.out.fr 2
  have RZ:=hidIt ((((BQ.out).put (c':=#[.int .i64 0,.slice none 0 0,.slice none 0 0]) 0 (.int .i64 0) (by simp) rfl).put (c':=#[.int .i64 0,.slice none 0 0,.slice none 0 0]) 1 (.slice none 0 0) (by simp) rfl).put (c':=#[.int .i64 0,.slice none 0 0,.slice none 0 0]) 2 (.slice none 0 0) (by simp) rfl)
  have HZ:=hidIt ((((HB.out).setCell (p:=⟨w.heap.size + 1,0,none⟩) (by show w.heap.size ≤ w.heap.size + 1; omega) (.int .i64 0)).setCell (p:=⟨w.heap.size + 1,1,none⟩) (by show w.heap.size ≤ w.heap.size + 1; omega) (.slice none 0 0)).setCell (p:=⟨w.heap.size + 1,2,none⟩) (by show w.heap.size ≤ w.heap.size + 1; omega) (.slice none 0 0))
  have YZ:=hidIt ((((Only.refl (w.heap.size + 1) (w1)).setCell 0 (.int .i64 0)).setCell 1 (.slice none 0 0)).setCell 2 (.slice none 0 0))
  go_wp2_with (fail)
  generalize (((w1).setCell ⟨w.heap.size + 1,0,none⟩ (.int .i64 0)).setCell ⟨w.heap.size + 1,1,none⟩ (.slice none 0 0)).setCell ⟨w.heap.size + 1,2,none⟩ (.slice none 0 0) = wz at RZ HZ YZ ⊢
  clear c0z z0z c1z z1z c2z z2z
  have q0c:=RZ.out.c 0 (v:=.int .i64 0) rfl
  have q1c:=RZ.out.c 1 (v:=.slice none 0 0) rfl
  have q2c:=RZ.out.c 2 (v:=.slice none 0 0) rfl
  refine bodyPost_ret (v:=.agg #[.int .i64 0,.slice none 0 0,.slice none 0 0]) (by simp [results,Tryz.results11,go_sem,q0c,q1c,q2c]) rfl ?_
  exact HZ0.out (by first | rfl | trivial) _ _ rfl HZ.out
 | true =>
 have p0:=BP.out.c 0 (v:=.int .i64 no) rfl
 have p1:=BP.out.c 1 (v:=.slice n0 n1 n2) rfl
 have p2:=BP.out.c 2 (v:=.slice s0 s1 s2) rfl
 go_wp2_with (fail)
 refine (CP.out _ HB.out (by first | rfl | trivial)).mono ?_
 rintro en w2 ⟨⟨x0,x1,x2⟩,⟨y0,y1,y2⟩,rfl,oK,k2⟩
 have hsz2:=k2.size
 have hsz1:=BQ.out.lt
 have HB2:=hidIt (HB.out.trans (k2.mono HB.out.size))
 have BQ2:=hidIt (BQ.out.kept k2)
 clear p0 p1 p2 HB BP BQ CP
 obtain ⟨_,hN1,hN4,_,_,hG⟩:=HPt.out (by first | rfl | trivial)
 have hN1 : 1 ≤ ns.length:=hN1
 have hN4 : ns.length ≤ 4:=hN4
 have hx1 : x1 = ns.length:=oK.rd.nl
 have HN : Hid (ns.length = x1):=hidIt hx1.symm
 have HRl : Hid ((reps ns).length = x1):=hidIt (by rw [reps_length]; exact hx1.symm)
 have hn1 : 1 ≤ x1:=by omega
 have hn4 : x1 ≤ 4:=by omega
 have HGk:=hidIt hG
 have HN4:=hidIt hN4
 clear hN1 hx1 HPt hG hN4
 have kB : Below w2.heap.size w2 (w2.alloc (.cells #[.int .i64 no,.slice x0 x1 x2,.slice y0 y1 y2] 30)):=(Below.refl _ _).alloc (Nat.le_refl _) _
 have OK3:=hidIt (oK.kept kB)
 have BX3:=hidIt (Bo.Box.new w2 #[.int .i64 no,.slice x0 x1 x2,.slice y0 y1 y2] 30)
 have BQ3:=hidIt (BQ2.out.kept kB)
 have HB3:=hidIt (HB2.out.trans (kB.mono HB2.out.size))
 clear k2 oK kB BQ2 HB2
 have hRN : Ns.Rd (w2.alloc (.cells #[.int .i64 no,.slice x0 x1 x2,.slice y0 y1 y2] 30)) x0 ns:=OK3.out.rd.nr
 have HRN:=hidIt hRN
 have hs3 : (w2.alloc (.cells #[.int .i64 no,.slice x0 x1 x2,.slice y0 y1 y2] 30)).heap.size = w2.heap.size + 1:=by simp
 rw [HN.out] at CR
 rw [reps_length,HN.out] at CA
 have e1:=BX3.out.c 1 (v:=.slice x0 x1 x2) rfl
 clear hRN
 go_wp2_with (fail)
 clear e1
 generalize w2.alloc (.cells #[.int .i64 no,.slice x0 x1 x2,.slice y0 y1 y2] 30) = W3 at OK3 BX3 BQ3 HB3 HRN hs3 ⊢
 refine (CR.out x0 x2 _ HRN.out (by omega)).mono ?_
 rintro en w4 ⟨a4,c4,rfl,r4,k4⟩
 have R4:=hidIt r4
 have K4:=hidIt k4
 clear r4 k4
 go_wp2_with (fail)
 refine (CA.out a4 c4 _ R4.out (by omega) (fun i hi=>by rw [rat_reps (by rw [HN.out]; exact hi)]; exact HLn.out _ _ HRN.out i (by rw [HN.out]; exact hi))).mono ?_
 rintro en w5 ⟨M,hA,hz⟩
 obtain ⟨v,rfl,o5,k5⟩:=hz.out
 have HAr:=hidIt hA
 have hml : M.length = x1:=by rw [HAl.out M HGk.out hA]; exact HRl.out
 obtain ⟨g,cc,ev⟩:=rep_some o5 hml hn1
 subst ev
 have hs4:=K4.out.size
 have hs5:=k5.size
 have kk : Below W3.heap.size W3 w5:=K4.out.trans (k5.mono hs4)
 have hK:=OK3.out.kept kk
 have BX5:=hidIt (BX3.out.kept kk)
 have BQ5:=hidIt (BQ3.out.kept kk)
 have HB5:=hidIt (HB3.out.trans (kk.mono HB3.out.size))
 obtain ⟨C,ocn⟩:=hK.on
 have hCl : C.length = x1:=ocn.len.trans HN.out
 obtain ⟨q,hq0,hq⟩:=own_some (by simpa [sv] using ocn) hn1
 subst hq0
 obtain ⟨G,ocg⟩:=o5
 have hGl : G.length = x1:=ocg.len.trans hml
 generalize hlo2 : w4.heap.size = lo2 at *
 have HGl:=hidIt hGl
 have HCl:=hidIt hCl
 have HMl:=hidIt hml
 have HQ : Hid (q < w2.heap.size ∧ w1.heap.size ≤ q):=hidIt ⟨hq,(World.ownsRow.lt ocn.row q rfl).1⟩
 have HL2 : Hid (w1.heap.size ≤ lo2):=hidIt (by omega)
 have OCN : Hid (Ns.OwnC w5 w1.heap.size w2.heap.size (.slice (some ⟨q,0,none⟩) x1 x2) C ns):=hidIt ocn
 have OCG:=hidIt ocg
 have OKK : Hid (Iv.Own w5 w1.heap.size (.slice y0 y1 y2) ck):=hidIt hK.ok
 have HS2 : Hid (w.heap.size + 1 < w1.heap.size ∧ w1.heap.size ≤ w2.heap.size):=hidIt ⟨hsz1,hsz2⟩
 clear hA hz k5 kk hK ocn ocg hGl hCl hml hq hlo2 hs4 hs5 hs3 K4 R4 CR CA OK3 BX3 BQ3 HB3 HRN HLn hsz1 hsz2
 go_wp2_with (fail)
 go_loopw [17] (fun y wx=>∃ (i : Nat) (D : List Nv.Rw),y = .int .i64 i ∧ i ≤ x1 ∧ Hid (Mix C D G i) ∧ Hid (Nv.Own wx w1.heap.size (.slice (some ⟨q,0,none⟩) x1 x2) D) ∧ Hid (OnlyIn q (q + 1) w5 wx)) (fun y _=>(x1 - intOf y).toNat)
 case atStart=>exact ⟨0,C,rfl,by omega,hidIt (Mix.start C G),hidIt OCN.out.row,hidIt (OnlyIn.refl _ _ _)⟩
 case round =>
  obtain ⟨i,D,rfl,hi,MX,OD,YX⟩:=hrel
  have BX:=hidIt (box_in BX5.out YX.out (by have:=HQ.out; omega))
  by_cases hin : i < x1
  ·
   have hin' : (i : Int) < (x1 : Int):=by omega
   have hi0' : (0 : Int) ≤ (i : Int):=by omega
   have oG:=row_far OCG.out.row OCN.out.row (by decide) YX.out
   have gg0:=(show Vv.Own wr lo2 (.slice (some ⟨g,0,none⟩) x1 cc) G from oG).at (i:=i) (j:=0) (by rw [HGl.out]; exact hin) (by omega)
   have gg1:=(show Vv.Own wr lo2 (.slice (some ⟨g,0,none⟩) x1 cc) G from oG).at (i:=i) (j:=1) (by rw [HGl.out]; exact hin) (by omega)
   simp only [Vv.rcell,Nat.add_zero] at gg0 gg1
   have hiC : i < C.length:=by rw [HCl.out]; exact hin
   have hiD : i < D.length:=by rw [MX.out.len]; exact hiC
   have qq0:=OD.out.at (i:=i) (j:=0) hiD (by omega)
   have qq1:=OD.out.at (i:=i) (j:=1) hiD (by omega)
   simp only [Nv.rcell,Nat.add_zero] at qq0 qq1
   have ff0:=OD.out.free (i * 10)
   have ff1:=OD.out.free (i * 10 + 1)
   have MX2:=hidIt (MX.out.step hiC)
   have hset:=fun (W : World) (o : Nv.Own W w1.heap.size (.slice (some ⟨q,0,none⟩) x1 x2) D)=>set2 o hiD (Vv.rat G i)
   have HSet:=hidIt hset
   clear hset oG hiC hiD
   generalize Vv.rat G i = p at *
   obtain ⟨⟨p0,p1,p2⟩,⟨r0,r1,r2⟩⟩:=p
   simp only [sv] at gg0 gg1 HSet
   have d1:=BX.out.c 1 (v:=.slice (some ⟨q,0,none⟩) x1 x2) rfl
   have hb4 : w2.heap.size < wr.heap.size:=BX.out.lt
   have hq4 : q < wr.heap.size:=World.block_lt_of_cell? wr _ qq0
   have ODs:=hidIt ((HSet.out wr OD.out).alloc (.cells #[.slice p0 p1 p2,.slice r0 r1 r2] 43))
   have YXs:=hidIt ((YX.out.trans (OnlyIn.of_only (set2_only (w:=wr) (q:=q) (i:=i) (u:=.slice p0 p1 p2) (v:=.slice r0 r1 r2)) (.inr ⟨Nat.le_refl _,Nat.lt_succ_self _⟩))).trans (OnlyIn.of_below ((Below.refl _ _).alloc (Nat.le_refl _) (.cells #[.slice p0 p1 p2,.slice r0 r1 r2] 43))))
   clear HSet
   go_wp2_with (fail)
   exact ⟨⟨i + 1,_,by simp,by omega,MX2,ODs,YXs⟩,by simp [intOf]; omega⟩
  ·
   have hin' : ¬ (i : Int) < (x1 : Int):=by omega
   obtain rfl : i = x1:=by omega
   have z:=settle_own OCN.out OCG.out (by rw [HMl.out]; exact HN.out.symm) HL2.out YX.out OD.out (by rw [HN.out]; exact MX.out)
   have OZ:=hidIt z
   have OKZ:=hidIt (Iv_far OKK.out OCN.out.row YX.out)
   have hq5:=HQ.out
   have hs6:=HS2.out
   have BQ6:=hidIt (box_in BQ5.out YX.out (by omega))
   have HB6:=hidIt (HB5.out.trans (YX.out.below (by omega) HB5.out.size))
   have OKz : Hid (OwnK wr w1.heap.size wr.heap.size ⟨no,setL ns M,ck⟩ (some ⟨q,0,none⟩,i,x2) (y0,y1,y2)):=hidIt ⟨⟨D,OZ.out⟩,OKZ.out,fun g hg=>(World.ownsRow.lt OKZ.out g hg).2⟩
   clear z
   have e0:=BX.out.c 0 (v:=.int .i64 no) rfl
   have e1:=BX.out.c 1 (v:=.slice (some ⟨q,0,none⟩) i x2) rfl
   have e2:=BX.out.c 2 (v:=.slice y0 y1 y2) rfl
   have c0z:=BQ6.out.c 0 (v:=.int .i64 0) rfl
   have c1z:=BQ6.out.c 1 (v:=.slice none 0 0) rfl
   have c2z:=BQ6.out.c 2 (v:=.slice none 0 0) rfl
   have z0z:=BQ6.out.fr 0
   have z1z:=BQ6.out.fr 1
   have z2z:=BQ6.out.fr 2
   have RZ:=hidIt ((((BQ6.out).put (c':=#[.int .i64 no,.slice none 0 0,.slice none 0 0]) 0 (.int .i64 no) (by simp) rfl).put (c':=#[.int .i64 no,.slice (some ⟨q,0,none⟩) i x2,.slice none 0 0]) 1 (.slice (some ⟨q,0,none⟩) i x2) (by simp) rfl).put (c':=#[.int .i64 no,.slice (some ⟨q,0,none⟩) i x2,.slice y0 y1 y2]) 2 (.slice y0 y1 y2) (by simp) rfl)
   have HZ:=hidIt ((((HB6.out).setCell (p:=⟨w.heap.size + 1,0,none⟩) (by show w.heap.size ≤ w.heap.size + 1; omega) (.int .i64 no)).setCell (p:=⟨w.heap.size + 1,1,none⟩) (by show w.heap.size ≤ w.heap.size + 1; omega) (.slice (some ⟨q,0,none⟩) i x2)).setCell (p:=⟨w.heap.size + 1,2,none⟩) (by show w.heap.size ≤ w.heap.size + 1; omega) (.slice y0 y1 y2))
   have YZ:=hidIt ((((Only.refl (w.heap.size + 1) (wr)).setCell 0 (.int .i64 no)).setCell 1 (.slice (some ⟨q,0,none⟩) i x2)).setCell 2 (.slice y0 y1 y2))
   go_wp2_with (fail)
   generalize (((wr).setCell ⟨w.heap.size + 1,0,none⟩ (.int .i64 no)).setCell ⟨w.heap.size + 1,1,none⟩ (.slice (some ⟨q,0,none⟩) i x2)).setCell ⟨w.heap.size + 1,2,none⟩ (.slice y0 y1 y2) = wz at RZ HZ YZ ⊢
   clear c0z z0z c1z z1z c2z z2z e0 e1 e2
   have q0c:=RZ.out.c 0 (v:=.int .i64 no) rfl
   have q1c:=RZ.out.c 1 (v:=.slice (some ⟨q,0,none⟩) i x2) rfl
   have q2c:=RZ.out.c 2 (v:=.slice y0 y1 y2) rfl
   refine bodyPost_ret (v:=.agg #[.int .i64 no,.slice (some ⟨q,0,none⟩) i x2,.slice y0 y1 y2]) (by simp [results,Tryz.results11,go_sem,q0c,q1c,q2c]) rfl ?_
   exact HZ1.out (by first | rfl | trivial) M HAr.out _ _ (some ⟨q,0,none⟩,i,x2) (y0,y1,y2) rfl (OwnK.fresh OKz.out YZ.out (by omega) (by omega)) HZ.out
end Go.Proofs.YtgbnkkjjgodilaaGreatDoor.Kc
