/- Told and Around of the specification. -/
import Derived.Test.YtpkkmhpobfjclaaGreatBun22
import Derived.Test.YtpkkmhpobfjclaaGreatBun3
import Derived.Laws.StructEq
import Derived.WideLaws
import Derived.Test.YtpkkmhpobfjclaaGreatBun2
import Derived.Test.YtpkkmhpobfjclaaGreatBun5
set_option maxRecDepth 100000
set_option maxHeartbeats 32000000
set_option linter.unusedVariables false
namespace Go.Proofs.YtpkkmhpobfjclaaGreat.Bk
structure Gok (G : List (List En)) : Prop where
 ok : ∀ b ∈ G,okBk b = true
 len : (whole G).length ≤ 80
theorem Gok.ris {G : List (List En)} (h : Gok G) : AllRis G:=fun b hb=>ok_ris (h.ok b hb)
end Go.Proofs.YtpkkmhpobfjclaaGreat.Bk
namespace Go.Proofs.YtpkkmhpobfjclaaGreat.Mk
structure Gok (G : List (List En)) : Prop where
 ok : ∀ b ∈ G,okBk b = true
theorem Gok.ris {G : List (List En)} (h : Gok G) : AllRis G:=fun b hb=>ok_ris (h.ok b hb)
end Go.Proofs.YtpkkmhpobfjclaaGreat.Mk
namespace Go.Proofs.YtpkkmhpobfjclaaGreat.Rp
open Go.ChangeShapes Go.WideShapes Go.ChangeAt Go.RowKit
open Vv (Sl sv hidIt)
theorem okG_iff (L : List Rep) : okG L = true ↔ 1 ≤ L.length ∧ L.length ≤ 6 ∧ Bk.Gok (bks L) ∧ Mk.Gok (mbs L):=by
 constructor
 ·
  intro h
  obtain ⟨h1,h2,h3,h4⟩:=okG_all h
  refine ⟨h1,h2,⟨fun b hb=>?_,h4⟩,⟨fun b hb=>?_⟩⟩
  ·
   obtain ⟨r,hr,rfl⟩:=List.mem_map.1 hb
   obtain ⟨i,hi,rfl⟩:=List.mem_iff_getElem.1 hr
   have:=h3 i hi
   rw [rat_at hi] at this
   unfold okR at this
   rw [Bool.and_eq_true] at this
   exact this.1
  ·
   obtain ⟨r,hr,rfl⟩:=List.mem_map.1 hb
   obtain ⟨i,hi,rfl⟩:=List.mem_iff_getElem.1 hr
   have:=h3 i hi
   rw [rat_at hi] at this
   unfold okR at this
   rw [Bool.and_eq_true] at this
   exact this.2
 ·
  rintro ⟨h1,h2,h3,h4⟩
  refine okG_mk h1 h2 (fun i hi=>?_) h3.len
  unfold okR
  rw [Bool.and_eq_true]
  exact ⟨h3.ok _ (List.mem_map.2 ⟨_,rat_mem hi,rfl⟩),h4.ok _ (List.mem_map.2 ⟨_,rat_mem hi,rfl⟩)⟩
end Go.Proofs.YtpkkmhpobfjclaaGreat.Rp
namespace Go.Proofs.YtpkkmhpobfjclaaGreat.Rp
open Go.ChangeShapes Go.WideShapes Go.ChangeAt Go.RowKit
open Vv (Sl sv hidIt)
structure WhlR (L : List Rep) (J : Rep) : Prop where
 no : okG L = false → J = ([],[])
 bk : okG L = true → En.toB J.1 = Bk.whole (bks L)
 mb : okG L = true → Mm.toB J.2 = Mk.whole (mbs L)
theorem WhlR.unique {L : List Rep} {J J' : Rep} (h : WhlR L J) (h' : WhlR L J') : J = J':=by
 cases ok : okG L with
 | false=>rw [h.no ok,h'.no ok]
 | true=>exact Prod.ext (En.toB_inj ((h.bk ok).trans (h'.bk ok).symm)) (Mm.toB_inj ((h.mb ok).trans (h'.mb ok).symm))
end Go.Proofs.YtpkkmhpobfjclaaGreat.Rp
namespace Go.Proofs.YtpkkmhpobfjclaaGreat.Rp
open Go.ChangeShapes Go.WideShapes Go.ChangeAt Go.RowKit
open Vv (Sl sv hidIt)
open Rc (BelowBy BelowBy.one wp_region_below calls_below calls_same)
end Go.Proofs.YtpkkmhpobfjclaaGreat.Rp
namespace Go.Proofs.YtpkkmhpobfjclaaGreat.Rp
open Go.ChangeShapes Go.WideShapes Go.ChangeAt Go.RowKit
open Vv (Sl sv hidIt)
open Rc (BelowBy BelowBy.one wp_region_below calls_below calls_same)
end Go.Proofs.YtpkkmhpobfjclaaGreat.Rp
namespace Go.Proofs.YtpkkmhpobfjclaaGreat.Rp
open Go.ChangeShapes Go.WideShapes Go.ChangeAt Go.RowKit
open Vv (Sl sv hidIt)
open Rg (upd waits wp_region_inv op_at)
def BotP (r r' : Rep) (w : World) (e : Ending) (w' : World) : Prop:=∃ (x y : Sl) (J : Rep),e = .returned (.agg #[sv x,sv y]) ∧ En.Own w' w.heap.size (sv x) J.1 ∧ Mm.Own w' w.heap.size (sv y) J.2 ∧ En.toB J.1 = Bk.mergeE (En.toB r.1) (En.toB r'.1) ∧ Mm.toB J.2 = Mk.mergeE (Mm.toB r.2) (Mm.toB r'.2) ∧ Below w.heap.size w w'
theorem BotP.of {r r' : Rep} {w w' : World} {e : Ending} (x y : Sl) (J : Rep) (h : e = .returned (.agg #[sv x,sv y])) (h1 : En.Own w' w.heap.size (sv x) J.1) (h2 : Mm.Own w' w.heap.size (sv y) J.2) (h3 : En.toB J.1 = Bk.mergeE (En.toB r.1) (En.toB r'.1)) (h4 : Mm.toB J.2 = Mk.mergeE (Mm.toB r.2) (Mm.toB r'.2)) (h5 : Below w.heap.size w w') : BotP r r' w e w':=⟨x,y,J,h,h1,h2,h3,h4,h5⟩
theorem BotP.out {r r' : Rep} {w w' : World} {e : Ending} (h : BotP r r' w e w') : ∃ (x y : Sl) (J : Rep),e = .returned (.agg #[sv x,sv y]) ∧ En.Own w' w.heap.size (sv x) J.1 ∧ Mm.Own w' w.heap.size (sv y) J.2 ∧ En.toB J.1 = Bk.mergeE (En.toB r.1) (En.toB r'.1) ∧ Mm.toB J.2 = Mk.mergeE (Mm.toB r.2) (Mm.toB r'.2) ∧ Below w.heap.size w w':=h
theorem impl_bothOf (s t p q : Sl) (r r' : Rep) (w : World) (hE : RdE w s r.1) (hM : RdM w t r.2) (hE' : RdE w p r'.1) (hM' : RdM w q r'.2) (hs : En.shortR r.1) (hs' : En.shortR r'.1) (ok : okR r = true) (ok' : okR r' = true) (hl : (Bk.mergeE (En.toB r.1) (En.toB r'.1)).length ≤ 80) :
  Calls Tryz.prog 19 #[.agg #[sv s,sv t],.agg #[sv p,sv q]] w fun e w'=>BotP r r' w e w':=by
 unfold okR at ok ok'
 rw [Bool.and_eq_true] at ok ok'
 have ej : Bk.joinB (En.toB r.1) (En.toB r'.1) = (Bk.mergeE (En.toB r.1) (En.toB r'.1),true):=by unfold Bk.joinB; rw [if_pos ⟨ok.1,ok'.1,hl⟩]
 have em : Mk.mergeB (Mm.toB r.2) (Mm.toB r'.2) = Mk.mergeE (Mm.toB r.2) (Mm.toB r'.2):=by unfold Mk.mergeB; rw [if_pos ⟨ok.2,ok'.2⟩]
 obtain ⟨s0,s1,s2⟩:=s
 obtain ⟨t0,t1,t2⟩:=t
 obtain ⟨p0,p1,p2⟩:=p
 obtain ⟨q0,q1,q2⟩:=q
 obtain ⟨e1,rE,nE,lE,cE⟩:=hE
 obtain ⟨e2,rM,nM,lM,cM⟩:=hM
 obtain ⟨e3,rE',nE',lE',cE'⟩:=hE'
 obtain ⟨e4,rM',nM',lM',cM'⟩:=hM'
 simp only at e1 rE nE lE cE e2 rM nM lM cM e3 rE' nE' lE' cE' e4 rM' nM' lM' cM'
 have C1:=hidIt (fun W (h : En.Rd W s0 r.1) (h' : En.Rd W p0 r'.1)=>En.impl_Joined s0 p0 s2 p2 r.1 r'.1 W h h' lE lE' (by omega) (by omega) hs hs')
 have C2:=hidIt (fun W (h : Mm.Rd W t0 r.2) (h' : Mm.Rd W q0 r'.2)=>Mm.impl_Merged t0 q0 t2 q2 r.2 r'.2 W h h' nM (by omega) (by omega))
 rw [ej,← e1,← e3] at C1
 rw [em,← e2,← e4] at C2
 simp only at C1
 have HF : Hid (∀ (x y : Sl) (J : Rep) (w' : World),En.Own w' w.heap.size (sv x) J.1 → Mm.Own w' w.heap.size (sv y) J.2 → En.toB J.1 = Bk.mergeE (En.toB r.1) (En.toB r'.1) → Mm.toB J.2 = Mk.mergeE (Mm.toB r.2) (Mm.toB r'.2) → Below w.heap.size w w' → BotP r r' w (.returned (.agg #[sv x,sv y])) w'):=hidIt (fun x y J w' h1 h2 h3 h4 h5=>BotP.of x y J rfl h1 h2 h3 h4 h5)
 generalize Bk.mergeE (En.toB r.1) (En.toB r'.1) = gE at C1 HF
 generalize Mk.mergeE (Mm.toB r.2) (Mm.toB r'.2) = gM at C2 HF
 have ka:=(((Below.refl w.heap.size w).alloc (Nat.le_refl _) (.cells #[.slice s0 s1 s2,.slice t0 t1 t2] 27)).alloc (by simp) (.cells #[.slice p0 p1 p2,.slice q0 q1 q2] 27)).alloc (by simp; omega) (.cells #[.slice none 0 0,.slice none 0 0] 27)
 have HB:=hidIt ka
 have B1:=Bo.Box.new w #[.slice s0 s1 s2,.slice t0 t1 t2] 27
 have B2:=Bo.Box.new (w.alloc (.cells #[.slice s0 s1 s2,.slice t0 t1 t2] 27)) #[.slice p0 p1 p2,.slice q0 q1 q2] 27
 have B3:=Bo.Box.new ((w.alloc (.cells #[.slice s0 s1 s2,.slice t0 t1 t2] 27)).alloc (.cells #[.slice p0 p1 p2,.slice q0 q1 q2] 27)) #[.slice none 0 0,.slice none 0 0] 27
 have k2:=(Below.refl (w.alloc (.cells #[.slice s0 s1 s2,.slice t0 t1 t2] 27)).heap.size (w.alloc (.cells #[.slice s0 s1 s2,.slice t0 t1 t2] 27))).alloc (Nat.le_refl _) (.cells #[.slice p0 p1 p2,.slice q0 q1 q2] 27)
 have k3:=(Below.refl ((w.alloc (.cells #[.slice s0 s1 s2,.slice t0 t1 t2] 27)).alloc (.cells #[.slice p0 p1 p2,.slice q0 q1 q2] 27)).heap.size ((w.alloc (.cells #[.slice s0 s1 s2,.slice t0 t1 t2] 27)).alloc (.cells #[.slice p0 p1 p2,.slice q0 q1 q2] 27))).alloc (Nat.le_refl _) (.cells #[.slice none 0 0,.slice none 0 0] 27)
 have BX:=hidIt ((B1.kept k2).kept k3)
 have BY:=hidIt (B2.kept k3)
 have BZ:=hidIt B3
 have H1:=hidIt (rE.kept ka)
 have H2:=hidIt (rM.kept ka)
 have H3:=hidIt (rE'.kept ka)
 have H4:=hidIt (rM'.kept ka)
 clear ka B1 B2 B3 k2 k3 rE rM rE' rM' e1 e2 e3 e4 ej em hs hs'
 simp only [sv]
 go_enter Tryz.func19,Tryz.ntmps19
 go_wp2_with (fail)
 have HSZ : Hid ((((w.alloc (.cells #[.slice s0 s1 s2,.slice t0 t1 t2] 27)).alloc (.cells #[.slice p0 p1 p2,.slice q0 q1 q2] 27)).alloc (.cells #[.slice none 0 0,.slice none 0 0] 27)).heap.size = w.heap.size + 3):=hidIt (by simp)
 have hb2 : (w.alloc (.cells #[.slice s0 s1 s2,.slice t0 t1 t2] 27)).heap.size = w.heap.size + 1:=by simp
 have hb3 : ((w.alloc (.cells #[.slice s0 s1 s2,.slice t0 t1 t2] 27)).alloc (.cells #[.slice p0 p1 p2,.slice q0 q1 q2] 27)).heap.size = w.heap.size + 2:=by simp
 rw [hb2] at BY
 rw [hb3] at BZ
 clear hb2 hb3
 generalize ((w.alloc (.cells #[.slice s0 s1 s2,.slice t0 t1 t2] 27)).alloc (.cells #[.slice p0 p1 p2,.slice q0 q1 q2] 27)).alloc (.cells #[.slice none 0 0,.slice none 0 0] 27) = wz at HB BX BY BZ H1 H2 H3 H4 HSZ ⊢
 refine (C1.out _ H1.out H3.out).mono ?_
 rintro e w1 ⟨v,J1,rfl,j1,o1,k1⟩
 obtain ⟨za,zc,ez,_⟩:=o1.form
 subst ez
 have HB1:=hidIt (on HB.out k1)
 have BZ1:=hidIt (BZ.out.kept k1)
 have c1:=(BX.out.kept k1).c 1 rfl
 have c2:=(BY.out.kept k1).c 1 rfl
 have H5:=hidIt (H2.out.kept k1)
 have H6:=hidIt (H4.out.kept k1)
 have HO1:=hidIt o1
 have HJ1:=hidIt j1
 have HK1:=hidIt k1
 clear k1 o1 j1
 generalize hj1 : J1.length = l1 at *
 have HL1:=hidIt hj1
 clear hj1
 go_wp2_with (fail)
 refine (C2.out _ H5.out H6.out).mono ?_
 rintro e w2 ⟨v,J2,rfl,j2,o2,k2⟩
 obtain ⟨ya,yc,ey,_⟩:=o2.form
 subst ey
 have HB2:=hidIt (on HB1.out k2)
 have BZ2:=hidIt (BZ1.out.kept k2)
 have d0:=BZ2.out.c 0 rfl
 have d1:=BZ2.out.c 1 rfl
 have fz:=BZ2.out.fr
 have HO2:=hidIt o2
 have HO3:=hidIt (HO1.out.kept k2)
 have HJ2:=hidIt j2
 have HSz1:=HK1.out.size
 clear k2 o2 j2 c1 c2
 generalize hj2 : J2.length = l2 at *
 have HL2:=hidIt hj2
 clear hj2
 go_wp2_with (fail)
 have BX9:=hidIt ((BZ2.out.put 0 (.slice za l1 zc) (by decide) rfl).put 1 (.slice ya l2 yc) (by simp) rfl)
 have HB9:=hidIt ((HB2.out.setCell (p:=⟨w.heap.size + 2,0,none⟩) (by simp) (.slice za l1 zc)).setCell (p:=⟨w.heap.size + 2,1,none⟩) (by simp) (.slice ya l2 yc))
 have OE9 : En.Own ((w2.setCell ⟨w.heap.size + 2,0,none⟩ (.slice za l1 zc)).setCell ⟨w.heap.size + 2,1,none⟩ (.slice ya l2 yc)) w.heap.size (sv (za,l1,zc)) J1:=En.Own.mono (ownsRow_setCell_below (ownsRow_setCell_below HO3.out (a:=⟨w.heap.size + 2,0,none⟩) (by have:=HSZ.out; show w.heap.size + 2 < _; omega) _) (a:=⟨w.heap.size + 2,1,none⟩) (by have:=HSZ.out; show w.heap.size + 2 < _; omega) _) (by have:=HSZ.out; omega)
 have OM9 : Mm.Own ((w2.setCell ⟨w.heap.size + 2,0,none⟩ (.slice za l1 zc)).setCell ⟨w.heap.size + 2,1,none⟩ (.slice ya l2 yc)) w.heap.size (sv (ya,l2,yc)) J2:=Mm.Own.mono (ownsRow_setCell_below (ownsRow_setCell_below HO2.out (a:=⟨w.heap.size + 2,0,none⟩) (by have:=HSZ.out; show w.heap.size + 2 < _; omega) _) (a:=⟨w.heap.size + 2,1,none⟩) (by have:=HSZ.out; show w.heap.size + 2 < _; omega) _) (by have:=HSZ.out; omega)
 have HFin:=hidIt (HF.out (za,l1,zc) (ya,l2,yc) (J1,J2) _ OE9 OM9 HJ1.out HJ2.out HB9.out)
 clear OE9 OM9 HB9
 generalize (w2.setCell ⟨w.heap.size + 2,0,none⟩ (.slice za l1 zc)).setCell ⟨w.heap.size + 2,1,none⟩ (.slice ya l2 yc) = w9 at BX9 HFin ⊢
 have t0':=BX9.out.c 0 (v:=.slice za l1 zc) rfl
 have t1':=BX9.out.c 1 (v:=.slice ya l2 yc) rfl
 exact bodyPost_ret (v:=.agg #[.slice za l1 zc,.slice ya l2 yc]) (by simp [results,Tryz.results19,go_sem,t0',t1']) rfl HFin.out
end Go.Proofs.YtpkkmhpobfjclaaGreat.Rp
