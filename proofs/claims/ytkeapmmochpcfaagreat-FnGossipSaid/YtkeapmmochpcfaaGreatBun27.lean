/- One Replica of the call's own: marked, looked at again; Whole of the specification. -/
import Derived.Test.YtkeapmmochpcfaaGreatBun23
import Derived.Test.YtkeapmmochpcfaaGreatBun26
import Derived.Test.YtkeapmmochpcfaaGreatBokD
import Derived.Test.YtkeapmmochpcfaaGreatBun17
import Derived.Test.YtkeapmmochpcfaaGreatBun4
set_option maxRecDepth 100000
set_option maxHeartbeats 32000000
set_option linter.unusedVariables false
namespace Go.Proofs.YtkeapmmochpcfaaGreat.Rp
open Go.ChangeShapes Go.WideShapes Go.ChangeAt Go.RowKit
open Vv (Sl sv hidIt)
def WhlP (L:List Rep) (w:World) (e:Ending) (w':World):Prop:=∃ J:Rep,TwoP w J e w'∧WhlR L J
theorem WhlP.out {L:List Rep} {w w':World} {e:Ending} (h:WhlP L w e w'):∃ J:Rep,TwoP w J e w'∧WhlR L J:=h
theorem spec_Whole (a:Option Addr) (cap:Nat) (L:List Rep) (w:World) (h:Rd w a L) (hs:Short L) (hl:L.length<=9223372036854775807) (hlb:∀ i,i<L.length->(rat L i).1.length<=9223372036854775807∧(rat L i).2.length<=9223372036854775807) :
  Calls Tryz.prog 14 #[.slice a L.length cap] w fun e w'=>WhlP L w e w':=by
 have ka:Below w.heap.size w (w.alloc (.cells #[.slice none 0 0,.slice none 0 0] 32)):=(Below.refl w.heap.size w).alloc (Nat.le_refl _) _
 have BX:=hidIt (Bo.Box.new w #[.slice none 0 0,.slice none 0 0] 32)
 have CG:=hidIt (spec_GroupOk a cap L (w.alloc (.cells #[.slice none 0 0,.slice none 0 0] 32)) (h.kept ka) hs hl hlb)
 have HB:=hidIt ka
 have HR:=hidIt h
 clear ka h
 cases ok:okG L with
 | false =>
  rw[ok] at CG
  have HE:Hid (WhlR L ([],[])):=hidIt ⟨fun _=>rfl,(fun q=>by rw[ok] at q;cases q),(fun q=>by rw[ok] at q;cases q)⟩
  go_enter Tryz.func14,Tryz.ntmps14
  go_wp2_with (fail)
  refine CG.out.mono ?_
  rintro e w1 ⟨rfl,k1⟩
  have HB1:=hidIt (on HB.out k1)
  have b1:=BX.out.kept k1
  have c0:=b1.c 0 rfl
  have f0:=b1.fr 0
  have b2:=b1.put 0 (.slice none 0 0) (by simp) rfl
  have c1:=b2.c 1 rfl
  have f1:=b2.fr 1
  have b3:=b2.put 1 (.slice none 0 0) (by simp) rfl
  have r0:=b3.c 0 rfl
  have r1:=b3.c 1 rfl
  clear k1 b1 b2 b3
  go_wp2_with (fail)
  refine bodyPost_ret (v:=.agg #[.slice none 0 0,.slice none 0 0]) (by simp[results,Tryz.results14,go_sem,r0,r1]) rfl ?_
  exact⟨([],[]),⟨(none,0,0),(none,0,0),rfl,⟨rfl,.inl ⟨rfl,rfl⟩⟩,⟨rfl,.inl ⟨rfl,rfl⟩⟩,(HB1.out.setCell (p:=⟨w.heap.size,0,none⟩) (Nat.le_refl _) _).setCell (p:=⟨w.heap.size,1,none⟩) (Nat.le_refl _) _⟩,HE.out⟩
 | true =>
  rw[ok] at CG
  have CW:=hidIt (fun W (h:Rd W a L)=>spec_l13Whole a cap L W h (okG_tame ok))
  have HE:Hid (∀ J:Rep,En.toB J.1=Bk.whole (bks L)->Mm.toB J.2=Mk.whole (mbs L)->WhlR L J):=hidIt (fun J h1 h2=>⟨(fun q=>by rw[ok] at q;cases q),fun _=>h1,fun _=>h2⟩)
  go_enter Tryz.func14,Tryz.ntmps14
  go_wp2_with (fail)
  refine CG.out.mono ?_
  rintro e w1 ⟨rfl,k1⟩
  have HB1:=hidIt (on HB.out k1)
  have BX1:=hidIt (BX.out.kept k1)
  clear k1
  go_wp2_with (fail)
  refine (CW.out _ (HR.out.kept HB1.out)).mono ?_
  intro e w2 hz
  obtain⟨J,ht,h1,h2⟩:=hz.out
  obtain⟨⟨x0,x1,x2⟩,⟨y0,y1,y2⟩,rfl,oE,oM,k2⟩:=ht.out
  clear hz ht
  have HB2:=hidIt (on HB1.out k2)
  have b1:=BX1.out.kept k2
  have c0:=b1.c 0 rfl
  have f0:=b1.fr 0
  have b2:=b1.put 0 (.slice x0 x1 x2) (by simp) rfl
  have c1:=b2.c 1 rfl
  have f1:=b2.fr 1
  have b3:=b2.put 1 (.slice y0 y1 y2) (by simp) rfl
  have r0:=b3.c 0 rfl
  have r1:=b3.c 1 rfl
  have HO1:=hidIt oE
  have HO2:=hidIt oM
  have HJ:=hidIt (HE.out J h1 h2)
  have hsz:=HB1.out.size
  have hsz0:w.heap.size+1<=w1.heap.size:=by have:=BX1.out.lt;omega
  clear k2 b1 b2 b3 oE oM h1 h2 HE
  simp only[sv]
  go_wp2_with (fail)
  refine bodyPost_ret (v:=.agg #[.slice x0 x1 x2,.slice y0 y1 y2]) (by simp[results,Tryz.results14,go_sem,r0,r1]) rfl ?_
  have k:Only w.heap.size w2 ((w2.setCell ⟨w.heap.size,0,none⟩ (.slice x0 x1 x2)).setCell ⟨w.heap.size,1,none⟩ (.slice y0 y1 y2)):=((Only.refl w.heap.size w2).setCell 0 _).setCell 1 _
  exact⟨J,⟨(x0,x1,x2),(y0,y1,y2),rfl,(HO1.out.only k (.inl (by omega))).mono (by omega),(HO2.out.only k (.inl (by omega))).mono (by omega),(HB2.out.setCell (p:=⟨w.heap.size,0,none⟩) (Nat.le_refl _) _).setCell (p:=⟨w.heap.size,1,none⟩) (Nat.le_refl _) _⟩,HJ.out⟩
end Go.Proofs.YtkeapmmochpcfaaGreat.Rp
namespace Go.Proofs.YtkeapmmochpcfaaGreat.Bk
end Go.Proofs.YtkeapmmochpcfaaGreat.Bk
namespace Go.Proofs.YtkeapmmochpcfaaGreat.Mk
end Go.Proofs.YtkeapmmochpcfaaGreat.Mk
namespace Go.Proofs.YtkeapmmochpcfaaGreat.Rp
open Go.ChangeShapes Go.WideShapes Go.ChangeAt Go.RowKit
open Vv (Sl sv hidIt)
theorem okR_short {r:Rep} (h:okR r=true):∀ j,j<r.1.length->(En.rat r.1 j).1.size<=9223372036854775807∧(En.rat r.1 j).2.1.size<=9223372036854775807:=by
 intro j hj
 unfold okR at h
 rw[Bool.and_eq_true] at h
 have hm:En.toE (En.rat r.1 j)∈En.toB r.1:=List.mem_map.2 ⟨_,En.rat_mem hj,rfl⟩
 have ho:=Bk.ok_all h.1 hm
 unfold Bk.okE at ho
 simp only[Bool.and_eq_true,decide_eq_true_eq] at ho
 have e1:(En.toE (En.rat r.1 j)).key.length=(En.rat r.1 j).1.size:=En.bs_length _
 have e2:(En.toE (En.rat r.1 j)).value.length=(En.rat r.1 j).2.1.size:=En.bs_length _
 omega
theorem okG_short {L:List Rep} (h:okG L=true):Short L:=fun i hi j hj=>okR_short ((okG_all h).2.2.1 i hi) j hj
end Go.Proofs.YtkeapmmochpcfaaGreat.Rp
namespace Go.Proofs.YtkeapmmochpcfaaGreat.Rp
open Go.ChangeShapes Go.WideShapes Go.ChangeAt Go.RowKit
open Vv (Sl sv hidIt)
open Rc (BelowBy BelowBy.one wp_region_below calls_below calls_same)
open Dr (Cur Code l1Below_any l1Once_any l1New_any)
structure Sm (L:List Rep):Prop where
 n:L.length<=6
 one:∀ i,i<L.length->bulk1 (rat L i)<=100
 s:Short L
theorem Sm.l {L:List Rep} (h:Sm L):L.length<=9223372036854775807:=Nat.le_trans h.n (by decide)
theorem Sm.lb {L:List Rep} (h:Sm L):∀ i,i<L.length->(rat L i).1.length<=9223372036854775807∧(rat L i).2.length<=9223372036854775807:=fun i hi=>by
 have:=h.one i hi
 unfold bulk1 at this
 omega
theorem Sm.ok {L:List Rep} (h:okG L=true):Sm L:=by
 have t:=okG_tame h
 exact⟨t.n,fun i hi=>by have:=t.bl i hi;have:=t.ml i hi;unfold bulk1;omega,okG_short h⟩
theorem likeReplica_same (s t s' t':Sl) (r:Rep) (w:World) (hE:RdE w s r.1) (hM:RdM w t r.2) (hE':RdE w s' r.1) (hM':RdM w t' r.2) (hl:bulk1 r<=1048576) :
  Calls Tryz.prog 13 #[.agg #[sv s,sv t],.agg #[sv s',sv t']] w fun e w'=>e=.returned (.bool true)∧Below w.heap.size w w':=by
 obtain⟨s0,s1,s2⟩:=s
 obtain⟨t0,t1,t2⟩:=t
 obtain⟨p0,p1,p2⟩:=s'
 obtain⟨q0,q1,q2⟩:=t'
 obtain⟨e1,rE,_,_,cE⟩:=hE
 obtain⟨e2,rM,_,_,cM⟩:=hM
 obtain⟨e3,rE',_,_,_⟩:=hE'
 obtain⟨e4,rM',_,_,_⟩:=hM'
 simp only at e1 rE cE e2 rM cM e3 rE' e4 rM'
 unfold bulk1 at hl
 have C1:=hidIt (fun W (k:En.Rd W s0 r.1) (k':En.Rd W p0 r.1)=>En.likeBook_same s0 p0 s2 p2 r.1 W k k' (by omega))
 have C2:=hidIt (fun W (k:Mm.Rd W t0 r.2) (k':Mm.Rd W q0 r.2)=>Mm.likeMembers_same t0 q0 t2 q2 r.2 W k k' (by omega))
 rw[<- e3] at e1
 rw[<- e4] at e2
 subst e1 e2
 rw[<- e3] at C1
 rw[<- e4] at C2
 have H1:=hidIt rE
 have H2:=hidIt rM
 have H3:=hidIt rE'
 have H4:=hidIt rM'
 clear rE rM rE' rM' e3 e4 cE cM hl
 have BA:=hidIt ((Bo.Box.new w #[.slice s0 s1 s2,.slice t0 t1 t2] 32).alloc (.cells #[.slice p0 s1 p2,.slice q0 t1 q2] 32))
 have BB:Hid (Bo.Box ((w.alloc (.cells #[.slice s0 s1 s2,.slice t0 t1 t2] 32)).alloc (.cells #[.slice p0 s1 p2,.slice q0 t1 q2] 32)) (w.heap.size+1) #[.slice p0 s1 p2,.slice q0 t1 q2]):=hidIt (Bo.Box.newAt (by simp))
 have HB:=hidIt (((Below.refl w.heap.size w).alloc (Nat.le_refl _) (.cells #[.slice s0 s1 s2,.slice t0 t1 t2] 32)).alloc (by simp) (.cells #[.slice p0 s1 p2,.slice q0 t1 q2] 32))
 go_enter Tryz.func13,Tryz.ntmps13
 go_wp2_with (fail)
 refine (C1.out _ (H1.out.kept HB.out) (H3.out.kept HB.out)).mono ?_
 rintro e w1 ⟨rfl,k1⟩
 have a1:=(BA.out.kept k1).c 1 (v:=.slice t0 t1 t2) rfl
 have b1:=(BB.out.kept k1).c 1 (v:=.slice q0 t1 q2) rfl
 have HB1:=hidIt (on HB.out k1)
 clear k1 BA BB HB
 go_wp2_with (fail)
 refine (C2.out _ (H2.out.kept HB1.out) (H4.out.kept HB1.out)).mono ?_
 rintro e w2 ⟨rfl,k2⟩
 have HB2:=hidIt (on HB1.out k2)
 clear k2
 go_wp2_with (fail)
 go_ret
 exact⟨rfl,HB2.out⟩
theorem likeGroup_same (a a':Option Addr) (cap cap':Nat) (L:List Rep) (w:World) (h:Rd w a L) (h':Rd w a' L) (hl:Sm L) :
  Calls Tryz.prog 10 #[.slice a L.length cap,.slice a' L.length cap'] w fun e w'=>e=.returned (.bool true)∧Below w.heap.size w w':=by
 have hm6:=hl.n
 have HS:=hidIt hl.one
 generalize hn:L.length=m at *
 have HR:=hidIt h
 have HR':=hidIt h'
 have HN:=hidIt hn
 clear h h' hn hl
 have hq:((m:Int) != (m:Int))=false:=by simp
 go_enter Tryz.func10,Tryz.ntmps10
 go_wp2_with (fail)
 go_loopw [5] (fun y wx=>∃ (i:Nat),y=.int .i64 i∧i<=m∧Hid (Below w.heap.size w wx)) (fun y _=>(m - intOf y).toNat)
 case atStart=>exact⟨0,rfl,by omega,hidIt (Below.refl _ _)⟩
 case round =>
  obtain⟨i,rfl,hi,HB⟩:=hrel
  by_cases hin:i<m
  ·
   have hin':(i:Int)<(m:Int):=by omega
   have hi0:(0:Int)<=(i:Int):=by omega
   have hb1:=HS.out i hin
   obtain⟨b,off,s,t,rfl,c0,c1,rE,rM⟩:=(HR.out.kept HB.out).one (i:=i) (by rw[HN.out];exact hin)
   obtain⟨b',off',s',t',rfl,d0,d1,rE',rM'⟩:=(HR'.out.kept HB.out).one (i:=i) (by rw[HN.out];exact hin)
   have CE:=hidIt (fun W (k:Below wr.heap.size wr W)=>likeReplica_same s t s' t' (rat L i) W (rE.kept k) (rM.kept k) (rE'.kept k) (rM'.kept k) (by omega))
   clear rE rM rE' rM' hb1
   obtain⟨s0,s1,s2⟩:=s
   obtain⟨t0,t1,t2⟩:=t
   obtain⟨p0,p1,p2⟩:=s'
   obtain⟨q0,q1,q2⟩:=t'
   simp only[sv] at c0 c1 d0 d1 CE
   haveI:=BelowBy.one wr
   have f0:=fun p:BelowBy wr=>p.cell c0
   have f1:=fun p:BelowBy wr=>p.cell c1
   have g0:=fun p:BelowBy wr=>p.cell d0
   have g1:=fun p:BelowBy wr=>p.cell d1
   clear c0 c1 d0 d1
   go_wp2_with (fail)
   refine wp_region_below (by kernel_rfl) (by kernel_rfl) ?_
   repeat (go_big_quiet_step (first | (go_at_call 13;refine calls_below (CE.out _ (BelowBy.h _)))))
   refine wpQuiet_nil ?_
   intro _ hw'
   obtain⟨pq,rfl⟩:=hw'
   have HB1:=hidIt (on HB.out pq.h)
   generalize pq.world=w2 at HB1 ⊢
   clear f0 f1 g0 g1
   go_wp2_with (fail)
   exact⟨⟨i+1,by simp,by omega,HB1⟩,by simp[intOf];omega⟩
  ·
   have hin':¬ (i:Int)<(m:Int):=by omega
   go_wp2_with (fail)
   go_ret
   exact⟨rfl,HB.out⟩
end Go.Proofs.YtkeapmmochpcfaaGreat.Rp
namespace Go.Proofs.YtkeapmmochpcfaaGreat.Rp
open Go.ChangeShapes Go.WideShapes Go.ChangeAt Go.RowKit
open Vv (Sl sv hidIt)
open Dr (Cur Code l1Below_any l1Once_any l1New_any)
theorem only_low {c:Nat} {w a b:World} (h:Only c w a) (k:Below w.heap.size a b):Only c w b:=⟨k.os.trans h.os,k.tape.trans h.tape,k.output.trans h.output,Nat.le_trans h.size k.size,fun i hi hne=>(k.block i (Nat.lt_of_lt_of_le hi (Nat.le_refl _))).trans (h.block i hi hne)⟩
theorem OwnC.putE {w:World} {lo hi g m cap i:Nat} {C:List Vv.Rw} {L:List Rep} (h:OwnC w lo hi (.slice (some ⟨g,0,none⟩) m cap) C L) (hi':i<L.length) {s:Sl} {M:List En.Rw} (hs:En.Own w hi (sv s) M) :
  OwnC (w.setCell ⟨g,i*2,none⟩ (sv s)) lo w.heap.size (.slice (some ⟨g,0,none⟩) m cap) (C.set i (s,(Vv.rat C i).2)) (L.set i (M,(rat L i).2)):=by
 have hC:i<C.length:=by rw[h.len];exact hi'
 have Y:Only g w (w.setCell ⟨g,i*2,none⟩ (sv s)):=(Only.refl g w).setCell _ _
 have sz:(w.setCell ⟨g,i*2,none⟩ (sv s)).heap.size=w.heap.size:=by simp[World.setCell]
 have hlo:=h.lo'
 have row:Vv.Own (w.setCell ⟨g,i*2,none⟩ (sv s)) lo (.slice (some ⟨g,0,none⟩) m cap) (C.set i (s,(Vv.rat C i).2)):=by
  have:=h.row.set hC (j:=0) (v:=sv s) (y:=(s,(Vv.rat C i).2)) (by omega) (fun k hk=>by
   match k,hk with
   | 0,_=>rfl
   | 1,_=>rfl)
  simpa using this
 have apE:∀ {b:Nat} {u:Value} {N:List En.Rw},En.Own w b u N->∀ x,u.ownBlock=some x->x≠g:=fun hu x hx e=>own_apart hu h.row (by decide) x hx (by rw[e];rfl)
 have apM:∀ {b:Nat} {u:Value} {N:List Mm.Rw},Mm.Own w b u N->∀ x,u.ownBlock=some x->x≠g:=fun hu x hx e=>own_apart hu h.row (by decide) x hx (by rw[e];rfl)
 refine⟨by rw[List.length_set,List.length_set];exact h.len,row,fun x hx=>Nat.lt_of_lt_of_le (h.blk x hx) h.hi',fun j hj=>?_,fun j hj x hx=>?_,fun j hj=>?_,fun j hj x hx=>?_,fun j k hj hk hne x hx hy=>?_,fun j k hj hk hne x hx hy=>?_,by rw[sz];exact Nat.le_refl _,Nat.le_trans hlo h.hi'⟩
 all_goals rw[List.length_set] at hj
 ·
  rw[Vv.rat_set hC,rat_set hi']
  by_cases e:i=j
  ·
   rw[if_pos e,if_pos e]
   exact (hs.mono hlo).only Y (.inr (apE hs))
  ·
   rw[if_neg e,if_neg e]
   exact (h.bk j hj).only Y (.inr (apE (h.bk j hj)))
 ·
  rw[Vv.rat_set hC] at hx
  by_cases e:i=j
  ·
   rw[if_pos e] at hx
   exact (World.ownsRow.lt hs x hx).2
  ·
   rw[if_neg e] at hx
   exact Nat.lt_of_lt_of_le (h.bb j hj x hx) h.hi'
 ·
  rw[Vv.rat_set hC,rat_set hi']
  by_cases e:i=j
  ·
   subst e
   rw[if_pos rfl,if_pos rfl]
   exact (h.mb i hj).only Y (.inr (apM (h.mb i hj)))
  ·
   rw[if_neg e,if_neg e]
   exact (h.mb j hj).only Y (.inr (apM (h.mb j hj)))
 ·
  rw[Vv.rat_set hC] at hx
  by_cases e:i=j
  ·
   subst e
   rw[if_pos rfl] at hx
   exact Nat.lt_of_lt_of_le (h.bm i hj x hx) h.hi'
  ·
   rw[if_neg e] at hx
   exact Nat.lt_of_lt_of_le (h.bm j hj x hx) h.hi'
 ·
  rw[List.length_set] at hk
  rw[Vv.rat_set hC] at hx hy
  by_cases e:i=j
  ·
   rw[if_pos e] at hx
   rw[if_neg (by omega)] at hy
   have h1:=(World.ownsRow.lt hs x hx).1
   have h2:=h.bb k hk x hy
   omega
  ·
   rw[if_neg e] at hx
   by_cases e2:i=k
   ·
    rw[if_pos e2] at hy
    have h1:=(World.ownsRow.lt hs x hy).1
    have h2:=h.bb j hj x hx
    omega
   ·
    rw[if_neg e2] at hy
    exact h.db j k hj hk hne x hx hy
 ·
  rw[List.length_set] at hk
  rw[Vv.rat_set hC] at hx hy
  by_cases e:i=j
  ·
   subst e
   rw[if_pos rfl] at hx
   rw[if_neg hne] at hy
   exact h.dm i k hj hk hne x hx hy
  ·
   rw[if_neg e] at hx
   by_cases e2:i=k
   ·
    subst e2
    rw[if_pos rfl] at hy
    exact h.dm j i hj hk hne x hx hy
   ·
    rw[if_neg e2] at hy
    exact h.dm j k hj hk hne x hx hy
structure Gda (B:Nat) (w wx:World) (c:Nat) (ad:Option Addr) (len cap:Nat) (v:Value) (L:List Rep):Prop where
 own:Own wx w.heap.size wx.heap.size v L
 cur:Cur B wx c ad len cap
 only:Only c w wx
 sm:∀ i,i<L.length->En.Tame (rat L i).1∧(rat L i).2.length<=4
theorem apart_c {w wx wy:World} {c hi:Nat} {v:Value} {L:List Rep} (h:Own wx w.heap.size hi v L) (k:Only c wx wy) (hc:c<w.heap.size):Own wy w.heap.size hi v L :=
 h.apart (OnlyIn.of_only (lo:=c) (hi:=c+1) k (.inr ⟨Nat.le_refl _,by omega⟩)) (.inr (by omega))
theorem Gda.call {B c len cap:Nat} {w wx wy:World} {ad:Option Addr} {v:Value} {L:List Rep} (h:Gda B w wx c ad len cap v L) (hC:Cur B wy c ad len cap) (k:Only c wx wy) (hc:c<w.heap.size):Gda B w wy c ad len cap v L :=
 ⟨(apart_c h.own k hc).grow,hC,h.only.trans k,h.sm⟩
theorem Gda.short {B c len cap:Nat} {w wx:World} {ad:Option Addr} {v:Value} {L:List Rep} (h:Gda B w wx c ad len cap v L) (hl:L.length<=4):Sm L :=
 ⟨by omega,fun i hi=>by have:=(h.sm i hi).1.1;have:=(h.sm i hi).2;unfold bulk1;omega,fun i hi j hj=>(h.sm i hi).1.at hj⟩
theorem sm_more {L:List Rep} {r:Rep} (h:∀ i,i<L.length->En.Tame (rat L i).1∧(rat L i).2.length<=4) (h1:En.Tame r.1) (h2:r.2.length<=4):∀ i,i<(L++[r]).length->En.Tame (rat (L++[r]) i).1∧(rat (L++[r]) i).2.length<=4:=fun i hi=>by
 by_cases q:i<L.length
 ·
  rw[rat_app q];exact h i q
 ·
  obtain rfl:i=L.length:=by rw[List.length_append,List.length_singleton] at hi;omega
  rw[rat_last];exact⟨h1,h2⟩
theorem Gda.more {B c len cap:Nat} {w wr w1 w2 w9:World} {ad:Option Addr} {v v':Value} {L:List Rep} {C:List Vv.Rw} (h:Gda B w wr c ad len cap v L) (hc:c<w.heap.size) {s t:Sl} {r:Rep} {T:TypeId}
  (hC:OwnC (w2.alloc (.cells (Vv.rc (s,t)) T)) w.heap.size wr.heap.size v C L) (h1:Only c wr w1) (h2:Only c w1 w2) (cu:Cur B w2 c ad len cap) (oE:En.Own w2 wr.heap.size (sv s) r.1) (oM:Mm.Own w2 w1.heap.size (sv t) r.2) (tE:En.Tame r.1) (tM:r.2.length<=4)
  (ho:Vv.Own w9 w.heap.size v' (C++[(s,t)])) (g:(w2.alloc (.cells (Vv.rc (s,t)) T)).grownBy w9 v.ownBlock):Gda B w w9 c ad len cap v' (L++[r]):=by
 have ka:Below w2.heap.size w2 (w2.alloc (.cells (Vv.rc (s,t)) T)):=(Below.refl _ _).alloc (Nat.le_refl _) _
 have hw:w.heap.size<=(w2.alloc (.cells (Vv.rc (s,t)) T)).heap.size:=Nat.le_trans h.only.size (Nat.le_trans h1.size (Nat.le_trans h2.size ka.size))
 have kk:=Vv.grown_below hC.row g (Nat.le_refl _) hw
 have hM:=hC.more ho g (N:=wr.heap.size) (oE.kept ka) ((oM.kept ka).mono h1.size) (Nat.le_refl _)
 exact⟨⟨_,hM⟩,(cu.kept (ka.mono (by have:=cu.lt;omega))).kept (kk.mono (by omega)),only_low (((h.only.trans h1).trans h2).trans (Only.of_below ka)) kk,sm_more h.sm tE tM⟩
theorem Gda.put {B c len cap g m cp:Nat} {w wr w1:World} {ad:Option Addr} {L:List Rep} (h:Gda B w wr c ad len cap (.slice (some ⟨g,0,none⟩) m cp) L) (hc:c<w.heap.size) {s:Sl} {M:List En.Rw} (h1:Only c wr w1) (cu:Cur B w1 c ad len cap) (oE:En.Own w1 wr.heap.size (sv s) M) (tE:En.Tame M) (hi:0<L.length) :
  Gda B w (w1.setCell ⟨g,0,none⟩ (sv s)) c ad len cap (.slice (some ⟨g,0,none⟩) m cp) (L.set 0 (M,(rat L 0).2)):=by
 obtain⟨C,hC⟩:=apart_c h.own h1 hc
 have hP:=hC.putE hi oE
 rw[Nat.zero_mul] at hP
 have hg:w.heap.size<=g:=(World.ownsRow.lt hC.row g rfl).1
 have k:Only g w1 (w1.setCell ⟨g,0,none⟩ (sv s)):=(Only.refl g w1).setCell _ _
 refine⟨Own.grow ⟨_,hP⟩,cu.kept (k.below (B:=c+1) (by omega) (by have:=cu.lt;omega)),only_low (h.only.trans h1) (k.below (B:=w.heap.size) hg (Nat.le_trans h.only.size h1.size)),fun i hi2=>?_⟩
 rw[List.length_set] at hi2
 rw[rat_set hi]
 by_cases e:0=i
 ·
  subst e
  rw[if_pos rfl]
  exact⟨tE,(h.sm 0 hi2).2⟩
 ·
  rw[if_neg e]
  exact h.sm i hi2
theorem l13Draw_any (B c:Nat) (ad:Option Addr) (len cap:Nat) (w:World) (hC:Cur B w c ad len cap) :
  Calls Tryz.prog 26 #[.pointer (some ⟨c,0,none⟩)] w fun e w'=>∃ v L,e=.returned v∧Sm L∧Own w' w.heap.size w'.heap.size v L∧Cur B w' c ad len cap∧Only c w w':=by
 obtain⟨i0,hi0,hz0,hz1,hz2⟩:=info_parts Vv.infoRw
 have hlt:=hC.lt
 have HD0:Hid (Gda B w (w.alloc (.cells #[] 32)) c ad len cap (.slice (some ⟨w.heap.size,0,none⟩) 0 0) []):=hidIt ⟨(Own.new w).grow,hC.kept ((Below.refl (c+1) w).alloc (by omega) _),(Only.refl c w).alloc _,fun i hi=>absurd hi (Nat.not_lt_zero _)⟩
 clear hC
 go_enter Tryz.func26,Tryz.ntmps26
 go_wp2_with (fail)
 refine (l1Below_any B c ad len cap 4 _ (by decide) HD0.out.cur).mono ?_
 rintro e W1 ⟨x,x0,x1,rfl,hC1,hO1⟩
 replace HD0:=hidIt (HD0.out.call hC1 hO1 hlt)
 obtain⟨n0,rfl⟩:=Int.eq_ofNat_of_zero_le x0
 have hn0:n0<=3:=by omega
 have hn0':(n0:Int)<=3:=by omega
 have hn00:(0:Int)<=(n0:Int):=by omega
 clear hC1 hO1 x0 x1
 go_wp2_with (fail)
 go_loopw [3,4] (fun s3 s4 wx=>∃ (n:Nat) (L:List Rep),s4=.int .i64 n∧n<=4∧Hid (L.length+n<=4)∧Hid (1<=L.length+n)∧Hid (Gda B w wx c ad len cap s3 L)) (fun _ s4 _=>(intOf s4).toNat)
 case atStart=>exact⟨n0+1,[],by simp;omega,by omega,hidIt (by simp;omega),hidIt (by simp),HD0⟩
 case round =>
  obtain⟨n,L,rfl,hn,HL,HL1,HD⟩:=hrel
  clear HD0
  obtain⟨a,cp,ez,_⟩:=HD.out.own.form
  subst ez
  by_cases hp:0<n
  ·
   obtain⟨m,rfl⟩:∃ m,n=m+1:=⟨n - 1,by omega⟩
   have hp':(0:Int)<(m:Int)+1:=by omega
   have hm6:(m:Int)<=6:=by omega
   have hm0:(0:Int)<=(m:Int):=by omega
   generalize hll:L.length=ll at *
   have HLL:=hidIt hll
   clear hll
   go_wp2_with (fail)
   refine (En.l11Draw_any B c ad len cap _ HD.out.cur).mono ?_
   rintro e w1 ⟨v1,L1,rfl,t1,_,o1,hC1,hO1⟩
   obtain⟨s,rfl⟩:=slE o1
   have T1:=hidIt t1
   have E1:=hidIt o1
   have C1:=hidIt hC1
   have Y1:=hidIt hO1
   clear t1 o1 hC1 hO1
   go_wp2_with (fail)
   refine (Mm.l12Draw_any B c ad len cap _ C1.out).mono ?_
   rintro e w2 ⟨v2,L2,rfl,t2,o2,hC2,hO2⟩
   obtain⟨t,rfl⟩:=slM o2
   have T2:=hidIt t2
   have M2:=hidIt o2
   have C2:=hidIt hC2
   have Y2:=hidIt hO2
   have E2:=hidIt (E1.out.only hO2 (.inl (Nat.lt_of_lt_of_le hlt HD.out.only.size)))
   clear t2 o2 hC2 hO2 C1 E1
   obtain⟨C,hC⟩:=apart_c (apart_c HD.out.own Y1.out hlt) Y2.out hlt
   obtain⟨s0,s1,s2⟩:=s
   obtain⟨t0,t1,t2⟩:=t
   have HC:=hidIt (hC.kept ((Below.refl w2.heap.size w2).alloc (Nat.le_refl _) (.cells (Vv.rc ((s0,s1,s2),(t0,t1,t2))) 32)))
   have HCL:=hidIt (hC.len.trans HLL.out)
   clear hC
   have hws:w.heap.size<=w2.heap.size:=Nat.le_trans HD.out.only.size (Nat.le_trans Y1.out.size Y2.out.size)
   have HOw:Hid (World.ownsRow (w2.alloc (.cells #[.slice s0 s1 s2,.slice t0 t1 t2] 32)) w.heap.size 32 2 (.slice a ll cp) ll (Vv.rcells C)):=hidIt (by have:=HC.out.row;unfold Vv.Own at this;rw[HCL.out] at this;exact this)
   simp only[sv]
   go_wp2_with (first | (at_builtin;refine wpList_append_own _ rfl _ _ 24 rfl w.heap.size 32 i0 (.agg #[sv (none,0,0),sv (none,0,0)]) 2 48 Tryz.underlying24 hi0 hz0 hz1 hz2 rfl (by decide) _ _ _ rfl HOw.out ⟨w2.heap.size,0,none⟩ 1 1 [.slice s0 s1 s2,.slice t0 t1 t2] rfl rfl (Vv.fresh w2 ((s0,s1,s2),(t0,t1,t2)) 32) (Vv.rcells_one [((s0,s1,s2),(t0,t1,t2))]) ?ca1 ?ca2 ?ca3 ?_))
   case ca1=>unfold maxLen;have:=HL.out;have:=HLL.out;omega
   case ca2=>have:=HL.out;have:=HLL.out;omega
   case ca3=>simp;omega
   intro v' w9 hown hgrow hnil
   have HD9:=hidIt (HD.out.more hlt (s:=(s0,s1,s2)) (t:=(t0,t1,t2)) (r:=(L1,L2)) (T:=32) HC.out Y1.out Y2.out C2.out E2.out M2.out T1.out T2.out (Vv.Own.more (L:=C) (M:=[((s0,s1,s2),(t0,t1,t2))]) (by rw[HCL.out];exact hown)) hgrow)
   have HL9:Hid ((L++[((L1,L2):Rep)]).length+m<=4):=hidIt (by have:=HL.out;have:=HLL.out;simp;omega)
   have HL8:Hid (1<=(L++[((L1,L2):Rep)]).length+m):=hidIt (by simp;omega)
   clear hown hgrow hnil
   go_wp2_with (fail)
   exact⟨⟨m,_,by simp,by omega,HL9,HL8,HD9⟩,by simp[intOf]⟩
  ·
   obtain rfl:n=0:=by omega
   have hl1:1<=L.length:=by have:=HL1.out;omega
   have HL4:Hid (L.length<=4):=hidIt (by have:=HL.out;omega)
   clear HL HL1
   obtain⟨g,rfl⟩:=own_zero HD.out.own (by omega)
   generalize hll:L.length=ll at *
   have HLL:=hidIt hll
   clear hll
   have hll':(0:Int)<(ll:Int):=by omega
   go_wp2_with (fail)
   refine (l1Once_any B c ad len cap 14 _ (by decide) HD.out.cur).mono ?_
   rintro e W1 ⟨b1,rfl,hC1,hO1⟩
   replace HD:=hidIt (HD.out.call hC1 hO1 hlt)
   clear hC1 hO1
   cases b1 with
   | false =>
    go_wp2_with (fail)
    go_ret
    first | exact⟨_,L,rfl,HD.out.short (by rw[HLL.out];exact HL4.out),HD.out.own,HD.out.cur,HD.out.only⟩ | exact⟨_,rfl,L,HD.out.short (by rw[HLL.out];exact HL4.out),HD.out.own,HD.out.cur,HD.out.only⟩
   | true =>
    go_wp2_with (fail)
    refine (En.l11DrawAny_any B c ad len cap _ HD.out.cur).mono ?_
    rintro e W2 ⟨v1,L1,rfl,t1,o1,hC1,hO1⟩
    obtain⟨s,rfl⟩:=slE o1
    obtain⟨_,_,q0,_,fz,_⟩:=(apart_c HD.out.own hO1 hlt).cells (i:=0) (by rw[HLL.out];omega)
    have HP:=hidIt (HD.out.put hlt hO1 hC1 o1 t1 (by rw[HLL.out];omega))
    obtain⟨s0,s1,s2⟩:=s
    simp only[sv,Nat.zero_mul] at q0 fz HP ⊢
    clear t1 o1 hC1 hO1
    go_wp2_with (fail)
    go_ret
    first | exact⟨_,L.set 0 (L1,(rat L 0).2),rfl,HP.out.short (by rw[List.length_set,HLL.out];exact HL4.out),HP.out.own,HP.out.cur,HP.out.only⟩ | exact⟨_,rfl,L.set 0 (L1,(rat L 0).2),HP.out.short (by rw[List.length_set,HLL.out];exact HL4.out),HP.out.own,HP.out.cur,HP.out.only⟩
end Go.Proofs.YtkeapmmochpcfaaGreat.Rp
namespace Go.Proofs.YtkeapmmochpcfaaGreat.Rp
open Go.ChangeShapes Go.WideShapes Go.ChangeAt Go.RowKit
open Vv (Sl sv hidIt)
open Dr (Cur Code l1Below_any l1Once_any l1New_any)
end Go.Proofs.YtkeapmmochpcfaaGreat.Rp
