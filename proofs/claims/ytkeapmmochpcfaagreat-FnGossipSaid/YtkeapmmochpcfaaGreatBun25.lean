/- l13Copy of the specification. (Written by wip/mkCopy.py.) -/
import Derived.Test.YtkeapmmochpcfaaGreatBun24
import Derived.Test.YtkeapmmochpcfaaGreatBun21
import Derived.Test.YtkeapmmochpcfaaGreatBun6
import Derived.Test.YtkeapmmochpcfaaGreatBun5
import Derived.Test.YtkeapmmochpcfaaGreatBoxM
set_option maxRecDepth 100000
set_option maxHeartbeats 32000000
set_option linter.unusedVariables false
namespace Go.Proofs.YtkeapmmochpcfaaGreat.Rp
open Go.ChangeShapes Go.WideShapes Go.ChangeAt Go.RowKit
open Vv (Sl sv hidIt)
open Rg (upd waits wp_region_inv op_at)
theorem sv_inj {s t:Sl} (h:sv s=sv t):s=t:=by
 obtain⟨a,b,c⟩:=s
 obtain⟨d,e,f⟩:=t
 simp only[sv,Value.slice.injEq] at h
 obtain⟨rfl,rfl,rfl⟩:=h
 rfl
theorem rd_cellsE {w:World} {x:Addr} {L:List En.Rw} (h:En.Rd w (some x) L):∀ j u,(En.rcells L)[j]?=some u->w.cell? (x.add j)=some u:=by
 intro j u hj
 cases L with
 | nil=>simp[En.rcells] at hj
 | cons y L =>
  obtain⟨b,off,e,_⟩:=h.cell 0 (by simp)
  cases e
  exact h.cells j u hj
theorem rd_cellsM {w:World} {x:Addr} {L:List Mm.Rw} (h:Mm.Rd w (some x) L):∀ j u,(Mm.rcells L)[j]?=some u->w.cell? (x.add j)=some u:=by
 intro j u hj
 cases L with
 | nil=>simp[Mm.rcells] at hj
 | cons y L =>
  obtain⟨b,off,e,_⟩:=h.cell 0 (by simp)
  cases e
  exact h.cells j u hj
theorem rd_two (W:World) (s0 t0:Option Addr) (s1 s2 t1 t2:Nat):Vv.Rd (W.alloc (.cells #[.slice s0 s1 s2,.slice t0 t1 t2] 32)) (some ⟨W.heap.size,0,none⟩) [((s0,s1,s2),(t0,t1,t2))] :=
 ⟨fun i hi=>by
  have hi0:i=0:=by simp at hi;omega
  subst hi0
  refine⟨W.heap.size,0,rfl,fun j hj=>?_⟩
  match j,hj with
  | 0,_=>simp[Vv.rcell,Vv.rat]
  | 1,_=>simp[Vv.rcell,Vv.rat]⟩
def FinC (b off i m cap p1 p2 q1 q2 N lo:Nat) (pa qa:Option Addr) (vo:Value) (C:List Vv.Rw) (M:List Rep) (r:Rep) (w0:World) (W:World) (v:Value):Prop:=∃ C',OwnC W lo W.heap.size v C' (M++[r])∧Below lo w0 W
structure RKc (b off i m cap p1 p2 q1 q2 N lo:Nat) (pa qa:Option Addr) (vo:Value) (C:List Vv.Rw) (M:List Rep) (r:Rep) (w0:World) (L:Nat->Bool) (u3 u12 u13 u14 u15 u16 u17 u18 u19 u20 u21 u22 u23 u24 u25 u26 u27 u28 u29:Value) (W:World):Prop where
 low:L 17=false->Below w0.heap.size w0 W
 s3:L 18=false->u3=vo
 E0:L 1=true->L 7=false->∃ g,u13=.slice (some ⟨g,0,none⟩) 0 0∧En.Own W N (.slice (some ⟨g,0,none⟩) 0 0) []
 E1:L 7=true->L 17=false->∃ s:Sl,u19=sv s∧En.Own W N (sv s) r.1
 M0:L 8=true->L 14=false->∃ g,u20=.slice (some ⟨g,0,none⟩) 0 0∧Mm.Own W N (.slice (some ⟨g,0,none⟩) 0 0) []
 M1:L 14=true->L 17=false->∃ s:Sl,u26=sv s∧Mm.Own W N (sv s) r.2
 P16:L 16=true->L 17=false->∃ (g:Nat) (s t:Sl),u28=.slice (some ⟨g,0,none⟩) 1 1∧u19=sv s∧u26=sv t∧Vv.Rd W (some ⟨g,0,none⟩) [(s,t)]
 fin:L 17=true->FinC b off i m cap p1 p2 q1 q2 N lo pa qa vo C M r w0 W u29
 d7:L 7=true->L 1=true∧L 6=true
 d14:L 14=true->L 8=true∧L 13=true∧L 7=true
 d15:L 15=true->L 7=true∧L 14=true
 d16:L 16=true->L 15=true
 d17:L 17=true->L 0=true∧L 16=true∧L 14=true
 d18:L 18=true->L 17=true
 k0:L 0=true->u12=vo
 k2:L 2=true->u14=.slice (some ⟨b,off,none⟩) m cap
 k3:L 3=true->u15=.int .i64 i
 k4:L 4=true->u16=.pointer (some ⟨b,off+i*2,none⟩)
 k5:L 5=true->u17=.pointer (some ⟨b,off+i*2,none⟩)
 k6:L 6=true->u18=.slice pa p1 p2
 k9:L 9=true->u21=.slice (some ⟨b,off,none⟩) m cap
 k10:L 10=true->u22=.int .i64 i
 k11:L 11=true->u23=.pointer (some ⟨b,off+i*2,none⟩)
 k12:L 12=true->u24=.pointer (some ⟨b,off+i*2+1,none⟩)
 k13:L 13=true->u25=.slice qa q1 q2
 k15:L 15=true->u27=.agg #[u19,u26]
 k18:L 18=true->u3=u29
def KKc (b off i m cap p1 p2 q1 q2 N lo:Nat) (pa qa:Option Addr) (vo:Value) (C:List Vv.Rw) (M:List Rep) (r:Rep) (w0:World) (y0 y1 y2 y4 y5 y6 y7 y8 y9 y10 y11 y30:Value) (L:Nat->Bool) (a:Act) (W:World):Prop:=∃ u3 u12 u13 u14 u15 u16 u17 u18 u19 u20 u21 u22 u23 u24 u25 u26 u27 u28 u29:Value,a=⟨(y0::y1::y2::u3::y4::y5::y6::y7::y8::y9::y10::y11::u12::u13::u14::u15::u16::u17::u18::u19::u20::u21::u22::u23::u24::u25::u26::u27::u28::u29::y30::[]).toArray,[]⟩∧RKc b off i m cap p1 p2 q1 q2 N lo pa qa vo C M r w0 L u3 u12 u13 u14 u15 u16 u17 u18 u19 u20 u21 u22 u23 u24 u25 u26 u27 u28 u29 W
theorem RKc.kept {b off i m cap p1 p2 q1 q2 N lo:Nat} {pa qa:Option Addr} {vo:Value} {C:List Vv.Rw} {M:List Rep} {r:Rep} {w0:World} {L:Nat->Bool} {u3 u12 u13 u14 u15 u16 u17 u18 u19 u20 u21 u22 u23 u24 u25 u26 u27 u28 u29:Value} {W W':World} (R:RKc b off i m cap p1 p2 q1 q2 N lo pa qa vo C M r w0 L u3 u12 u13 u14 u15 u16 u17 u18 u19 u20 u21 u22 u23 u24 u25 u26 u27 u28 u29 W) (h17:L 17=false) (k:Below W.heap.size W W'):RKc b off i m cap p1 p2 q1 q2 N lo pa qa vo C M r w0 L u3 u12 u13 u14 u15 u16 u17 u18 u19 u20 u21 u22 u23 u24 u25 u26 u27 u28 u29 W' :=
 ⟨(fun _=>on (R.low h17) k),R.s3,(fun a b=>by obtain⟨g,e,o⟩:=R.E0 a b;exact⟨g,e,o.kept k⟩),(fun a b=>by obtain⟨s,e,o⟩:=R.E1 a b;exact⟨s,e,o.kept k⟩),(fun a b=>by obtain⟨g,e,o⟩:=R.M0 a b;exact⟨g,e,o.kept k⟩),(fun a b=>by obtain⟨s,e,o⟩:=R.M1 a b;exact⟨s,e,o.kept k⟩),(fun a b=>by obtain⟨g,s,t,e1,e2,e3,o⟩:=R.P16 a b;exact⟨g,s,t,e1,e2,e3,o.kept k⟩),(fun q=>by rw[h17] at q;cases q),R.d7,R.d14,R.d15,R.d16,R.d17,R.d18,R.k0,R.k2,R.k3,R.k4,R.k5,R.k6,R.k9,R.k10,R.k11,R.k12,R.k13,R.k15,R.k18⟩
theorem RKc.behind {b off i m cap p1 p2 q1 q2 N lo:Nat} {pa qa:Option Addr} {vo:Value} {C:List Vv.Rw} {M:List Rep} {r:Rep} {w0:World} {L:Nat->Bool} {u3 u12 u13 u14 u15 u16 u17 u18 u19 u20 u21 u22 u23 u24 u25 u26 u27 u28 u29:Value} {W:World} (R:RKc b off i m cap p1 p2 q1 q2 N lo pa qa vo C M r w0 L u3 u12 u13 u14 u15 u16 u17 u18 u19 u20 u21 u22 u23 u24 u25 u26 u27 u28 u29 W) (h:L 1=false∨L 6=false∨L 7=false∨L 8=false∨L 13=false∨L 14=false∨L 15=false∨L 16=false):L 17=false:=by
 cases q:L 17 with
 | false=>rfl
 | true =>
  have h17:=R.d17 q
  have h14:=R.d14 h17.2.2
  have h15:=R.d15 (R.d16 h17.2.1)
  have h7:=R.d7 h15.1
  simp[h17.2.1,h17.2.2,h14.1,h14.2.1,h15.1,h7.1,h7.2,R.d16 h17.2.1] at h
theorem spec_l13Copy (a:Option Addr) (cap:Nat) (L:List Rep) (w:World) (h:Rd w a L) (hT:Tame L) :
  Calls Tryz.prog 31 #[.slice a L.length cap] w fun e w'=>LstP w L e w':=by
 have HTT:=hidIt hT
 have hm6:=hT.n
 have HR:=hidIt h
 clear h hT
 generalize hn:L.length=m at *
 have HN:=hidIt hn
 clear hn
 go_enter Tryz.func31,Tryz.ntmps31
 go_wp2_with (fail)
 go_loopw [3,4] (fun z y wx=>∃ (i go mm co:Nat) (M:List Rep),y=.int .i64 i∧z=.slice (some ⟨go,0,none⟩) mm co∧i<=m∧Hid (M.length=mm)∧Hid (mm=i)∧Hid (M=L.take i)∧Hid (Own wx w.heap.size wx.heap.size (.slice (some ⟨go,0,none⟩) mm co) M)∧Hid (Below w.heap.size w wx)) (fun _ y _=>(m - intOf y).toNat)
 case atStart=>exact⟨0,w.heap.size,0,0,[],rfl,rfl,by omega,hidIt rfl,hidIt rfl,hidIt (by simp),hidIt (Own.new w).grow,hidIt ((Below.refl _ w).alloc (Nat.le_refl _) _)⟩
 case round =>
  obtain⟨i,go,mm,co,M,rfl,rfl,hi,HMM,HMI,HME,HO,HBx⟩:=hrel
  by_cases hin:i<m
  ·
   have hin':(i:Int)<(m:Int):=by omega
   have hi0:(0:Int)<=(i:Int):=by omega
   have hiL:i<L.length:=by rw[HN.out];exact hin
   obtain⟨b,off,p,q,ea,c0,c1,rE,rM⟩:=(HR.out.kept HBx.out).one (i:=i) hiL
   subst ea
   have hb80:=HTT.out.bl i hiL
   have hm8:=HTT.out.ml i hiL
   have HTK:=hidIt (take_rat hiL)
   obtain⟨p0,p1,p2⟩:=p
   obtain⟨q0,q1,q2⟩:=q
   obtain⟨e1,r1,n1,_,_⟩:=rE
   obtain⟨e2,r2,n2,_,_⟩:=rM
   simp only at e1 r1 n1 e2 r2 n2
   simp only[sv] at c0 c1
   have hp1:=hidIt e1
   have hq1:=hidIt e2
   have np:=hidIt n1
   have nq:=hidIt n2
   have HE:=hidIt r1.drew
   have HM:=hidIt r2.drew
   obtain⟨C,hC⟩:=HO.out
   have hbw:b<wr.drew.heap.size:=World.block_lt_of_cell? _ _ c0
   have HOC:Hid (OwnC wr.drew w.heap.size wr.drew.heap.size (.slice (some ⟨go,0,none⟩) mm co) C M):=hidIt (hC.kept ((Below.refl _ wr).drew))
   have c0':wr.drew.cell? ⟨b,off+i*2,none⟩=some (.slice p0 p1 p2):=c0
   have c1':wr.drew.cell? ⟨b,off+i*2+1,none⟩=some (.slice q0 q1 q2):=c1
   replace HBx:=hidIt (HBx.out.drew)
   clear c0 c1 r1 r2 e1 e2 n1 n2 hC HO
   have c0:=c0'
   have c1:=c1'
   clear c0' c1'
   obtain⟨W0,hW0⟩:∃ W0,W0=wr.drew:=⟨_,rfl⟩
   rw[<- hW0] at c0 c1 HE HM HOC HBx hbw
   go_wp2_with (fail)
   refine wp_region_inv (by kernel_rfl) (by kernel_rfl) (KKc b off i m cap p1 p2 q1 q2 W0.heap.size w.heap.size p0 q0 (.slice (some ⟨go,0,none⟩) mm co) C M (rat L i) W0 _ _ _ _ _ _ _ _ _ _ _ _) ⟨_,_,_,_,_,_,_,_,_,_,_,_,_,_,_,_,_,_,_,(by rw[<- hW0];exact⟨rfl,⟨(fun _=>(Below.refl _ _)),(fun _=>rfl),(fun q=>by cases q),(fun q=>by cases q),(fun q=>by cases q),(fun q=>by cases q),(fun q=>by cases q),(fun q=>by cases q),(fun q=>by cases q),(fun q=>by cases q),(fun q=>by cases q),(fun q=>by cases q),(fun q=>by cases q),(fun q=>by cases q),(fun q=>by cases q),(fun q=>by cases q),(fun q=>by cases q),(fun q=>by cases q),(fun q=>by cases q),(fun q=>by cases q),(fun q=>by cases q),(fun q=>by cases q),(fun q=>by cases q),(fun q=>by cases q),(fun q=>by cases q),(fun q=>by cases q),(fun q=>by cases q)⟩⟩)⟩ ?_ ?_
   case refine_1 =>
    intro Lb a' W j hj hI hL hD
    have hcases:j=0∨j=1∨j=2∨j=3∨j=4∨j=5∨j=6∨j=7∨j=8∨j=9∨j=10∨j=11∨j=12∨j=13∨j=14∨j=15∨j=16∨j=17∨j=18:=by simp at hj;omega
    clear hj
    obtain⟨u3,u12,u13,u14,u15,u16,u17,u18,u19,u20,u21,u22,u23,u24,u25,u26,u27,u28,u29,rfl,R⟩:=hI
    rcases hcases with rfl | rfl | rfl | rfl | rfl | rfl | rfl | rfl | rfl | rfl | rfl | rfl | rfl | rfl | rfl | rfl | rfl | rfl | rfl
    ·
     skip
     have h18:Lb 18=false:=by
      cases q:Lb 18 with
      | false=>rfl
      | true=>have z:=(R.d17 (R.d18 q)).1;rw[hL] at z;cases z
     have e3:=R.s3 h18
     subst e3
     refine op_at rfl (fun K hK=>?_)
     go_simp
     refine hK _ _ ?_
     exact⟨_,_,_,_,_,_,_,_,_,_,_,_,_,_,_,_,_,_,_,rfl,⟨R.low,R.s3,R.E0,R.E1,R.M0,R.M1,R.P16,R.fin,R.d7,R.d14,R.d15,R.d16,(fun q=>⟨rfl,(R.d17 q).2.1,(R.d17 q).2.2⟩),R.d18,(fun _=>rfl),R.k2,R.k3,R.k4,R.k5,R.k6,R.k9,R.k10,R.k11,R.k12,R.k13,R.k15,R.k18⟩⟩
    ·
     skip
     have h17:=R.behind (.inl hL)
     have kb:=R.low h17
     have R:=R.kept h17 ((Below.refl W.heap.size W).alloc (Nat.le_refl _) (.cells #[] 60))
     have hn:Lb 7=false:=by
      cases q:Lb 7 with
      | false=>rfl
      | true=>have z:=(R.d7 q).1;rw[hL] at z;cases z
     refine op_at rfl (fun K hK=>?_)
     go_simp
     refine hK _ _ ?_
     exact⟨_,_,_,_,_,_,_,_,_,_,_,_,_,_,_,_,_,_,_,rfl,⟨R.low,R.s3,(fun _ _=>⟨W.heap.size,rfl,(En.Own.new W).mono kb.size⟩),R.E1,R.M0,R.M1,R.P16,R.fin,(fun q=>⟨rfl,(R.d7 q).2⟩),R.d14,R.d15,R.d16,R.d17,R.d18,R.k0,R.k2,R.k3,R.k4,R.k5,R.k6,R.k9,R.k10,R.k11,R.k12,R.k13,R.k15,R.k18⟩⟩
    ·
     skip
     refine op_at rfl (fun K hK=>?_)
     go_simp
     refine hK _ _ ?_
     exact⟨_,_,_,_,_,_,_,_,_,_,_,_,_,_,_,_,_,_,_,rfl,⟨R.low,R.s3,R.E0,R.E1,R.M0,R.M1,R.P16,R.fin,R.d7,R.d14,R.d15,R.d16,R.d17,R.d18,R.k0,(fun _=>rfl),R.k3,R.k4,R.k5,R.k6,R.k9,R.k10,R.k11,R.k12,R.k13,R.k15,R.k18⟩⟩
    ·
     skip
     refine op_at rfl (fun K hK=>?_)
     go_simp
     refine hK _ _ ?_
     exact⟨_,_,_,_,_,_,_,_,_,_,_,_,_,_,_,_,_,_,_,rfl,⟨R.low,R.s3,R.E0,R.E1,R.M0,R.M1,R.P16,R.fin,R.d7,R.d14,R.d15,R.d16,R.d17,R.d18,R.k0,R.k2,(fun _=>rfl),R.k4,R.k5,R.k6,R.k9,R.k10,R.k11,R.k12,R.k13,R.k15,R.k18⟩⟩
    ·
     skip
     have e2:=R.k2 (hD 2 (by kernel_rfl))
     subst e2
     have e3:=R.k3 (hD 3 (by kernel_rfl))
     subst e3
     refine op_at rfl (fun K hK=>?_)
     go_simp
     refine hK _ _ ?_
     exact⟨_,_,_,_,_,_,_,_,_,_,_,_,_,_,_,_,_,_,_,rfl,⟨R.low,R.s3,R.E0,R.E1,R.M0,R.M1,R.P16,R.fin,R.d7,R.d14,R.d15,R.d16,R.d17,R.d18,R.k0,R.k2,R.k3,(fun _=>rfl),R.k5,R.k6,R.k9,R.k10,R.k11,R.k12,R.k13,R.k15,R.k18⟩⟩
    ·
     skip
     have e4:=R.k4 (hD 4 (by kernel_rfl))
     subst e4
     refine op_at rfl (fun K hK=>?_)
     go_simp
     refine hK _ _ ?_
     exact⟨_,_,_,_,_,_,_,_,_,_,_,_,_,_,_,_,_,_,_,rfl,⟨R.low,R.s3,R.E0,R.E1,R.M0,R.M1,R.P16,R.fin,R.d7,R.d14,R.d15,R.d16,R.d17,R.d18,R.k0,R.k2,R.k3,R.k4,(fun _=>rfl),R.k6,R.k9,R.k10,R.k11,R.k12,R.k13,R.k15,R.k18⟩⟩
    ·
     skip
     have e5:=R.k5 (hD 5 (by kernel_rfl))
     subst e5
     have h17:=R.behind (.inr (.inl hL))
     have kb:=R.low h17
     have cc:W.cell? ⟨b,off+i*2,none⟩=some (.slice p0 p1 p2):=by rw[kb.cell hbw];exact c0
     refine op_at rfl (fun K hK=>?_)
     go_simp
     refine hK _ _ ?_
     exact⟨_,_,_,_,_,_,_,_,_,_,_,_,_,_,_,_,_,_,_,rfl,⟨R.low,R.s3,R.E0,R.E1,R.M0,R.M1,R.P16,R.fin,(fun q=>⟨(R.d7 q).1,rfl⟩),R.d14,R.d15,R.d16,R.d17,R.d18,R.k0,R.k2,R.k3,R.k4,R.k5,(fun _=>rfl),R.k9,R.k10,R.k11,R.k12,R.k13,R.k15,R.k18⟩⟩
    ·
     skip
     have h17:=R.behind (.inr (.inr (.inl hL)))
     have kb:=R.low h17
     obtain⟨g,eg,og⟩:=R.E0 (hD 1 (by kernel_rfl)) hL
     have es:=R.k6 (hD 6 (by kernel_rfl))
     subst eg es
     have h16:Lb 16=false:=by
      cases q:Lb 16 with
      | false=>rfl
      | true=>have z:=R.d15 (R.d16 q);simp[hL] at z
     have h15:Lb 15=false:=by
      cases q:Lb 15 with
      | false=>rfl
      | true=>have z:=R.d15 q;simp[hL] at z
     have h14:Lb 14=false:=by
      cases q:Lb 14 with
      | false=>rfl
      | true=>have z:=(R.d14 q).2.2;rw[hL] at z;cases z
     refine op_at rfl (fun K hK=>?_)
     cases hpa:p0 with
     | none =>
      have hnil:(rat L i).1=[]:=by have z:=(HE.out.kept kb);rw[hpa] at z;exact z.none_nil
      have hz:p1=0:=by rw[hp1.out,hnil];rfl
      have hz2:p2=0:=np.out hpa
      refine En.step_append_none rfl (.tmp 13) (.tmp 18) rfl W0.heap.size (.slice (some ⟨g,0,none⟩) 0 0) [] (by simp[Act.eval]) og (by simp[Act.eval,hz,hz2]) ?_
      refine hK _ _ ?_
      exact⟨_,_,_,_,_,_,_,_,_,_,_,_,_,_,_,_,_,_,_,rfl,⟨R.low,R.s3,(fun _ q=>by cases q),(fun _ _=>⟨(some ⟨g,0,none⟩,0,0),rfl,by rw[hnil];exact og⟩),R.M0,R.M1,(fun q=>by have q2:Lb 16=true:=q;rw[h16] at q2;cases q2),(fun q=>by have q2:Lb 17=true:=q;rw[h17] at q2;cases q2),(fun _=>⟨hD 1 (by kernel_rfl),hD 6 (by kernel_rfl)⟩),(fun q=>⟨(R.d14 q).1,(R.d14 q).2.1,rfl⟩),(fun q=>⟨rfl,(R.d15 q).2⟩),R.d16,R.d17,R.d18,R.k0,R.k2,R.k3,R.k4,R.k5,(fun _=>by rw[hpa]),R.k9,R.k10,R.k11,R.k12,R.k13,(fun q=>by have q2:Lb 15=true:=q;rw[h15] at q2;cases q2),R.k18⟩⟩
     | some x =>
      refine En.step_append rfl (.tmp 13) (.tmp 18) rfl W0.heap.size (.slice (some ⟨g,0,none⟩) 0 0) [] (rat L i).1 (by simp[Act.eval]) og x p1 p2 hp1.out.symm (by simp[Act.eval]) (rd_cellsE (by have z:=(HE.out.kept kb);rw[hpa] at z;exact z)) (by have:=hp1.out;simp;omega) kb.size ?_
      intro v' W' o' gr _
      rw[List.nil_append] at o'
      obtain⟨s,es'⟩:=slE o'
      subst es'
      have kb2:Below W0.heap.size W0 W':=kb.trans (En.grown_below og gr (Nat.le_refl _) kb.size)
      refine hK _ _ ?_
      exact⟨_,_,_,_,_,_,_,_,_,_,_,_,_,_,_,_,_,_,_,rfl,⟨(fun _=>kb2),R.s3,(fun _ q=>by cases q),(fun _ _=>⟨s,rfl,o'⟩),(fun a c=>by obtain⟨g',e',om⟩:=R.M0 a c;exact⟨g',e',row_grown om og gr (own_apart om og (by decide))⟩),(fun q=>by have q2:Lb 14=true:=q;rw[h14] at q2;cases q2),(fun q=>by have q2:Lb 16=true:=q;rw[h16] at q2;cases q2),(fun q=>by have q2:Lb 17=true:=q;rw[h17] at q2;cases q2),(fun _=>⟨hD 1 (by kernel_rfl),hD 6 (by kernel_rfl)⟩),(fun q=>⟨(R.d14 q).1,(R.d14 q).2.1,rfl⟩),(fun q=>⟨rfl,(R.d15 q).2⟩),R.d16,R.d17,R.d18,R.k0,R.k2,R.k3,R.k4,R.k5,(fun _=>by rw[hpa]),R.k9,R.k10,R.k11,R.k12,R.k13,(fun q=>by have q2:Lb 15=true:=q;rw[h15] at q2;cases q2),R.k18⟩⟩
    ·
     skip
     have h17:=R.behind (.inr (.inr (.inr (.inl hL))))
     have kb:=R.low h17
     have R:=R.kept h17 ((Below.refl W.heap.size W).alloc (Nat.le_refl _) (.cells #[] 62))
     have hn:Lb 14=false:=by
      cases q:Lb 14 with
      | false=>rfl
      | true=>have z:=(R.d14 q).1;rw[hL] at z;cases z
     refine op_at rfl (fun K hK=>?_)
     go_simp
     refine hK _ _ ?_
     exact⟨_,_,_,_,_,_,_,_,_,_,_,_,_,_,_,_,_,_,_,rfl,⟨R.low,R.s3,R.E0,R.E1,(fun _ _=>⟨W.heap.size,rfl,(Mm.Own.new W).mono kb.size⟩),R.M1,R.P16,R.fin,R.d7,(fun q=>⟨rfl,(R.d14 q).2.1,(R.d14 q).2.2⟩),R.d15,R.d16,R.d17,R.d18,R.k0,R.k2,R.k3,R.k4,R.k5,R.k6,R.k9,R.k10,R.k11,R.k12,R.k13,R.k15,R.k18⟩⟩
    ·
     skip
     refine op_at rfl (fun K hK=>?_)
     go_simp
     refine hK _ _ ?_
     exact⟨_,_,_,_,_,_,_,_,_,_,_,_,_,_,_,_,_,_,_,rfl,⟨R.low,R.s3,R.E0,R.E1,R.M0,R.M1,R.P16,R.fin,R.d7,R.d14,R.d15,R.d16,R.d17,R.d18,R.k0,R.k2,R.k3,R.k4,R.k5,R.k6,(fun _=>rfl),R.k10,R.k11,R.k12,R.k13,R.k15,R.k18⟩⟩
    ·
     skip
     refine op_at rfl (fun K hK=>?_)
     go_simp
     refine hK _ _ ?_
     exact⟨_,_,_,_,_,_,_,_,_,_,_,_,_,_,_,_,_,_,_,rfl,⟨R.low,R.s3,R.E0,R.E1,R.M0,R.M1,R.P16,R.fin,R.d7,R.d14,R.d15,R.d16,R.d17,R.d18,R.k0,R.k2,R.k3,R.k4,R.k5,R.k6,R.k9,(fun _=>rfl),R.k11,R.k12,R.k13,R.k15,R.k18⟩⟩
    ·
     skip
     have e9:=R.k9 (hD 9 (by kernel_rfl))
     subst e9
     have e10:=R.k10 (hD 10 (by kernel_rfl))
     subst e10
     refine op_at rfl (fun K hK=>?_)
     go_simp
     refine hK _ _ ?_
     exact⟨_,_,_,_,_,_,_,_,_,_,_,_,_,_,_,_,_,_,_,rfl,⟨R.low,R.s3,R.E0,R.E1,R.M0,R.M1,R.P16,R.fin,R.d7,R.d14,R.d15,R.d16,R.d17,R.d18,R.k0,R.k2,R.k3,R.k4,R.k5,R.k6,R.k9,R.k10,(fun _=>rfl),R.k12,R.k13,R.k15,R.k18⟩⟩
    ·
     skip
     have e11:=R.k11 (hD 11 (by kernel_rfl))
     subst e11
     refine op_at rfl (fun K hK=>?_)
     go_simp
     refine hK _ _ ?_
     exact⟨_,_,_,_,_,_,_,_,_,_,_,_,_,_,_,_,_,_,_,rfl,⟨R.low,R.s3,R.E0,R.E1,R.M0,R.M1,R.P16,R.fin,R.d7,R.d14,R.d15,R.d16,R.d17,R.d18,R.k0,R.k2,R.k3,R.k4,R.k5,R.k6,R.k9,R.k10,R.k11,(fun _=>rfl),R.k13,R.k15,R.k18⟩⟩
    ·
     skip
     have e12:=R.k12 (hD 12 (by kernel_rfl))
     subst e12
     have h17:=R.behind (.inr (.inr (.inr (.inr (.inl hL)))))
     have kb:=R.low h17
     have cc:W.cell? ⟨b,off+i*2+1,none⟩=some (.slice q0 q1 q2):=by rw[kb.cell hbw];exact c1
     refine op_at rfl (fun K hK=>?_)
     go_simp
     refine hK _ _ ?_
     exact⟨_,_,_,_,_,_,_,_,_,_,_,_,_,_,_,_,_,_,_,rfl,⟨R.low,R.s3,R.E0,R.E1,R.M0,R.M1,R.P16,R.fin,R.d7,(fun q=>⟨(R.d14 q).1,rfl,(R.d14 q).2.2⟩),R.d15,R.d16,R.d17,R.d18,R.k0,R.k2,R.k3,R.k4,R.k5,R.k6,R.k9,R.k10,R.k11,R.k12,(fun _=>rfl),R.k15,R.k18⟩⟩
    ·
     skip
     have h17:=R.behind (.inr (.inr (.inr (.inr (.inr (.inl hL))))))
     have kb:=R.low h17
     obtain⟨g,eg,og⟩:=R.M0 (hD 8 (by kernel_rfl)) hL
     have es:=R.k13 (hD 13 (by kernel_rfl))
     subst eg es
     have h16:Lb 16=false:=by
      cases q:Lb 16 with
      | false=>rfl
      | true=>have z:=R.d15 (R.d16 q);simp[hL] at z
     have h15:Lb 15=false:=by
      cases q:Lb 15 with
      | false=>rfl
      | true=>have z:=R.d15 q;simp[hL] at z
     refine op_at rfl (fun K hK=>?_)
     cases hpa:q0 with
     | none =>
      have hnil:(rat L i).2=[]:=by have z:=(HM.out.kept kb);rw[hpa] at z;exact z.none_nil
      have hz:q1=0:=by rw[hq1.out,hnil];rfl
      have hz2:q2=0:=nq.out hpa
      refine Mm.step_append_none rfl (.tmp 20) (.tmp 25) rfl W0.heap.size (.slice (some ⟨g,0,none⟩) 0 0) [] (by simp[Act.eval]) og (by simp[Act.eval,hz,hz2]) ?_
      refine hK _ _ ?_
      exact⟨_,_,_,_,_,_,_,_,_,_,_,_,_,_,_,_,_,_,_,rfl,⟨R.low,R.s3,R.E0,R.E1,(fun _ q=>by cases q),(fun _ _=>⟨(some ⟨g,0,none⟩,0,0),rfl,by rw[hnil];exact og⟩),(fun q=>by have q2:Lb 16=true:=q;rw[h16] at q2;cases q2),(fun q=>by have q2:Lb 17=true:=q;rw[h17] at q2;cases q2),R.d7,(fun _=>⟨hD 8 (by kernel_rfl),hD 13 (by kernel_rfl),hD 7 (by kernel_rfl)⟩),(fun q=>⟨(R.d15 q).1,rfl⟩),R.d16,(fun q=>⟨(R.d17 q).1,(R.d17 q).2.1,rfl⟩),R.d18,R.k0,R.k2,R.k3,R.k4,R.k5,R.k6,R.k9,R.k10,R.k11,R.k12,(fun _=>by rw[hpa]),(fun q=>by have q2:Lb 15=true:=q;rw[h15] at q2;cases q2),R.k18⟩⟩
     | some x =>
      refine Mm.step_append rfl (.tmp 20) (.tmp 25) rfl W0.heap.size (.slice (some ⟨g,0,none⟩) 0 0) [] (rat L i).2 (by simp[Act.eval]) og x q1 q2 hq1.out.symm (by simp[Act.eval]) (rd_cellsM (by have z:=(HM.out.kept kb);rw[hpa] at z;exact z)) (by have:=hq1.out;simp;omega) kb.size ?_
      intro v' W' o' gr _
      rw[List.nil_append] at o'
      obtain⟨s,es'⟩:=slM o'
      subst es'
      have kb2:Below W0.heap.size W0 W':=kb.trans (Mm.grown_below og gr (Nat.le_refl _) kb.size)
      refine hK _ _ ?_
      exact⟨_,_,_,_,_,_,_,_,_,_,_,_,_,_,_,_,_,_,_,rfl,⟨(fun _=>kb2),R.s3,(fun a c=>by obtain⟨g',e',om⟩:=R.E0 a c;exact⟨g',e',row_grown om og gr (own_apart om og (by decide))⟩),(fun a c=>by obtain⟨g',e',om⟩:=R.E1 a c;exact⟨g',e',row_grown om og gr (own_apart om og (by decide))⟩),(fun _ q=>by cases q),(fun _ _=>⟨s,rfl,o'⟩),(fun q=>by have q2:Lb 16=true:=q;rw[h16] at q2;cases q2),(fun q=>by have q2:Lb 17=true:=q;rw[h17] at q2;cases q2),R.d7,(fun _=>⟨hD 8 (by kernel_rfl),hD 13 (by kernel_rfl),hD 7 (by kernel_rfl)⟩),(fun q=>⟨(R.d15 q).1,rfl⟩),R.d16,(fun q=>⟨(R.d17 q).1,(R.d17 q).2.1,rfl⟩),R.d18,R.k0,R.k2,R.k3,R.k4,R.k5,R.k6,R.k9,R.k10,R.k11,R.k12,(fun _=>by rw[hpa]),(fun q=>by have q2:Lb 15=true:=q;rw[h15] at q2;cases q2),R.k18⟩⟩
    ·
     skip
     have h17:=R.behind (.inr (.inr (.inr (.inr (.inr (.inr (.inl hL)))))))
     obtain⟨s,es,_⟩:=R.E1 (hD 7 (by kernel_rfl)) h17
     obtain⟨t,et,_⟩:=R.M1 (hD 14 (by kernel_rfl)) h17
     obtain⟨s0,s1,s2⟩:=s
     obtain⟨t0,t1,t2⟩:=t
     simp only[sv] at es et
     subst es et
     refine op_at rfl (fun K hK=>?_)
     go_simp
     refine hK _ _ ?_
     exact⟨_,_,_,_,_,_,_,_,_,_,_,_,_,_,_,_,_,_,_,rfl,⟨R.low,R.s3,R.E0,R.E1,R.M0,R.M1,R.P16,R.fin,R.d7,R.d14,(fun _=>⟨hD 7 (by kernel_rfl),hD 14 (by kernel_rfl)⟩),(fun _=>rfl),R.d17,R.d18,R.k0,R.k2,R.k3,R.k4,R.k5,R.k6,R.k9,R.k10,R.k11,R.k12,R.k13,(fun _=>rfl),R.k18⟩⟩
    ·
     skip
     have h17:=R.behind (.inr (.inr (.inr (.inr (.inr (.inr (.inr hL)))))))
     have e15:=R.k15 (hD 15 (by kernel_rfl))
     have d15:=R.d15 (hD 15 (by kernel_rfl))
     obtain⟨s,es,_⟩:=R.E1 d15.1 h17
     obtain⟨t,et,_⟩:=R.M1 d15.2 h17
     obtain⟨s0,s1,s2⟩:=s
     obtain⟨t0,t1,t2⟩:=t
     simp only[sv] at es et
     subst es et e15
     have R:=R.kept h17 ((Below.refl W.heap.size W).alloc (Nat.le_refl _) (.cells #[.slice s0 s1 s2,.slice t0 t1 t2] 32))
     refine op_at rfl (fun K hK=>?_)
     go_simp
     refine hK _ _ ?_
     exact⟨_,_,_,_,_,_,_,_,_,_,_,_,_,_,_,_,_,_,_,rfl,⟨R.low,R.s3,R.E0,R.E1,R.M0,R.M1,(fun _ _=>⟨W.heap.size,(s0,s1,s2),(t0,t1,t2),rfl,rfl,rfl,rd_two W s0 t0 s1 s2 t1 t2⟩),R.fin,R.d7,R.d14,R.d15,(fun _=>hD 15 (by kernel_rfl)),(fun q=>⟨(R.d17 q).1,rfl,(R.d17 q).2.2⟩),R.d18,R.k0,R.k2,R.k3,R.k4,R.k5,R.k6,R.k9,R.k10,R.k11,R.k12,R.k13,R.k15,R.k18⟩⟩
    ·
     skip
     have kb:=R.low hL
     have e0:=R.k0 (hD 0 (by kernel_rfl))
     subst e0
     obtain⟨g,s,t,e28,e19,e26,rg⟩:=R.P16 (hD 16 (by kernel_rfl)) hL
     have d15:=R.d15 (R.d16 (hD 16 (by kernel_rfl)))
     obtain⟨s',es',oE⟩:=R.E1 d15.1 hL
     obtain⟨t',et',oM⟩:=R.M1 d15.2 hL
     rw[es'] at e19
     rw[et'] at e26
     rw[sv_inj e19] at oE
     rw[sv_inj e26] at oM
     subst e28
     have hO:=HOC.out.kept kb
     refine op_at rfl (fun K hK=>?_)
     refine Vv.step_append rfl (.tmp 12) (.tmp 28) rfl w.heap.size (.slice (some ⟨go,0,none⟩) mm co) C [(s,t)] (by simp[Act.eval]) hO.row ⟨g,0,none⟩ 1 1 rfl (by simp[Act.eval]) rg.cells (by have:=hO.len;have:=HMM.out;have:=HMI.out;simp;omega) (Nat.le_trans HBx.out.size kb.size) ?_
     intro v' W' o' gr _
     have hM:=hO.more o' gr oE oM (Nat.le_refl _)
     have kl:Below w.heap.size W0 W':=(kb.mono HBx.out.size).trans (Vv.grown_below hO.row gr (Nat.le_refl _) (Nat.le_trans HBx.out.size kb.size))
     refine hK _ _ ?_
     have h18:Lb 18=false:=by
      cases q:Lb 18 with
      | false=>rfl
      | true=>have z:=R.d18 q;rw[hL] at z;cases z
     exact⟨_,_,_,_,_,_,_,_,_,_,_,_,_,_,_,_,_,_,_,rfl,⟨(fun q=>by cases q),R.s3,(fun _ q=>by have q2:Lb 7=false:=q;rw[d15.1] at q2;cases q2),(fun _ q=>by cases q),(fun _ q=>by have q2:Lb 14=false:=q;rw[d15.2] at q2;cases q2),(fun _ q=>by cases q),(fun _ q=>by cases q),(fun _=>⟨_,hM,kl⟩),R.d7,R.d14,R.d15,R.d16,(fun _=>⟨hD 0 (by kernel_rfl),hD 16 (by kernel_rfl),hD 14 (by kernel_rfl)⟩),(fun _=>rfl),R.k0,R.k2,R.k3,R.k4,R.k5,R.k6,R.k9,R.k10,R.k11,R.k12,R.k13,R.k15,(fun q=>by have q2:Lb 18=true:=q;rw[h18] at q2;cases q2)⟩⟩
    ·
     skip
     refine op_at rfl (fun K hK=>?_)
     go_simp
     refine hK _ _ ?_
     exact⟨_,_,_,_,_,_,_,_,_,_,_,_,_,_,_,_,_,_,_,rfl,⟨R.low,(fun q=>by cases q),R.E0,R.E1,R.M0,R.M1,R.P16,R.fin,R.d7,R.d14,R.d15,R.d16,R.d17,(fun _=>hD 17 (by kernel_rfl)),R.k0,R.k2,R.k3,R.k4,R.k5,R.k6,R.k9,R.k10,R.k11,R.k12,R.k13,R.k15,(fun _=>rfl)⟩⟩
   case refine_2 =>
    intro Lb a' W hI hall
    obtain⟨u3,u12,u13,u14,u15,u16,u17,u18,u19,u20,u21,u22,u23,u24,u25,u26,u27,u28,u29,rfl,R⟩:=hI
    obtain⟨C',hF,hLo⟩:=R.fin (hall 17)
    have e18:=R.k18 (hall 18)
    subst e18
    clear R hall
    have hlen:(M++[rat L i]).length=mm+1:=by rw[List.length_append,HMM.out];rfl
    have hOw:Own W w.heap.size W.heap.size _ (M++[rat L i]):=⟨C',hF⟩
    obtain⟨za,zc,ez,_,_,hzn⟩:=hOw.formN hlen
    subst ez
    obtain⟨zg,zo,ez⟩:=hOw.rd.addr (by rw[hlen];omega)
    subst ez
    have hz0:zo=0:=by
     obtain⟨a',c',e',_,_,_,_,hs⟩:=hF.row.form
     obtain⟨g',eg,_⟩:=hs _ (Value.slice.inj e').1.symm
     cases eg
     rfl
    subst hz0
    have HOw:=hidIt hOw
    have HLo:=hidIt (HBx.out.trans hLo)
    clear hOw hF hLo
    go_wp2_with (fail)
    exact⟨⟨i+1,zg,mm+1,zc,M++[rat L i],by simp,rfl,by omega,hidIt hlen,hidIt (by have:=HMI.out;omega),hidIt (by rw[HTK.out,HME.out]),HOw,HLo⟩,by simp[intOf];omega⟩
  ·
   have hin':¬ (i:Int)<(m:Int):=by omega
   have hmi:=HMI.out
   subst hmi
   obtain rfl:mm=m:=by omega
   have eM:M=L:=by rw[HME.out,<- HN.out,List.take_length]
   subst eM
   go_wp2_with (fail)
   go_ret
   exact LstP.of rfl HO.out HBx.out
end Go.Proofs.YtkeapmmochpcfaaGreat.Rp
namespace Go.Proofs.YtkeapmmochpcfaaGreat.Rp
open Go.ChangeShapes Go.WideShapes Go.ChangeAt Go.RowKit
open Vv (Sl sv hidIt)
def svals (S:Nat->Sl) (n:Nat):List Value:=(List.range n).map (fun i=>sv (S i))
theorem svals_at {S:Nat->Sl} {n i:Nat} (h:i<n):(svals S n)[i]?=some (sv (S i)):=by simp[svals,h]
theorem svals_push (S:Nat->Sl) (n:Nat) (s:Sl):svals (Hq.upd S n s) (n+1)=svals S n++[sv s]:=by
 unfold svals
 rw[List.range_succ,List.map_append]
 congr 1
 ·
  refine List.map_congr_left (fun i hi=>?_)
  rw[Hq.upd_ne (by have:=List.mem_range.1 hi;omega)]
 ·
  simp[Hq.upd_at]
def KtS (w wx:World) (L:List Rep) (i:Nat) (v:Value):Prop:=∃ S:Nat->Sl,wx.ownsRow w.heap.size 29 1 v i (svals S i)∧(∀ j,j<i->RdE w (S j) (rat L j).1)∧Below w.heap.size w wx
theorem keys_len {L:List Rep} {n:Nat} {x:Nat->En.Rt} {J:List En.Rw} (hT:Tame L) (r:En.Ra (fun i=>(rat L i).1) L.length n x) (hJ:Bk.Ris (En.toB J)) (hk:∀ k,(∃ i,i<n∧∃ e∈En.toB (x i).L,e.key=k)↔∃ e∈En.toB J,e.key=k):J.length=(Bk.whole (bks L)).length:=by
 have h1:=Bk.same_len hJ (Bk.whole_ris hT.bris) (fun k=>by
  rw[<- hk k,Bk.whole_keys hT.bris]
  constructor
  ·
   rintro⟨i,hi,e,he,q⟩
   obtain⟨j,hj,ej⟩:=r.from' i hi
   rw[ej] at he
   exact⟨_,List.mem_map.2 ⟨rat L j,rat_mem hj,rfl⟩,e,he,q⟩
  ·
   rintro⟨b,hb,e,he,q⟩
   obtain⟨y,hy,rfl⟩:=List.mem_map.1 hb
   obtain⟨j,hj,rfl⟩:=List.mem_iff_getElem.1 hy
   rw[<- rat_at hj] at he
   obtain⟨i,hi,ei⟩:=r.to' j hj (by intro z;rw[z] at he;simp at he)
   exact⟨i,hi,e,by rw[ei];exact he,q⟩)
 rw[En.toB_length] at h1
 exact h1
theorem tot_tame {L:List Rep} (hT:Tame L):Hq.tot List.length (fun i=>(rat L i).1) L.length<=480:=by
 have:=Hq.tot_le List.length (x:=fun i=>(rat L i).1) (m:=80) (n:=L.length) (fun i hi=>hT.bl i hi)
 have:=hT.n
 omega
theorem impl_keysTogether (a:Option Addr) (cap:Nat) (L:List Rep) (w:World) (h:Rd w a L) (hT:Tame L) (h1:1<=L.length) :
  Calls Tryz.prog 34 #[.slice a L.length cap] w fun e w'=>e=.returned (.int .i64 ((Bk.whole (bks L)).length:Int))∧Below w.heap.size w w':=by
 obtain⟨i0,hi0,hz0,hz1,hz2⟩:=info_parts En.infoSl
 have HR:=hidIt h
 have hm6:=hT.n
 have HFin:Hid (∀ W c q (S:Nat->Sl),W.ownsRow w.heap.size 29 1 (.slice (some ⟨q,0,none⟩) L.length c) L.length (svals S L.length)->(∀ j,j<L.length->RdE W (S j) (rat L j).1)->Calls Tryz.prog 40 #[.slice (some ⟨q,0,none⟩) L.length c] W fun e w'=>e=.returned (.pointer (some ⟨W.heap.size+1,0,none⟩))∧En.RoS W w' (fun i=>(rat L i).1) L.length):=hidIt (fun W c q S ho hr=>En.impl_restsOfN (S:=S) ⟨fun i hi=>by rw[World.ownsRow.cellAt ho i (by omega)];exact svals_at hi,fun i hi=>(hr i hi).len,fun i hi=>(hr i hi).rd,fun i hi=>(hr i hi).le⟩ (by omega) (World.ownsRow.lt ho q rfl).2)
 have HNew:Hid (∀ W W',En.RoS W W' (fun i=>(rat L i).1) L.length->Calls Tryz.prog 39 #[.pointer (some ⟨W.heap.size+1,0,none⟩)] W' fun e w'=>(∃ za zc,e=.returned (.slice za (Bk.whole (bks L)).length zc))∧Below W.heap.size W w'):=hidIt (fun W W' hr=>by
  obtain⟨n,x,⟨g,cp,s⟩,ok,r,b⟩:=hr
  have hris:∀ i,i<n->Bk.Ris (En.toB (x i).L):=fun i hi=>by
   obtain⟨j,hj,ej⟩:=r.from' i hi
   rw[ej]
   exact hT.br j hj
  have htot:Hq.tot List.length (fun i=>En.toB (x i).L) n<=480:=by
   have e1:=En.tot_map List.length (fun q:En.Rt=>En.toB q.L) x n
   rw[e1]
   simp only[En.toB_length]
   rw[r.sum]
   exact tot_tame hT
  refine (En.impl_newestN s ok (by have:=r.le;omega) hris htot (by omega)).mono ?_
  rintro e w2 ⟨v,J,rfl,o,rJ,kJ,_,k2⟩
  obtain⟨za,zc,ez,_⟩:=o.form
  rw[keys_len hT r rJ kJ] at ez
  exact⟨⟨za,zc,by rw[ez]⟩,b.trans k2⟩)
 generalize ((Bk.whole (bks L)).length)=ans at HNew ⊢
 clear h hT
 generalize hn:L.length=m at *
 have HN:=hidIt hn
 clear hn
 go_enter Tryz.func34,Tryz.ntmps34
 go_wp2_with (fail)
 go_loopw [3,9] (fun v y wx=>∃ (i:Nat) (va:Option Addr) (vn vc:Nat),y=.int .i64 i∧v=.slice va vn vc∧i<=m∧Hid (KtS w wx L i (.slice va vn vc))) (fun _ y _=>(m - intOf y).toNat)
 case atStart=>exact⟨0,_,_,_,rfl,rfl,by omega,hidIt ⟨fun _=>(none,0,0),World.ownsRow_made w #[] 0 (Nat.le_refl _) (by decide) rfl,fun j hj=>absurd hj (by omega),(Below.refl _ w).alloc (Nat.le_refl _) _⟩⟩
 case round =>
  obtain⟨i,va,vn,vc,rfl,rfl,hi,HS⟩:=hrel
  by_cases hin:i<m
  ·
   have hin':(i:Int)<(m:Int):=by omega
   have hiL:i<L.length:=by rw[HN.out];exact hin
   obtain⟨S,ho,hr,hb⟩:=HS.out
   obtain⟨b,off,p,q,ea,c0',c1',rE,rM⟩:=HR.out.one (i:=i) hiL
   subst ea
   have hbw:b<w.heap.size:=World.block_lt_of_cell? _ _ c0'
   have c0:=(hb.cell (p:=⟨b,off+i*2,none⟩) hbw).trans c0'
   have c1:=(hb.cell (p:=⟨b,off+i*2+1,none⟩) hbw).trans c1'
   have hbr:b<wr.heap.size:=Nat.lt_of_lt_of_le hbw hb.size
   clear c0' c1'
   have HO:=hidIt ho
   have HRr:=hidIt hr
   have HB:=hidIt hb
   have HE:=hidIt rE
   obtain⟨p0,p1,p2⟩:=p
   obtain⟨q0,q1,q2⟩:=q
   simp only[sv] at c0 c1
   clear HS ho hr hb rE rM
   have HA1:=hidIt (((Below.refl wr.heap.size wr).alloc (Nat.le_refl _) (.cells #[.slice p0 p1 p2,.slice q0 q1 q2] 32)).alloc (by simp) (.cells #[.slice p0 p1 p2] 29))
   have HOw:Hid (((wr.alloc (.cells #[.slice p0 p1 p2,.slice q0 q1 q2] 32)).alloc (.cells #[.slice p0 p1 p2] 29)).ownsRow w.heap.size 29 1 (.slice va vn vc) i (svals S i)):=hidIt (World.ownsRow.alloc (World.ownsRow.alloc HO.out _) _)
   go_wp2_with (first | (at_builtin;refine wpList_append_own _ rfl _ _ 90 rfl w.heap.size 29 i0 (.slice none 0 0) 1 24 Tryz.underlying90 hi0 hz0 hz1 hz2 rfl (by decide) _ _ _ rfl HOw.out ⟨wr.heap.size+1,0,none⟩ 1 1 [.slice p0 p1 p2] rfl rfl ?f1 ?f2 ?f3 ?f4 ?f5 ?_))
   case f1=>intro j u hj;match j,hj with | 0,hj=>simp at hj;subst hj;simp[Addr.add]
   case f2=>intro u hu;simp at hu;subst hu;rfl
   case f3=>unfold maxLen;omega
   case f4=>omega
   case f5=>have:=HB.out.size;simp;omega
   intro v' w9 hown hgrow _
   have HS9:Hid (KtS w w9 L (i+1) v'):=hidIt (by
    have hsz:=HB.out.size
    have k9:Below w.heap.size wr w9:=(HA1.out.mono hsz).grown hgrow (by simp;omega) (fun k hk=>(World.ownsRow.lt HO.out k hk).1)
    refine⟨Hq.upd S i (p0,p1,p2),by rw[svals_push];exact hown,fun j hj=>?_,HB.out.trans k9⟩
    by_cases e:j=i
    ·
     subst e
     rw[Hq.upd_at]
     exact HE.out
    ·
     rw[Hq.upd_ne e]
     exact HRr.out j (by omega))
   obtain⟨za,zn,zc,ez⟩:∃ a n c,v'=.slice a n c:=by
    rcases hown.2 with ⟨e,_⟩ | ⟨g,cap,cur,e,_⟩
    ·
     exact⟨_,_,_,e⟩
    ·
     exact⟨_,_,_,e⟩
   subst ez
   clear hown hgrow
   go_wp2_with (fail)
   exact⟨⟨i+1,za,zn,zc,by first | rfl | simp,rfl,by omega,HS9⟩,by simp[intOf];omega⟩
  ·
   obtain rfl:i=m:=by omega
   obtain⟨S,ho,hr,hb⟩:=HS.out
   obtain⟨q,c,es⟩:∃ q c,Value.slice va vn vc=.slice (some ⟨q,0,none⟩) i c:=by
    rcases ho.2 with ⟨_,e⟩ | ⟨g,cap,cur,e,_⟩
    ·
     omega
    ·
     exact⟨_,_,e⟩
   cases es
   have HC:=hidIt (HFin.out _ _ q S ho (fun j hj=>(hr j hj).kept hb))
   have HB:=hidIt hb
   clear ho hr hb HS
   go_wp2_with (fail)
   refine HC.out.mono ?_
   rintro e w2 ⟨rfl,r2⟩
   have HC2:=hidIt (HNew.out _ _ r2)
   clear r2
   go_wp2_with (fail)
   refine HC2.out.mono ?_
   rintro e w3 ⟨⟨za,zc,rfl⟩,k3⟩
   have HB3:=hidIt (on HB.out k3)
   clear k3
   go_wp2_with (fail)
   go_ret
   exact⟨rfl,HB3.out⟩
theorem impl_GroupOk (a:Option Addr) (cap:Nat) (L:List Rep) (w:World) (h:Rd w a L) (hs:Short L) (hl:L.length<=9223372036854775807) (hlb:∀ i,i<L.length->(rat L i).1.length<=9223372036854775807∧(rat L i).2.length<=9223372036854775807) :
  Calls Tryz.prog 11 #[.slice a L.length cap] w fun e w'=>e=.returned (.bool (okG L))∧Below w.heap.size w w':=by
 have N1:Hid (¬ 1<=L.length->okG L=false):=hidIt (fun q=>by cases e:okG L with | false=>rfl | true=>exact absurd (okG_all e).1 q)
 have N2:Hid (¬ L.length<=6->okG L=false):=hidIt (fun q=>by cases e:okG L with | false=>rfl | true=>exact absurd (okG_all e).2.1 q)
 have N3:Hid (∀ i,i<L.length->okR (rat L i)=false->okG L=false):=hidIt (fun i hi q=>by cases e:okG L with | false=>rfl | true=>exact absurd ((okG_all e).2.2.1 i hi) (by rw[q];decide))
 have N4:Hid (1<=L.length->L.length<=6->(∀ i,i<L.length->okR (rat L i)=true)->okG L=decide ((Bk.whole (bks L)).length<=80)):=hidIt (fun h1 h2 h3=>by
  by_cases q:(Bk.whole (bks L)).length<=80
  ·
   rw[okG_mk h1 h2 h3 q,decide_eq_true q]
  ·
   rw[decide_eq_false q]
   cases e:okG L with
   | false=>rfl
   | true=>exact absurd (okG_all e).2.2.2 q)
 have CW:=hidIt (fun W (r:Rd W a L) (t:Tame L) h1=>impl_keysTogether a cap L W r t h1)
 have HTM:=hidIt (fun h2 h3=>tame_of (L:=L) h2 h3)
 have CR:=hidIt (fun W s t i (hi:i<L.length) (hE:RdE W s (rat L i).1) (hM:RdM W t (rat L i).2)=>impl_replicaOk s t (rat L i) W hE hM (hs i hi) (hlb i hi).1 (hlb i hi).2)
 have HR:=hidIt h
 clear h hs hlb
 generalize okG L=r at N1 N2 N3 N4 ⊢
 generalize (Bk.whole (bks L)).length=ans at CW N4
 generalize hn:L.length=m at *
 have HN:=hidIt hn
 clear hn
 by_cases h1:1<=m
 ·
  by_cases h6:m<=6
  ·
   have g1:¬ (m:Int)<1:=by omega
   have g1':decide ((m:Int)<1)=false:=decide_eq_false g1
   have g2:decide ((6:Int)<(m:Int))=false:=decide_eq_false (by omega)
   go_enter Tryz.func11,Tryz.ntmps11
   go_wp2_with (fail)
   go_loopw [15] (fun y wx=>∃ i:Nat,y=.int .i64 i∧i<=m∧Hid (∀ j,j<i->okR (rat L j)=true)∧Hid (Below w.heap.size w wx)) (fun y _=>(m - intOf y).toNat)
   case atStart=>exact⟨0,rfl,by omega,hidIt (fun j hj=>by omega),hidIt (Below.refl _ _)⟩
   case round =>
    obtain⟨i,rfl,hi,HO,HB⟩:=hrel
    by_cases hin:i<m
    ·
     have hin':(i:Int)<(m:Int):=by omega
     have hiL:i<L.length:=by rw[HN.out];exact hin
     obtain⟨b,off,p,q,ea,c0,c1,rE,rM⟩:=(HR.out.kept HB.out).one (i:=i) hiL
     subst ea
     have hbw:b<wr.heap.size:=World.block_lt_of_cell? _ _ c0
     have HA:=hidIt ((Below.refl wr.heap.size wr).alloc (Nat.le_refl _) (.cells #[sv p,sv q] 32))
     have C1:=hidIt (CR.out _ p q i hin (rE.kept HA.out) (rM.kept HA.out))
     obtain⟨k,HOK⟩:∃ k,Hid (okR (rat L i)=k):=⟨_,hidIt rfl⟩
     rw[HOK.out] at C1
     obtain⟨p0,p1,p2⟩:=p
     obtain⟨q0,q1,q2⟩:=q
     simp only[sv] at c0 c1 C1 HA
     clear rE rM
     cases k with
     | false =>
      have er:=N3.out i hin HOK.out
      subst er
      go_wp2_with (fail)
      refine C1.out.mono ?_
      rintro e w1 ⟨rfl,k⟩
      have HB1:=hidIt (on (on HB.out HA.out) k)
      clear k
      go_wp2_with (fail)
      go_ret
      exact⟨rfl,HB1.out⟩
     | true =>
      go_wp2_with (fail)
      refine C1.out.mono ?_
      rintro e w1 ⟨rfl,k⟩
      have HB1:=hidIt (on (on HB.out HA.out) k)
      clear k
      go_wp2_with (fail)
      refine⟨⟨i+1,by simp,by omega,hidIt (fun j hj=>?_),HB1⟩,by simp[intOf];omega⟩
      rcases Nat.lt_succ_iff_lt_or_eq.1 hj with q | q
      ·
       exact HO.out j q
      ·
       subst q;exact HOK.out
    ·
     have hin':¬ (i:Int)<(m:Int):=by omega
     obtain rfl:i=m:=by omega
     have er:=N4.out h1 h6 HO.out
     have HT:=hidIt (HTM.out h6 HO.out)
     go_wp2_with (fail)
     refine (CW.out _ (HR.out.kept HB.out) HT.out h1).mono ?_
     rintro e w1 ⟨rfl,k⟩
     have HB1:=hidIt (on HB.out k)
     clear k
     subst er
     have hd:decide ((ans:Int)<=80)=decide (ans<=80):=decide_eq_decide.2 (by omega)
     go_wp2_with (fail)
     go_ret
     first | exact⟨rfl,HB1.out⟩ | exact⟨by rw[hd],HB1.out⟩
  ·
   have g1':decide ((m:Int)<1)=false:=decide_eq_false (by omega)
   have g2:decide ((6:Int)<(m:Int))=true:=decide_eq_true (by omega)
   have er:=N2.out h6
   subst er
   go_enter Tryz.func11,Tryz.ntmps11
   go_wp2
   go_ret
   exact⟨rfl,Below.refl _ _⟩
 ·
  have g1':decide ((m:Int)<1)=true:=decide_eq_true (by omega)
  have er:=N1.out h1
  subst er
  go_enter Tryz.func11,Tryz.ntmps11
  go_wp2
  go_ret
  exact⟨rfl,Below.refl _ _⟩
end Go.Proofs.YtkeapmmochpcfaaGreat.Rp
namespace Go.Proofs.YtkeapmmochpcfaaGreat.Rp
open Go.ChangeShapes Go.WideShapes Go.ChangeAt Go.RowKit
open Vv (Sl sv hidIt)
open Rg (upd waits wp_region_inv op_at)
def FinO (d o p1 p2 q1 q2 N:Nat) (pa qa:Option Addr) (r:Rep) (w0:World) (W:World):Prop:=∃ (V:World) (s t:Sl),W=(V.setCell ⟨o,0,none⟩ (sv s)).setCell ⟨o,1,none⟩ (sv t)∧En.Own V N (sv s) r.1∧Mm.Own V N (sv t) r.2∧Below w0.heap.size w0 V
structure RKo (d o p1 p2 q1 q2 N:Nat) (pa qa:Option Addr) (r:Rep) (w0:World) (L:Nat->Bool) (u3 u4 u5 u6 u7 u8 u9 u10:Value) (W:World):Prop where
 low:L 8=false->Below w0.heap.size w0 W
 E0:L 0=true->L 3=false->∃ g,u3=.slice (some ⟨g,0,none⟩) 0 0∧En.Own W N (.slice (some ⟨g,0,none⟩) 0 0) []
 E1:L 3=true->L 8=false->∃ s:Sl,u6=sv s∧En.Own W N (sv s) r.1
 M1:L 6=true->L 8=false->∃ s:Sl,u9=sv s∧Mm.Own W N (sv s) r.2
 fin:L 8=true->FinO d o p1 p2 q1 q2 N pa qa r w0 W
 d3:L 3=true->L 0=true∧L 2=true
 d6:L 6=true->L 5=true∧L 3=true
 d7:L 7=true->L 3=true∧L 6=true
 d8:L 8=true->L 7=true
 k1:L 1=true->u4=.pointer (some ⟨d,0,none⟩)
 k2:L 2=true->u5=.slice pa p1 p2
 k4:L 4=true->u7=.pointer (some ⟨d,1,none⟩)
 k5:L 5=true->u8=.slice qa q1 q2
 k7:L 7=true->u10=.agg #[u6,u9]
def KKo (d o p1 p2 q1 q2 N:Nat) (pa qa:Option Addr) (r:Rep) (w0:World) (y0 y1 y2:Value) (L:Nat->Bool) (a:Act) (W:World):Prop:=∃ u3 u4 u5 u6 u7 u8 u9 u10:Value,a=⟨(y0::y1::y2::u3::u4::u5::u6::u7::u8::u9::u10::[]).toArray,[]⟩∧RKo d o p1 p2 q1 q2 N pa qa r w0 L u3 u4 u5 u6 u7 u8 u9 u10 W
theorem RKo.kept {d o p1 p2 q1 q2 N:Nat} {pa qa:Option Addr} {r:Rep} {w0:World} {L:Nat->Bool} {u3 u4 u5 u6 u7 u8 u9 u10:Value} {W W':World} (R:RKo d o p1 p2 q1 q2 N pa qa r w0 L u3 u4 u5 u6 u7 u8 u9 u10 W) (h8:L 8=false) (k:Below W.heap.size W W'):RKo d o p1 p2 q1 q2 N pa qa r w0 L u3 u4 u5 u6 u7 u8 u9 u10 W' :=
 ⟨(fun _=>on (R.low h8) k),(fun a b=>by obtain⟨g,e,o⟩:=R.E0 a b;exact⟨g,e,o.kept k⟩),(fun a b=>by obtain⟨s,e,o⟩:=R.E1 a b;exact⟨s,e,o.kept k⟩),(fun a b=>by obtain⟨s,e,o⟩:=R.M1 a b;exact⟨s,e,o.kept k⟩),(fun q=>by rw[h8] at q;cases q),R.d3,R.d6,R.d7,R.d8,R.k1,R.k2,R.k4,R.k5,R.k7⟩
theorem RKo.behind {d o p1 p2 q1 q2 N:Nat} {pa qa:Option Addr} {r:Rep} {w0:World} {L:Nat->Bool} {u3 u4 u5 u6 u7 u8 u9 u10:Value} {W:World} (R:RKo d o p1 p2 q1 q2 N pa qa r w0 L u3 u4 u5 u6 u7 u8 u9 u10 W) (h:L 0=false∨L 2=false∨L 3=false∨L 5=false∨L 6=false∨L 7=false):L 8=false:=by
 cases q:L 8 with
 | false=>rfl
 | true =>
  have h7:=R.d8 q
  have h6:=R.d7 h7
  have h5:=R.d6 h6.2
  have h3:=R.d3 h6.1
  simp[h7,h6.1,h6.2,h5.1,h3.1,h3.2] at h
theorem row_low {w w':World} {o b e s n:Nat} {v:Value} {xs:List Value} (h:w.ownsRow b e s v n xs) (ho:o<b) (k:Only o w w'):w'.ownsRow b e s v n xs:=by
 refine row_in (lo:=o) (hi:=o+1) h (OnlyIn.of_only k (.inr ⟨Nat.le_refl _,Nat.lt_succ_self _⟩)) ?_
 intro g hg hq
 rcases h.2 with ⟨e1,_⟩ | ⟨x,cap,cur,e1,hb,_,_⟩
 ·
  rw[e1] at hg;cases hg
 ·
  rw[e1] at hg
  obtain rfl:x=g:=Option.some.inj hg
  omega
def CpyP (w:World) (r:Rep) (e:Ending) (w':World):Prop:=∃ s t:Sl,e=.returned (.agg #[sv s,sv t])∧En.Own w' w.heap.size (sv s) r.1∧Mm.Own w' w.heap.size (sv t) r.2∧Below w.heap.size w w'
theorem CpyP.of {w w':World} {r:Rep} {e:Ending} {s t:Sl} (h:e=.returned (.agg #[sv s,sv t])) (h1:En.Own w' w.heap.size (sv s) r.1) (h2:Mm.Own w' w.heap.size (sv t) r.2) (h3:Below w.heap.size w w'):CpyP w r e w':=⟨s,t,h,h1,h2,h3⟩
theorem CpyP.out {w w':World} {r:Rep} {e:Ending} (h:CpyP w r e w'):∃ s t:Sl,e=.returned (.agg #[sv s,sv t])∧En.Own w' w.heap.size (sv s) r.1∧Mm.Own w' w.heap.size (sv t) r.2∧Below w.heap.size w w':=h
theorem impl_copiedReplica (p q:Sl) (r:Rep) (w:World) (hE:RdE w p r.1) (hM:RdM w q r.2) (hb:r.1.length<=80) (hm:r.2.length<=8) :
  Calls Tryz.prog 55 #[.agg #[sv p,sv q]] w fun e w'=>CpyP w r e w':=by
 obtain⟨p0,p1,p2⟩:=p
 obtain⟨q0,q1,q2⟩:=q
 have kA:=(((Below.refl w.heap.size w).alloc (Nat.le_refl _) (.cells #[.slice p0 p1 p2,.slice q0 q1 q2] 32)).alloc (o:=.cells #[.slice none 0 0,.slice none 0 0] 32) (by simp)).drew
 have bxD:=((Bo.Box.new w #[.slice p0 p1 p2,.slice q0 q1 q2] 32).alloc (.cells #[.slice none 0 0,.slice none 0 0] 32)).drew
 have bxO:Bo.Box ((w.alloc (.cells #[.slice p0 p1 p2,.slice q0 q1 q2] 32)).alloc (.cells #[.slice none 0 0,.slice none 0 0] 32)).drew (w.heap.size+1) #[.slice none 0 0,.slice none 0 0]:=(Bo.Box.newAt (by simp)).drew
 obtain⟨e1,r1,n1,_,_⟩:=hE.kept kA
 obtain⟨e2,r2,n2,l2,c2⟩:=hM.kept kA
 simp only at e1 r1 n1 e2 r2 n2 l2 c2
 have hp1:=hidIt e1
 have np:=hidIt n1
 have HE:=hidIt r1
 have HC:=hidIt (fun W (k:Below ((w.alloc (.cells #[.slice p0 p1 p2,.slice q0 q1 q2] 32)).alloc (.cells #[.slice none 0 0,.slice none 0 0] 32)).drew.heap.size ((w.alloc (.cells #[.slice p0 p1 p2,.slice q0 q1 q2] 32)).alloc (.cells #[.slice none 0 0,.slice none 0 0] 32)).drew W)=>Mm.impl_copied q0 q2 r.2 W (r2.kept k) n2 (by omega))
 rw[<- e2] at HC
 have c0:((w.alloc (.cells #[.slice p0 p1 p2,.slice q0 q1 q2] 32)).alloc (.cells #[.slice none 0 0,.slice none 0 0] 32)).drew.cell? ⟨w.heap.size,0,none⟩=some (.slice p0 p1 p2):=bxD.c 0 rfl
 have c1:((w.alloc (.cells #[.slice p0 p1 p2,.slice q0 q1 q2] 32)).alloc (.cells #[.slice none 0 0,.slice none 0 0] 32)).drew.cell? ⟨w.heap.size,1,none⟩=some (.slice q0 q1 q2):=bxD.c 1 rfl
 have hbw:w.heap.size<((w.alloc (.cells #[.slice p0 p1 p2,.slice q0 q1 q2] 32)).alloc (.cells #[.slice none 0 0,.slice none 0 0] 32)).drew.heap.size:=bxD.lt
 have how:w.heap.size+1<((w.alloc (.cells #[.slice p0 p1 p2,.slice q0 q1 q2] 32)).alloc (.cells #[.slice none 0 0,.slice none 0 0] 32)).drew.heap.size:=bxO.lt
 have BO:=hidIt bxO
 have HB:=hidIt kA
 clear kA bxD bxO r1 r2 e1 e2 n1 n2 l2 c2 hE hM
 obtain⟨W0,hW0⟩:∃ W0,W0=((w.alloc (.cells #[.slice p0 p1 p2,.slice q0 q1 q2] 32)).alloc (.cells #[.slice none 0 0,.slice none 0 0] 32)).drew:=⟨_,rfl⟩
 rw[<- hW0] at c0 c1 HE HC HB hbw how BO
 go_enter Tryz.func55,Tryz.ntmps55
 simp only[sv]
 go_wp2_with (fail)
 refine wp_region_inv (by kernel_rfl) (by kernel_rfl) (KKo w.heap.size (w.heap.size+1) p1 p2 q1 q2 W0.heap.size p0 q0 r W0 _ _ _) ⟨_,_,_,_,_,_,_,_,(by rw[<- hW0];exact⟨rfl,⟨(fun _=>(Below.refl _ _)),(fun q=>by cases q),(fun q=>by cases q),(fun q=>by cases q),(fun q=>by cases q),(fun q=>by cases q),(fun q=>by cases q),(fun q=>by cases q),(fun q=>by cases q),(fun q=>by cases q),(fun q=>by cases q),(fun q=>by cases q),(fun q=>by cases q),(fun q=>by cases q)⟩⟩)⟩ ?_ ?_
 case refine_1 =>
  intro Lb a' W j hj hI hL hD
  have hcases:j=0∨j=1∨j=2∨j=3∨j=4∨j=5∨j=6∨j=7∨j=8:=by simp at hj;omega
  clear hj
  obtain⟨u3,u4,u5,u6,u7,u8,u9,u10,rfl,R⟩:=hI
  rcases hcases with rfl | rfl | rfl | rfl | rfl | rfl | rfl | rfl | rfl
  ·
   skip
   have h8:=R.behind (.inl hL)
   have kb:=R.low h8
   have R:=R.kept h8 ((Below.refl W.heap.size W).alloc (Nat.le_refl _) (.cells #[] 60))
   have n3:Lb 3=false:=by
    cases q:Lb 3 with
    | false=>rfl
    | true=>have z:=(R.d3 q).1;rw[hL] at z;cases z
   refine op_at rfl (fun K hK=>?_)
   go_simp
   refine hK _ _ ?_
   exact⟨_,_,_,_,_,_,_,_,rfl,⟨R.low,(fun _ _=>⟨W.heap.size,rfl,(En.Own.new W).mono kb.size⟩),R.E1,R.M1,R.fin,(fun q=>⟨rfl,(R.d3 q).2⟩),R.d6,R.d7,R.d8,R.k1,R.k2,R.k4,R.k5,R.k7⟩⟩
  ·
   skip
   refine op_at rfl (fun K hK=>?_)
   go_simp
   refine hK _ _ ?_
   exact⟨_,_,_,_,_,_,_,_,rfl,⟨R.low,R.E0,R.E1,R.M1,R.fin,R.d3,R.d6,R.d7,R.d8,(fun _=>rfl),R.k2,R.k4,R.k5,R.k7⟩⟩
  ·
   skip
   have e1:=R.k1 (hD 1 (by kernel_rfl))
   subst e1
   have h8:=R.behind (.inr (.inl hL))
   have kb:=R.low h8
   have cc:W.cell? ⟨w.heap.size,0,none⟩=some (.slice p0 p1 p2):=by rw[kb.cell hbw];exact c0
   refine op_at rfl (fun K hK=>?_)
   go_simp
   refine hK _ _ ?_
   exact⟨_,_,_,_,_,_,_,_,rfl,⟨R.low,R.E0,R.E1,R.M1,R.fin,(fun q=>⟨(R.d3 q).1,rfl⟩),R.d6,R.d7,R.d8,R.k1,(fun _=>rfl),R.k4,R.k5,R.k7⟩⟩
  ·
   skip
   have h8:=R.behind (.inr (.inr (.inl hL)))
   have kb:=R.low h8
   obtain⟨g,eg,og⟩:=R.E0 (hD 0 (by kernel_rfl)) hL
   have es:=R.k2 (hD 2 (by kernel_rfl))
   subst eg es
   have n6:Lb 6=false:=by
    cases q:Lb 6 with
    | false=>rfl
    | true=>have z:=(R.d6 q).2;rw[hL] at z;cases z
   have n7:Lb 7=false:=by
    cases q:Lb 7 with
    | false=>rfl
    | true=>have z:=(R.d7 q).1;rw[hL] at z;cases z
   refine op_at rfl (fun K hK=>?_)
   have hpc:p0=none∨∃ x,p0=some x:=by cases p0 with | none=>exact .inl rfl | some x=>exact .inr ⟨x,rfl⟩
   rcases hpc with hpa | ⟨x,hpa⟩
   ·
    have hnil:r.1=[]:=by have z:=(HE.out.kept kb);rw[hpa] at z;exact z.none_nil
    have hz:p1=0:=by rw[hp1.out,hnil];rfl
    have hz2:p2=0:=np.out hpa
    refine En.step_append_none rfl (.tmp 3) (.tmp 5) rfl W0.heap.size (.slice (some ⟨g,0,none⟩) 0 0) [] (by simp[Act.eval]) og (by simp[Act.eval,hz,hz2,hpa]) ?_
    refine hK _ _ ?_
    exact⟨_,_,_,_,_,_,_,_,rfl,⟨R.low,(fun _ q=>by cases q),(fun _ _=>⟨(some ⟨g,0,none⟩,0,0),rfl,by rw[hnil];exact og⟩),(fun q=>by have q2:Lb 6=true:=q;exact absurd (n6.symm.trans q2) (by decide)),(fun q=>by have q2:Lb 8=true:=q;rw[h8] at q2;cases q2),(fun _=>⟨hD 0 (by kernel_rfl),hD 2 (by kernel_rfl)⟩),(fun q=>⟨(R.d6 q).1,rfl⟩),(fun q=>⟨rfl,(R.d7 q).2⟩),R.d8,R.k1,R.k2,R.k4,R.k5,(fun q=>by have q2:Lb 7=true:=q;exact absurd (n7.symm.trans q2) (by decide))⟩⟩
   ·
    refine En.step_append rfl (.tmp 3) (.tmp 5) rfl W0.heap.size (.slice (some ⟨g,0,none⟩) 0 0) [] r.1 (by simp[Act.eval]) og x p1 p2 hp1.out.symm (by simp[Act.eval,hpa]) (rd_cellsE (by have z:=(HE.out.kept kb);rw[hpa] at z;exact z)) (by have:=hp1.out;simp;omega) kb.size ?_
    intro v' W' o' gr _
    rw[List.nil_append] at o'
    obtain⟨s,es'⟩:=slE o'
    subst es'
    have kb2:Below W0.heap.size W0 W':=kb.trans (En.grown_below og gr (Nat.le_refl _) kb.size)
    refine hK _ _ ?_
    exact⟨_,_,_,_,_,_,_,_,rfl,⟨(fun _=>kb2),(fun _ q=>by cases q),(fun _ _=>⟨s,rfl,o'⟩),(fun q=>by have q2:Lb 6=true:=q;exact absurd (n6.symm.trans q2) (by decide)),(fun q=>by have q2:Lb 8=true:=q;rw[h8] at q2;cases q2),(fun _=>⟨hD 0 (by kernel_rfl),hD 2 (by kernel_rfl)⟩),(fun q=>⟨(R.d6 q).1,rfl⟩),(fun q=>⟨rfl,(R.d7 q).2⟩),R.d8,R.k1,R.k2,R.k4,R.k5,(fun q=>by have q2:Lb 7=true:=q;exact absurd (n7.symm.trans q2) (by decide))⟩⟩
  ·
   skip
   refine op_at rfl (fun K hK=>?_)
   go_simp
   refine hK _ _ ?_
   exact⟨_,_,_,_,_,_,_,_,rfl,⟨R.low,R.E0,R.E1,R.M1,R.fin,R.d3,R.d6,R.d7,R.d8,R.k1,R.k2,(fun _=>rfl),R.k5,R.k7⟩⟩
  ·
   skip
   have e4:=R.k4 (hD 4 (by kernel_rfl))
   subst e4
   have h8:=R.behind (.inr (.inr (.inr (.inl hL))))
   have kb:=R.low h8
   have cc:W.cell? ⟨w.heap.size,1,none⟩=some (.slice q0 q1 q2):=by rw[kb.cell hbw];exact c1
   refine op_at rfl (fun K hK=>?_)
   go_simp
   refine hK _ _ ?_
   exact⟨_,_,_,_,_,_,_,_,rfl,⟨R.low,R.E0,R.E1,R.M1,R.fin,R.d3,(fun q=>⟨rfl,(R.d6 q).2⟩),R.d7,R.d8,R.k1,R.k2,R.k4,(fun _=>rfl),R.k7⟩⟩
  ·
   skip
   have h8:=R.behind (.inr (.inr (.inr (.inr (.inl hL)))))
   have kb:=R.low h8
   have es:=R.k5 (hD 5 (by kernel_rfl))
   subst es
   have n7:Lb 7=false:=by
    cases q:Lb 7 with
    | false=>rfl
    | true=>have z:=(R.d7 q).2;rw[hL] at z;cases z
   refine op_at rfl (fun K hK=>?_)
   go_simp
   refine (HC.out W kb).mono ?_
   intro e W1 hz
   obtain⟨g,c,rfl,_,_,o7,k7⟩:=hz.out
   have R:=R.kept h8 k7
   go_simp
   refine hK _ _ ?_
   exact⟨_,_,_,_,_,_,_,_,rfl,⟨R.low,R.E0,R.E1,(fun _ _=>⟨(some ⟨g,0,none⟩,q1,c),rfl,o7.mono kb.size⟩),R.fin,R.d3,(fun _=>⟨hD 5 (by kernel_rfl),hD 3 (by kernel_rfl)⟩),(fun q=>⟨(R.d7 q).1,rfl⟩),R.d8,R.k1,R.k2,R.k4,R.k5,(fun q=>by have q2:Lb 7=true:=q;exact absurd (n7.symm.trans q2) (by decide))⟩⟩
  ·
   skip
   have h8:=R.behind (.inr (.inr (.inr (.inr (.inr hL)))))
   have kb:=R.low h8
   obtain⟨s,es,_⟩:=R.E1 (hD 3 (by kernel_rfl)) h8
   obtain⟨t,et,_⟩:=R.M1 (hD 6 (by kernel_rfl)) h8
   obtain⟨s0,s1,s2⟩:=s
   obtain⟨t0,t1,t2⟩:=t
   simp only[sv] at es et
   subst es et
   refine op_at rfl (fun K hK=>?_)
   go_simp
   refine hK _ _ ?_
   exact⟨_,_,_,_,_,_,_,_,rfl,⟨R.low,R.E0,R.E1,R.M1,R.fin,R.d3,R.d6,(fun _=>⟨hD 3 (by kernel_rfl),hD 6 (by kernel_rfl)⟩),(fun _=>rfl),R.k1,R.k2,R.k4,R.k5,(fun _=>rfl)⟩⟩
  ·
   skip
   have kb:=R.low hL
   have h7:=hD 7 (by kernel_rfl)
   have e7:=R.k7 h7
   have d7:=R.d7 h7
   obtain⟨s,es,oE⟩:=R.E1 d7.1 hL
   obtain⟨t,et,oM⟩:=R.M1 d7.2 hL
   obtain⟨s0,s1,s2⟩:=s
   obtain⟨t0,t1,t2⟩:=t
   simp only[sv] at es et
   subst es et e7
   have bo:=BO.out.kept kb
   have g0:=bo.c 0 (v:=.slice none 0 0) rfl
   have g1:=bo.c 1 (v:=.slice none 0 0) rfl
   have f0:=bo.fr 0
   have f1:=bo.fr 1
   refine op_at rfl (fun K hK=>?_)
   go_simp
   refine hK _ _ ?_
   exact⟨_,_,_,_,_,_,_,_,rfl,⟨(fun q=>by cases q),(fun _ q=>by have q2:Lb 3=false:=q;rw[d7.1] at q2;cases q2),(fun _ q=>by cases q),(fun _ q=>by cases q),(fun _=>⟨W,(s0,s1,s2),(t0,t1,t2),rfl,oE,oM,kb⟩),R.d3,R.d6,R.d7,(fun _=>hD 7 (by kernel_rfl)),R.k1,R.k2,R.k4,R.k5,R.k7⟩⟩
 case refine_2 =>
  intro Lb a' W hI hall
  obtain⟨u3,u4,u5,u6,u7,u8,u9,u10,rfl,R⟩:=hI
  obtain⟨V,s,t,eW,oE,oM,kV⟩:=R.fin (hall 8)
  clear R hall
  have hlt:w.heap.size+1<W0.heap.size:=how
  have O1:Only (w.heap.size+1) V W:=by rw[eW];exact ((Only.refl _ V).setCell 0 _).setCell 1 _
  have zE:En.Own W W0.heap.size (sv s) r.1:=row_low oE hlt O1
  have oE':En.Own W w.heap.size (sv s) r.1:=zE.mono (Nat.le_of_lt hbw)
  have zM:Mm.Own W W0.heap.size (sv t) r.2:=row_low oM hlt O1
  have oM':Mm.Own W w.heap.size (sv t) r.2:=zM.mono (Nat.le_of_lt hbw)
  have bz:=((BO.out.kept kV).put (c':=#[sv s,.slice none 0 0]) 0 (sv s) (by simp) rfl).put (c':=#[sv s,sv t]) 1 (sv t) (by simp) rfl
  rw[<- eW] at bz
  have HBW:Below w.heap.size w W:=by
   rw[eW]
   exact ((HB.out.trans (kV.mono HB.out.size)).setCell (p:=⟨w.heap.size+1,0,none⟩) (Nat.le_succ _) (sv s)).setCell (p:=⟨w.heap.size+1,1,none⟩) (Nat.le_succ _) (sv t)
  have x0:=bz.c 0 (v:=sv s) rfl
  have x1:=bz.c 1 (v:=sv t) rfl
  obtain⟨s0,s1,s2⟩:=s
  obtain⟨t0,t1,t2⟩:=t
  simp only[sv] at x0 x1
  have HE':=hidIt oE'
  have HM':=hidIt oM'
  have HBZ:=hidIt HBW
  clear eW oE oM O1 bz zE zM oE' oM' HBW
  go_wp2_with (fail)
  refine bodyPost_ret (v:=.agg #[.slice s0 s1 s2,.slice t0 t1 t2]) (by simp[results,Tryz.results55,go_sem,x0,x1]) rfl ?_
  exact CpyP.of (s:=(s0,s1,s2)) (t:=(t0,t1,t2)) rfl HE'.out HM'.out HBZ.out
theorem impl_copiedReplicas (a:Option Addr) (cap:Nat) (L:List Rep) (w:World) (h:Rd w a L) (hT:Tame L) :
  Calls Tryz.prog 28 #[.slice a L.length cap] w fun e w'=>LstP w L e w':=by
 obtain⟨i0,hi0,hz0,hz1,hz2⟩:=info_parts Vv.infoRw
 have HTT:=hidIt hT
 have hm6:=hT.n
 have HR:=hidIt h
 clear h hT
 generalize hn:L.length=m at *
 have HN:=hidIt hn
 clear hn
 go_enter Tryz.func28,Tryz.ntmps28
 go_wp2_with (fail)
 go_loopw [3,9] (fun z y wx=>∃ (i go mm co:Nat) (M:List Rep),y=.int .i64 i∧z=.slice (some ⟨go,0,none⟩) mm co∧i<=m∧Hid (M.length=mm)∧Hid (mm=i)∧Hid (M=L.take i)∧Hid (Own wx w.heap.size wx.heap.size (.slice (some ⟨go,0,none⟩) mm co) M)∧Hid (Below w.heap.size w wx)) (fun _ y _=>(m - intOf y).toNat)
 case atStart=>exact⟨0,w.heap.size,0,0,[],rfl,rfl,by omega,hidIt rfl,hidIt rfl,hidIt (by simp),hidIt (Own.new w).grow,hidIt ((Below.refl _ w).alloc (Nat.le_refl _) _)⟩
 case round =>
  obtain⟨i,go,mm,co,M,rfl,rfl,hi,HMM,HMI,HME,HO,HBx⟩:=hrel
  by_cases hin:i<m
  ·
   have hin':(i:Int)<(m:Int):=by omega
   have hi0':(0:Int)<=(i:Int):=by omega
   have hiL:i<L.length:=by rw[HN.out];exact hin
   obtain⟨b,off,p,q,ea,a0,a1,rE,rM⟩:=(HR.out.kept HBx.out).one (i:=i) hiL
   subst ea
   have hb80:=HTT.out.bl i hiL
   have hm8:=HTT.out.ml i hiL
   have HTK:=hidIt (take_rat hiL)
   obtain⟨p0,p1,p2⟩:=p
   obtain⟨q0,q1,q2⟩:=q
   have hbb:b<wr.heap.size:=World.block_lt_of_cell? _ _ a0
   have kA:=(Below.refl wr.heap.size wr).alloc (Nat.le_refl _) (.cells #[.slice p0 p1 p2,.slice q0 q1 q2] 32)
   have HC:=hidIt (impl_copiedReplica (p0,p1,p2) (q0,q1,q2) (rat L i) _ (rE.kept kA) (rM.kept kA) hb80 hm8)
   have HOk:=hidIt (HO.out.kept kA).grow
   replace HBx:=hidIt (on HBx.out kA)
   simp only[sv] at a0 a1 HC
   clear kA rE rM HO
   go_wp2_with (fail)
   generalize (wr.alloc (.cells #[.slice p0 p1 p2,.slice q0 q1 q2] 32))=W0 at HC HOk HBx ⊢
   refine HC.out.mono ?_
   intro e W1 hz
   obtain⟨⟨s0,s1,s2⟩,⟨t0,t1,t2⟩,rfl,oE,oM,k1⟩:=hz.out
   simp only[sv]
   have k2:=(Below.refl W1.heap.size W1).alloc (Nat.le_refl _) (.cells #[.slice s0 s1 s2,.slice t0 t1 t2] 32)
   have kb:Below W0.heap.size W0 (W1.alloc (.cells #[.slice s0 s1 s2,.slice t0 t1 t2] 32)):=k1.trans (k2.mono k1.size)
   obtain⟨C,hC⟩:=(HOk.out.kept kb)
   have HRow:Hid (World.ownsRow (W1.alloc (.cells #[.slice s0 s1 s2,.slice t0 t1 t2] 32)) w.heap.size 32 2 (.slice (some ⟨go,0,none⟩) mm co) C.length (Vv.rcells C)):=hidIt hC.row
   have HCC:=hidIt hC
   have HE:=hidIt (oE.kept k2)
   have HM:=hidIt (oM.kept k2)
   have HFr:=hidIt (rd_two W1 s0 t0 s1 s2 t1 t2).cells
   have HKb:=hidIt kb
   have HCL:Hid (C.length=i):=hidIt (by have:=hC.len;have:=HMM.out;have:=HMI.out;omega)
   clear oE oM k1 k2 kb hC hz HC
   go_wp2_with (first | (at_builtin;refine wpList_append_own _ rfl _ _ 24 rfl w.heap.size 32 i0 (.agg #[sv (none,0,0),sv (none,0,0)]) 2 48 Tryz.underlying24 hi0 hz0 hz1 hz2 rfl (by decide) _ _ _ rfl HRow.out ⟨W1.heap.size,0,none⟩ 1 1 [.slice s0 s1 s2,.slice t0 t1 t2] rfl rfl HFr.out (Vv.rcells_one [((s0,s1,s2),(t0,t1,t2))]) ?ca1 ?ca2 ?ca3 ?_) | fail)
   case ca1=>unfold maxLen;have:=HCL.out;omega
   case ca2=>have:=HCL.out;omega
   case ca3=>exact Nat.le_trans HBx.out.size HKb.out.size
   intro v' w9 hown hgrow hnil
   have hM:=HCC.out.more (s:=(s0,s1,s2)) (t:=(t0,t1,t2)) (Vv.Own.more (L:=C) (M:=[((s0,s1,s2),(t0,t1,t2))]) hown) hgrow HE.out HM.out (Nat.le_refl _)
   have kl:Below w.heap.size W0 w9:=(HKb.out.mono HBx.out.size).trans (Vv.grown_below HCC.out.row hgrow (Nat.le_refl _) (Nat.le_trans HBx.out.size HKb.out.size))
   have hlen:(M++[rat L i]).length=mm+1:=by rw[List.length_append,HMM.out];rfl
   have hOw:Own w9 w.heap.size w9.heap.size v' (M++[rat L i]):=⟨_,hM⟩
   obtain⟨za,zc,ez,_,_,hzn⟩:=hOw.formN hlen
   subst ez
   obtain⟨zg,zo,ez⟩:=hOw.rd.addr (by rw[hlen];omega)
   subst ez
   have hz0':zo=0:=by
    obtain⟨a',c',e',_,_,_,_,hs⟩:=hM.row.form
    obtain⟨g',eg,_⟩:=hs _ (Value.slice.inj e').1.symm
    cases eg
    rfl
   subst hz0'
   have HOw:=hidIt hOw
   have HLo:=hidIt (HBx.out.trans kl)
   clear hOw hM kl hown hgrow hnil
   go_wp2_with (fail)
   exact⟨⟨i+1,zg,mm+1,zc,M++[rat L i],by simp,rfl,by omega,hidIt hlen,hidIt (by have:=HMI.out;omega),hidIt (by rw[HTK.out,HME.out]),HOw,HLo⟩,by simp[intOf];omega⟩
  ·
   have hin':¬ (i:Int)<(m:Int):=by omega
   have hmi:=HMI.out
   subst hmi
   obtain rfl:mm=m:=by omega
   have eM:M=L:=by rw[HME.out,<- HN.out,List.take_length]
   subst eM
   go_wp2_with (fail)
   go_ret
   exact LstP.of rfl HO.out HBx.out
end Go.Proofs.YtkeapmmochpcfaaGreat.Rp
namespace Go.Proofs.YtkeapmmochpcfaaGreat.Rp
open Go.ChangeShapes Go.WideShapes Go.ChangeAt Go.RowKit
open Vv (Sl sv hidIt)
open Rg (upd waits wp_region_inv op_at)
theorem rd_four {W:World} {s0 t0 p0 q0:Option Addr} {s1 s2 t1 t2 p1 p2 q1 q2:Nat} {r r':Rep} (h1:RdE W (s0,s1,s2) r.1) (h2:RdM W (t0,t1,t2) r.2) (h3:RdE W (p0,p1,p2) r'.1) (h4:RdM W (q0,q1,q2) r'.2) :
  Rd (W.alloc (.cells #[.slice s0 s1 s2,.slice t0 t1 t2,.slice p0 p1 p2,.slice q0 q1 q2] 32)) (some ⟨W.heap.size,0,none⟩) [r,r']:=by
 have k:=(Below.refl W.heap.size W).alloc (Nat.le_refl _) (.cells #[.slice s0 s1 s2,.slice t0 t1 t2,.slice p0 p1 p2,.slice q0 q1 q2] 32)
 refine⟨[((s0,s1,s2),(t0,t1,t2)),((p0,p1,p2),(q0,q1,q2))],rfl,⟨fun i hi=>⟨W.heap.size,0,rfl,fun j hj=>?_⟩⟩,fun i hi=>?_,fun i hi=>?_⟩
 ·
  have hi':i=0∨i=1:=by simp at hi;omega
  rcases hi' with rfl | rfl
  ·
   match j,hj with
   | 0,_=>simp[Vv.rcell,Vv.rat]
   | 1,_=>simp[Vv.rcell,Vv.rat]
  ·
   match j,hj with
   | 0,_=>simp[Vv.rcell,Vv.rat]
   | 1,_=>simp[Vv.rcell,Vv.rat]
 ·
  have hi':i=0∨i=1:=by simp at hi;omega
  rcases hi' with rfl | rfl
  ·
   exact h1.kept k
  ·
   exact h3.kept k
 ·
  have hi':i=0∨i=1:=by simp at hi;omega
  rcases hi' with rfl | rfl
  ·
   exact h2.kept k
  ·
   exact h4.kept k
theorem tame_two {L:List Rep} (h:Tame L) {t f:Nat} (ht:t<L.length) (hf:f<L.length):Tame [rat L t,rat L f]:=by
 have go:∀ {Q:Rep->Prop},(∀ i,i<L.length->Q (rat L i))->∀ i,i < [rat L t,rat L f].length->Q (rat [rat L t,rat L f] i):=fun hq i hi=>by
  have hi':i=0∨i=1:=by simp at hi;omega
  rcases hi' with rfl | rfl
  ·
   exact hq t ht
  ·
   exact hq f hf
 exact⟨by simp,go (Q:=fun r=>r.1.length<=80) h.bl,go (Q:=fun r=>r.2.length<=8) h.ml,go (Q:=fun r=>Bk.Ris (En.toB r.1)) h.br,go (Q:=fun r=>Mk.Ris (Mm.toB r.2)) h.mr⟩
structure TellR (L M:List Rep) (f t:Nat):Prop where
 len:M.length=L.length
 bk:bks M=Bk.tell (bks L) f t
 mb:mbs M=Mk.tell (mbs L) f t
theorem bks_length (L:List Rep):(bks L).length=L.length:=List.length_map ..
theorem mbs_length (L:List Rep):(mbs L).length=L.length:=List.length_map ..
theorem bks_at {L:List Rep} {i:Nat} (h:i<L.length):Bk.at0 (bks L) i=En.toB (rat L i).1:=by
 rw[Bk.at0_get (by rw[bks_length];exact h),rat_at h]
 exact List.getElem_map ..
theorem mbs_at {L:List Rep} {i:Nat} (h:i<L.length):Mk.at0 (mbs L) i=Mm.toB (rat L i).2:=by
 rw[Mk.at0_get (by rw[mbs_length];exact h),rat_at h]
 exact List.getElem_map ..
theorem tell_set {L:List Rep} {f t:Nat} {J:Rep} (hf:f<L.length) (ht:t<L.length) (h1:En.toB J.1=Bk.whole (bks [rat L t,rat L f])) (h2:Mm.toB J.2=Mk.whole (mbs [rat L t,rat L f])):TellR L (L.set t J) f t:=by
 refine⟨List.length_set ..,?_,?_⟩
 ·
  unfold Bk.tell
  rw[bks_at ht,bks_at hf]
  unfold bks
  rw[List.map_set,h1]
  congr 1
  show Bk.mergeE (Bk.mergeE [] _) _=_
  rw[Bk.mergeE_nil]
 ·
  unfold Mk.tell
  rw[mbs_at ht,mbs_at hf]
  unfold mbs
  rw[List.map_set,h2]
  congr 1
  show Mk.mergeE (Mk.mergeE [] _) _=_
  rw[Mk.mergeE_nil]
def TelP (lo g m cap f t:Nat) (L:List Rep) (w:World) (e:Ending) (w':World):Prop:=e=.returned (.tuple #[])∧∃ M,TellR L M f t∧Own w' lo w'.heap.size (.slice (some ⟨g,0,none⟩) m cap) M∧Below lo w w'
theorem TelP.of {lo g m cap f t:Nat} {L:List Rep} {w w':World} {e:Ending} {M:List Rep} (h:e=.returned (.tuple #[])) (h1:TellR L M f t) (h2:Own w' lo w'.heap.size (.slice (some ⟨g,0,none⟩) m cap) M) (h3:Below lo w w'):TelP lo g m cap f t L w e w':=⟨h,M,h1,h2,h3⟩
theorem TelP.out {lo g m cap f t:Nat} {L:List Rep} {w w':World} {e:Ending} (h:TelP lo g m cap f t L w e w'):e=.returned (.tuple #[])∧∃ M,TellR L M f t∧Own w' lo w'.heap.size (.slice (some ⟨g,0,none⟩) m cap) M∧Below lo w w':=h
def CPTl (g m cap f t s1 s2 t1 t2 p1 p2 q1 q2:Nat) (s0 t0 p0 q0:Option Addr) (K:List Rep) (w0:World) (W:World) (v:Value):Prop:=∃ (s u:Sl) (J:Rep),v=.agg #[sv s,sv u]∧En.Own W (w0.alloc (.cells #[.slice s0 s1 s2,.slice t0 t1 t2,.slice p0 p1 p2,.slice q0 q1 q2] 32)).heap.size (sv s) J.1∧Mm.Own W (w0.alloc (.cells #[.slice s0 s1 s2,.slice t0 t1 t2,.slice p0 p1 p2,.slice q0 q1 q2] 32)).heap.size (sv u) J.2∧En.toB J.1=Bk.whole (bks K)∧Mm.toB J.2=Mk.whole (mbs K)∧Below (w0.alloc (.cells #[.slice s0 s1 s2,.slice t0 t1 t2,.slice p0 p1 p2,.slice q0 q1 q2] 32)).heap.size (w0.alloc (.cells #[.slice s0 s1 s2,.slice t0 t1 t2,.slice p0 p1 p2,.slice q0 q1 q2] 32)) W
def SPTl (g m cap f t s1 s2 t1 t2 p1 p2 q1 q2:Nat) (s0 t0 p0 q0:Option Addr) (K:List Rep) (w0:World) (W':World):Prop:=∃ (W:World) (s u:Sl) (J:Rep),W'=(W.setCell ⟨g,t*2,none⟩ (sv s)).setCell ⟨g,t*2+1,none⟩ (sv u)∧En.Own W (w0.alloc (.cells #[.slice s0 s1 s2,.slice t0 t1 t2,.slice p0 p1 p2,.slice q0 q1 q2] 32)).heap.size (sv s) J.1∧Mm.Own W (w0.alloc (.cells #[.slice s0 s1 s2,.slice t0 t1 t2,.slice p0 p1 p2,.slice q0 q1 q2] 32)).heap.size (sv u) J.2∧En.toB J.1=Bk.whole (bks K)∧Mm.toB J.2=Mk.whole (mbs K)∧Below w0.heap.size w0 W
structure RK_Tl (g m cap f t s1 s2 t1 t2 p1 p2 q1 q2:Nat) (s0 t0 p0 q0:Option Addr) (K:List Rep) (w0:World) (W0:World) (L:Nat->Bool) (u6 u7 u8 u9 u10 u11 u12 u13 u14 u15 u16 u17 u18:Value) (W:World):Prop where
 st0:L 10=false->W=W0
 sta:L 10=true->L 11=false->W=W0.alloc (.cells #[.slice s0 s1 s2,.slice t0 t1 t2,.slice p0 p1 p2,.slice q0 q1 q2] 32)
 st1:L 11=true->L 13=false->CPTl g m cap f t s1 s2 t1 t2 p1 p2 q1 q2 s0 t0 p0 q0 K w0 W u17
 st2:L 13=true->SPTl g m cap f t s1 s2 t1 t2 p1 p2 q1 q2 s0 t0 p0 q0 K w0 W
 dep:L 10=true->L 5=true∧L 9=true
 dpa:L 11=true->L 10=true
 dps:L 13=true->L 11=true
 k0:L 0=true->u6=.slice (some ⟨g,0,none⟩) m cap
 k1:L 1=true->u7=.int .i64 t
 k2:L 2=true->u8=.slice (some ⟨g,0,none⟩) m cap
 k3:L 3=true->u9=.int .i64 t
 k4:L 4=true->u10=.pointer (some ⟨g,t*2,none⟩)
 k5:L 5=true->u11=.agg #[.slice s0 s1 s2,.slice t0 t1 t2]
 k6:L 6=true->u12=.slice (some ⟨g,0,none⟩) m cap
 k7:L 7=true->u13=.int .i64 f
 k8:L 8=true->u14=.pointer (some ⟨g,f*2,none⟩)
 k9:L 9=true->u15=.agg #[.slice p0 p1 p2,.slice q0 q1 q2]
 k10:L 10=true->u16=.slice (some ⟨W0.heap.size,0,none⟩) 2 2
 k12:L 12=true->u18=.pointer (some ⟨g,t*2,none⟩)
def KK_Tl (g m cap f t s1 s2 t1 t2 p1 p2 q1 q2:Nat) (s0 t0 p0 q0:Option Addr) (K:List Rep) (w0:World) (W0:World) (y0 y1 y2 y3 y4 y5:Value) (L:Nat->Bool) (a:Act) (W:World):Prop:=∃ u6 u7 u8 u9 u10 u11 u12 u13 u14 u15 u16 u17 u18:Value,a=⟨(y0::y1::y2::y3::y4::y5::u6::u7::u8::u9::u10::u11::u12::u13::u14::u15::u16::u17::u18::[]).toArray,[]⟩∧RK_Tl g m cap f t s1 s2 t1 t2 p1 p2 q1 q2 s0 t0 p0 q0 K w0 W0 L u6 u7 u8 u9 u10 u11 u12 u13 u14 u15 u16 u17 u18 W
theorem spec_l13Tell (lo g m cap f t:Nat) (L:List Rep) (w:World) (h:Own w lo w.heap.size (.slice (some ⟨g,0,none⟩) m cap) L) (hT:Tame L) (hm:L.length=m) (hf:f<m) (ht:t<m) :
  Calls Tryz.prog 32 #[.slice (some ⟨g,0,none⟩) m cap,.int .i64 f,.int .i64 t] w fun e w'=>TelP lo g m cap f t L w e w':=by
 have htL:t<L.length:=by omega
 have hfL:f<L.length:=by omega
 obtain⟨⟨s0,s1,s2⟩,⟨t0,t1,t2⟩,c0,c1,f0,f1,oE,oM⟩:=h.cells htL
 obtain⟨⟨p0,p1,p2⟩,⟨q0,q1,q2⟩,d0,d1,_,_,oE',oM'⟩:=h.cells hfL
 have HTS:=hidIt (fun J=>tell_set (J:=J) hfL htL)
 obtain⟨W0,hW0⟩:∃ W0,W0=w.drew:=⟨_,rfl⟩
 have kd:Below w.heap.size w w.drew:=(Below.refl _ w).drew
 have HC0:=hidIt (spec_l13Whole (some ⟨w.drew.heap.size,0,none⟩) 2 [rat L t,rat L f] _ (rd_four ((rdE_of oE).kept kd) ((rdM_of oM).kept kd) ((rdE_of oE').kept kd) ((rdM_of oM').kept kd)) (tame_two hT htL hfL))
 simp only[List.length_cons,List.length_nil,Nat.zero_add,Nat.reduceAdd] at HC0
 have hgw:g<w.drew.heap.size:=World.block_lt_of_cell? _ _ c0
 have hgl:lo<=g:=by
  obtain⟨C,hC⟩:=h
  exact (World.ownsRow.lt hC.row g rfl).1
 have HO:=hidIt h
 have c0':w.drew.cell? ⟨g,t*2,none⟩=some (.slice s0 s1 s2):=c0
 have c1':w.drew.cell? ⟨g,t*2+1,none⟩=some (.slice t0 t1 t2):=c1
 have d0':w.drew.cell? ⟨g,f*2,none⟩=some (.slice p0 p1 p2):=d0
 have d1':w.drew.cell? ⟨g,f*2+1,none⟩=some (.slice q0 q1 q2):=d1
 have f0':w.drew.frozen? ⟨g,t*2,none⟩=false:=f0
 have f1':w.drew.frozen? ⟨g,t*2+1,none⟩=false:=f1
 clear c0 c1 d0 d1 f0 f1 oE oM oE' oM' h kd
 have HBW:Hid (∀ W,Below W0.heap.size W0 W->Below w.heap.size w W):=hidIt (fun W k=>by rw[hW0] at k;exact⟨k.os,k.tape,k.output,k.size,k.block⟩)
 rw[<- hW0] at c0' c1' d0' d1' f0' f1' HC0 hgw
 have c0:=c0'
 have c1:=c1'
 have d0:=d0'
 have d1:=d1'
 have f0:=f0'
 have f1:=f1'
 have HC:=HC0
 clear c0' c1' d0' d1' f0' f1' HC0
 have hti:(t:Int)<(m:Int):=by omega
 have hfi:(f:Int)<(m:Int):=by omega
 have ht0:(0:Int)<=(t:Int):=by omega
 have hf0:(0:Int)<=(f:Int):=by omega
 have HSZ:Hid (W0.heap.size=w.heap.size):=hidIt (by rw[hW0];rfl)
 go_enter Tryz.func32,Tryz.ntmps32
 go_wp2_with (fail)
 refine wp_region_inv (by kernel_rfl) (by kernel_rfl) (KK_Tl g m cap f t s1 s2 t1 t2 p1 p2 q1 q2 s0 t0 p0 q0 [rat L t,rat L f] W0 (W0) _ _ _ _ _ _) ⟨_,_,_,_,_,_,_,_,_,_,_,_,_,rfl,⟨fun _=>hW0.symm,(fun q=>by cases q),(fun q=>by cases q),(fun q=>by cases q),(fun q=>by cases q),(fun q=>by cases q),(fun q=>by cases q),(fun q=>by cases q),(fun q=>by cases q),(fun q=>by cases q),(fun q=>by cases q),(fun q=>by cases q),(fun q=>by cases q),(fun q=>by cases q),(fun q=>by cases q),(fun q=>by cases q),(fun q=>by cases q),(fun q=>by cases q),(fun q=>by cases q)⟩⟩ ?_ ?_
 case refine_1 =>
  clear hW0
  intro Lb a' W i hi hI hL hD
  have hcases:i=0∨i=1∨i=2∨i=3∨i=4∨i=5∨i=6∨i=7∨i=8∨i=9∨i=10∨i=11∨i=12∨i=13:=by simp at hi;omega
  clear hi
  obtain⟨u6,u7,u8,u9,u10,u11,u12,u13,u14,u15,u16,u17,u18,rfl,R⟩:=hI
  rcases hcases with rfl | rfl | rfl | rfl | rfl | rfl | rfl | rfl | rfl | rfl | rfl | rfl | rfl | rfl
  ·
   skip
   refine op_at rfl (fun K hK=>?_)
   go_simp
   refine hK _ _ ?_
   exact⟨_,_,_,_,_,_,_,_,_,_,_,_,_,rfl,R.st0,R.sta,R.st1,R.st2,R.dep,R.dpa,R.dps,(fun _=>rfl),R.k1,R.k2,R.k3,R.k4,R.k5,R.k6,R.k7,R.k8,R.k9,R.k10,R.k12⟩
  ·
   skip
   refine op_at rfl (fun K hK=>?_)
   go_simp
   refine hK _ _ ?_
   exact⟨_,_,_,_,_,_,_,_,_,_,_,_,_,rfl,R.st0,R.sta,R.st1,R.st2,R.dep,R.dpa,R.dps,R.k0,(fun _=>rfl),R.k2,R.k3,R.k4,R.k5,R.k6,R.k7,R.k8,R.k9,R.k10,R.k12⟩
  ·
   skip
   refine op_at rfl (fun K hK=>?_)
   go_simp
   refine hK _ _ ?_
   exact⟨_,_,_,_,_,_,_,_,_,_,_,_,_,rfl,R.st0,R.sta,R.st1,R.st2,R.dep,R.dpa,R.dps,R.k0,R.k1,(fun _=>rfl),R.k3,R.k4,R.k5,R.k6,R.k7,R.k8,R.k9,R.k10,R.k12⟩
  ·
   skip
   refine op_at rfl (fun K hK=>?_)
   go_simp
   refine hK _ _ ?_
   exact⟨_,_,_,_,_,_,_,_,_,_,_,_,_,rfl,R.st0,R.sta,R.st1,R.st2,R.dep,R.dpa,R.dps,R.k0,R.k1,R.k2,(fun _=>rfl),R.k4,R.k5,R.k6,R.k7,R.k8,R.k9,R.k10,R.k12⟩
  ·
   skip
   have e2:=R.k2 (hD 2 (by kernel_rfl))
   subst e2
   have e3:=R.k3 (hD 3 (by kernel_rfl))
   subst e3
   refine op_at rfl (fun K hK=>?_)
   go_simp
   refine hK _ _ ?_
   exact⟨_,_,_,_,_,_,_,_,_,_,_,_,_,rfl,R.st0,R.sta,R.st1,R.st2,R.dep,R.dpa,R.dps,R.k0,R.k1,R.k2,R.k3,(fun _=>rfl),R.k5,R.k6,R.k7,R.k8,R.k9,R.k10,R.k12⟩
  ·
   skip
   have e4:=R.k4 (hD 4 (by kernel_rfl))
   subst e4
   have ha:Lb 10=false:=by
    cases q:Lb 10 with
    | false=>rfl
    | true=>have z:=R.dep q;simp[hL] at z
   have eW:=R.st0 ha
   subst eW
   refine op_at rfl (fun K hK=>?_)
   go_simp
   refine hK _ _ ?_
   exact⟨_,_,_,_,_,_,_,_,_,_,_,_,_,rfl,R.st0,R.sta,R.st1,R.st2,(fun q=>by have q2:Lb 10=true:=q;rw[ha] at q2;cases q2),R.dpa,R.dps,R.k0,R.k1,R.k2,R.k3,R.k4,(fun _=>rfl),R.k6,R.k7,R.k8,R.k9,R.k10,R.k12⟩
  ·
   skip
   refine op_at rfl (fun K hK=>?_)
   go_simp
   refine hK _ _ ?_
   exact⟨_,_,_,_,_,_,_,_,_,_,_,_,_,rfl,R.st0,R.sta,R.st1,R.st2,R.dep,R.dpa,R.dps,R.k0,R.k1,R.k2,R.k3,R.k4,R.k5,(fun _=>rfl),R.k7,R.k8,R.k9,R.k10,R.k12⟩
  ·
   skip
   refine op_at rfl (fun K hK=>?_)
   go_simp
   refine hK _ _ ?_
   exact⟨_,_,_,_,_,_,_,_,_,_,_,_,_,rfl,R.st0,R.sta,R.st1,R.st2,R.dep,R.dpa,R.dps,R.k0,R.k1,R.k2,R.k3,R.k4,R.k5,R.k6,(fun _=>rfl),R.k8,R.k9,R.k10,R.k12⟩
  ·
   skip
   have e6:=R.k6 (hD 6 (by kernel_rfl))
   subst e6
   have e7:=R.k7 (hD 7 (by kernel_rfl))
   subst e7
   refine op_at rfl (fun K hK=>?_)
   go_simp
   refine hK _ _ ?_
   exact⟨_,_,_,_,_,_,_,_,_,_,_,_,_,rfl,R.st0,R.sta,R.st1,R.st2,R.dep,R.dpa,R.dps,R.k0,R.k1,R.k2,R.k3,R.k4,R.k5,R.k6,R.k7,(fun _=>rfl),R.k9,R.k10,R.k12⟩
  ·
   skip
   have e8:=R.k8 (hD 8 (by kernel_rfl))
   subst e8
   have ha:Lb 10=false:=by
    cases q:Lb 10 with
    | false=>rfl
    | true=>have z:=R.dep q;simp[hL] at z
   have eW:=R.st0 ha
   subst eW
   refine op_at rfl (fun K hK=>?_)
   go_simp
   refine hK _ _ ?_
   exact⟨_,_,_,_,_,_,_,_,_,_,_,_,_,rfl,R.st0,R.sta,R.st1,R.st2,(fun q=>by have q2:Lb 10=true:=q;rw[ha] at q2;cases q2),R.dpa,R.dps,R.k0,R.k1,R.k2,R.k3,R.k4,R.k5,R.k6,R.k7,R.k8,(fun _=>rfl),R.k10,R.k12⟩
  ·
   skip
   have e5:=R.k5 (hD 5 (by kernel_rfl))
   subst e5
   have e9:=R.k9 (hD 9 (by kernel_rfl))
   subst e9
   have eW:=R.st0 hL
   subst eW
   have hcf:Lb 11=false:=by
    cases q:Lb 11 with
    | false=>rfl
    | true=>have z:=R.dpa q;rw[hL] at z;cases z
   refine op_at rfl (fun K hK=>?_)
   go_simp
   refine hK _ _ ?_
   exact⟨_,_,_,_,_,_,_,_,_,_,_,_,_,rfl,(fun q=>by cases q),(fun _ _=>rfl),(fun q=>by have q2:Lb 11=true:=q;rw[hcf] at q2;cases q2),(fun q=>by have q2:=R.dps q;rw[hcf] at q2;cases q2),(fun _=>⟨hD 5 (by kernel_rfl),hD 9 (by kernel_rfl)⟩),(fun _=>rfl),R.dps,R.k0,R.k1,R.k2,R.k3,R.k4,R.k5,R.k6,R.k7,R.k8,R.k9,(fun _=>rfl),R.k12⟩
  ·
   skip
   have e10:=R.k10 (hD 10 (by kernel_rfl))
   subst e10
   have eW:=R.sta (hD 10 (by kernel_rfl)) hL
   subst eW
   refine op_at rfl (fun K hK=>?_)
   go_simp
   refine (HC.out).mono ?_
   intro e W1 hz
   obtain⟨J,hz2,e1,e2⟩:=hz.out
   obtain⟨⟨x0,x1,x2⟩,⟨y0,y1,y2⟩,rfl,oE,oM,kk⟩:=hz2.out
   simp only[sv]
   go_simp
   refine hK _ _ ?_
   exact⟨_,_,_,_,_,_,_,_,_,_,_,_,_,rfl,(fun q=>by have q2:Lb 10=false:=q;rw[hD 10 (by kernel_rfl)] at q2;cases q2),(fun _ q=>by cases q),(fun _ _=>⟨(x0,x1,x2),(y0,y1,y2),J,rfl,oE,oM,e1,e2,kk⟩),(fun q=>by have q2:=R.dps q;rw[hL] at q2;cases q2),R.dep,(fun _=>hD 10 (by kernel_rfl)),(fun _=>rfl),R.k0,R.k1,R.k2,R.k3,R.k4,R.k5,R.k6,R.k7,R.k8,R.k9,R.k10,R.k12⟩
  ·
   skip
   have e0:=R.k0 (hD 0 (by kernel_rfl))
   subst e0
   have e1:=R.k1 (hD 1 (by kernel_rfl))
   subst e1
   refine op_at rfl (fun K hK=>?_)
   go_simp
   refine hK _ _ ?_
   exact⟨_,_,_,_,_,_,_,_,_,_,_,_,_,rfl,R.st0,R.sta,R.st1,R.st2,R.dep,R.dpa,R.dps,R.k0,R.k1,R.k2,R.k3,R.k4,R.k5,R.k6,R.k7,R.k8,R.k9,R.k10,(fun _=>rfl)⟩
  ·
   skip
   have e12:=R.k12 (hD 12 (by kernel_rfl))
   subst e12
   have hcc:=hD 11 (by kernel_rfl)
   have haa:=R.dpa hcc
   have hc:=R.st1 hcc hL
   obtain⟨⟨x0,x1,x2⟩,⟨y0,y1,y2⟩,J,rfl,oE,oM,e1,e2,kk⟩:=hc
   have kz:Below W0.heap.size W0 W:=((Below.refl W0.heap.size W0).alloc (Nat.le_refl _) _).trans (kk.mono (by simp))
   have g0:W.cell? ⟨g,t*2,none⟩=some (.slice s0 s1 s2):=by rw[kz.cell hgw];exact c0
   have g1:W.cell? ⟨g,t*2+1,none⟩=some (.slice t0 t1 t2):=by rw[kz.cell hgw];exact c1
   have z0:W.frozen? ⟨g,t*2,none⟩=false:=by rw[kz.frozen hgw];exact f0
   have z1:W.frozen? ⟨g,t*2+1,none⟩=false:=by rw[kz.frozen hgw];exact f1
   simp only[sv]
   refine op_at rfl (fun K hK=>?_)
   go_simp
   refine hK _ _ ?_
   exact⟨_,_,_,_,_,_,_,_,_,_,_,_,_,rfl,(fun q=>by have q2:Lb 10=false:=q;rw[haa] at q2;cases q2),(fun _ q=>by have q2:Lb 11=false:=q;rw[hcc] at q2;cases q2),(fun _ q=>by cases q),(fun _=>⟨W,(x0,x1,x2),(y0,y1,y2),J,rfl,oE,oM,e1,e2,kz⟩),R.dep,R.dpa,(fun _=>hcc),R.k0,R.k1,R.k2,R.k3,R.k4,R.k5,R.k6,R.k7,R.k8,R.k9,R.k10,R.k12⟩
 case refine_2 =>
  intro Lb a' W hI hall
  obtain⟨u6,u7,u8,u9,u10,u11,u12,u13,u14,u15,u16,u17,u18,rfl,R⟩:=hI
  have hS:=R.st2 (hall 13)
  clear R hall
  obtain⟨W1,s,u,J,rfl,oE,oM,e1,e2,kk⟩:=hS
  have kw:=HBW.out W1 kk
  have hO:=HO.out.kept kw
  have hsz:w.heap.size<=(W0.alloc (.cells #[.slice s0 s1 s2,.slice t0 t1 t2,.slice p0 p1 p2,.slice q0 q1 q2] 32)).heap.size:=by have:=HSZ.out;simp;omega
  have hP:=hO.put htL (oE.mono hsz) (oM.mono hsz)
  have hG:=hP.grow
  have hB:=((kw.mono HO.out.lo_le.1).setCell (p:=⟨g,t*2,none⟩) hgl (sv s)).setCell (p:=⟨g,t*2+1,none⟩) hgl (sv u)
  refine bodyPost_end (v:=.tuple #[]) (by simp[results,Tryz.results32,go_sem]) rfl ?_
  exact TelP.of rfl (HTS.out J e1 e2) hG hB
end Go.Proofs.YtkeapmmochpcfaaGreat.Rp
