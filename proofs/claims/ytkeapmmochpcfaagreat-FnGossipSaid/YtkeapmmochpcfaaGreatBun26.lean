/- Told and Around of the specification. -/
import Derived.Test.YtkeapmmochpcfaaGreatBun25
import Derived.Test.YtkeapmmochpcfaaGreatBun5
import Derived.Laws.StructEq
import Derived.WideLaws
import Derived.Test.YtkeapmmochpcfaaGreatBun3
import Derived.Test.YtkeapmmochpcfaaGreatBun7
set_option maxRecDepth 100000
set_option maxHeartbeats 32000000
set_option linter.unusedVariables false
namespace Go.Proofs.YtkeapmmochpcfaaGreat.Bk
structure Gok (G:List (List En)):Prop where
 ok:∀ b∈G,okBk b=true
 len:(whole G).length<=80
theorem Gok.ris {G:List (List En)} (h:Gok G):AllRis G:=fun b hb=>ok_ris (h.ok b hb)
theorem Gok.tell {G:List (List En)} (h:Gok G) {f t:Nat} (hf:f<G.length) (ht:t<G.length):Gok (tell G f t):=by
 have hr:=h.ris
 have hw:=tell_whole hr hf ht
 refine⟨fun b hb=>?_,by rw[hw];exact h.len⟩
 have hl:=len_whole (tell_ris hr hf ht) hb
 rw[hw] at hl
 rcases List.mem_or_eq_of_mem_set hb with q | q
 ·
  exact h.ok b q
 ·
  subst q
  have h1:=h.ok _ (at0_mem ht)
  have h2:=h.ok _ (at0_mem hf)
  have j:=merge_join _ _ (ok_ris h1) (ok_ris h2)
  exact ok_mk (Nat.le_trans hl h.len) (fun e he=>by
   rcases j.mem he with q | q
   ·
    exact ok_all h1 q
   ·
    exact ok_all h2 q) j.ris
end Go.Proofs.YtkeapmmochpcfaaGreat.Bk
namespace Go.Proofs.YtkeapmmochpcfaaGreat.Mk
structure Gok (G:List (List En)):Prop where
 ok:∀ b∈G,okBk b=true
theorem Gok.ris {G:List (List En)} (h:Gok G):AllRis G:=fun b hb=>ok_ris (h.ok b hb)
theorem Gok.tell {G:List (List En)} (h:Gok G) {f t:Nat} (hf:f<G.length) (ht:t<G.length):Gok (tell G f t):=by
 refine⟨fun b hb=>?_⟩
 rcases List.mem_or_eq_of_mem_set hb with q | q
 ·
  exact h.ok b q
 ·
  subst q
  have h1:=h.ok _ (at0_mem ht)
  have h2:=h.ok _ (at0_mem hf)
  exact merge_ok h1 h2 (merge_join _ _ (ok_ris h1) (ok_ris h2))
end Go.Proofs.YtkeapmmochpcfaaGreat.Mk
namespace Go.Proofs.YtkeapmmochpcfaaGreat.Rp
open Go.ChangeShapes Go.WideShapes Go.ChangeAt Go.RowKit
open Vv (Sl sv hidIt)
theorem okG_iff (L:List Rep):okG L=true↔1<=L.length∧L.length<=6∧Bk.Gok (bks L)∧Mk.Gok (mbs L):=by
 constructor
 ·
  intro h
  obtain⟨h1,h2,h3,h4⟩:=okG_all h
  refine⟨h1,h2,⟨fun b hb=>?_,h4⟩,⟨fun b hb=>?_⟩⟩
  ·
   obtain⟨r,hr,rfl⟩:=List.mem_map.1 hb
   obtain⟨i,hi,rfl⟩:=List.mem_iff_getElem.1 hr
   have:=h3 i hi
   rw[rat_at hi] at this
   unfold okR at this
   rw[Bool.and_eq_true] at this
   exact this.1
  ·
   obtain⟨r,hr,rfl⟩:=List.mem_map.1 hb
   obtain⟨i,hi,rfl⟩:=List.mem_iff_getElem.1 hr
   have:=h3 i hi
   rw[rat_at hi] at this
   unfold okR at this
   rw[Bool.and_eq_true] at this
   exact this.2
 ·
  rintro⟨h1,h2,h3,h4⟩
  refine okG_mk h1 h2 (fun i hi=>?_) h3.len
  unfold okR
  rw[Bool.and_eq_true]
  exact⟨h3.ok _ (List.mem_map.2 ⟨_,rat_mem hi,rfl⟩),h4.ok _ (List.mem_map.2 ⟨_,rat_mem hi,rfl⟩)⟩
theorem okG_tell {L M:List Rep} {f t:Nat} (h:okG L=true) (hf:f<L.length) (ht:t<L.length) (k:TellR L M f t):okG M=true:=by
 obtain⟨h1,h2,h3,h4⟩:=(okG_iff L).1 h
 refine (okG_iff M).2 ⟨by rw[k.len];exact h1,by rw[k.len];exact h2,?_,?_⟩
 ·
  rw[k.bk];exact h3.tell (by rw[bks_length];exact hf) (by rw[bks_length];exact ht)
 ·
  rw[k.mb];exact h4.tell (by rw[mbs_length];exact hf) (by rw[mbs_length];exact ht)
theorem rows_inj {M M':List Rep} (h1:bks M=bks M') (h2:mbs M=mbs M'):M=M':=by
 have hl:M.length=M'.length:=by rw[<- bks_length M,h1,bks_length]
 refine ext_rat hl (fun i hi=>?_)
 have e1:=bks_at hi
 have e2:=mbs_at hi
 rw[h1,bks_at (by omega)] at e1
 rw[h2,mbs_at (by omega)] at e2
 exact Prod.ext (En.toB_inj e1).symm (Mm.toB_inj e2).symm
def inG (n:Nat) (f t:Int):Prop:=0<=f∧f<n∧0<=t∧t<n∧f≠t
structure ToldR (L:List Rep) (f t:Int) (M:List Rep) (b:Bool):Prop where
 no:okG L=false->M=[]∧b=false
 out:okG L=true->¬ inG L.length f t->M=L∧b=false
 yes:okG L=true->inG L.length f t->TellR L M f.toNat t.toNat∧b=true
theorem ToldR.unique {L M M':List Rep} {f t:Int} {b b':Bool} (h:ToldR L f t M b) (h':ToldR L f t M' b'):M=M'∧b=b':=by
 cases ok:okG L with
 | false =>
  obtain⟨rfl,rfl⟩:=h.no ok
  obtain⟨rfl,rfl⟩:=h'.no ok
  exact⟨rfl,rfl⟩
 | true =>
  rcases Classical.em (inG L.length f t) with q | q
  ·
   obtain⟨k,rfl⟩:=h.yes ok q
   obtain⟨k',rfl⟩:=h'.yes ok q
   exact⟨rows_inj (k.bk.trans k'.bk.symm) (k.mb.trans k'.mb.symm),rfl⟩
  ·
   obtain⟨rfl,rfl⟩:=h.out ok q
   obtain⟨rfl,rfl⟩:=h'.out ok q
   exact⟨rfl,rfl⟩
theorem ToldR.mkNo {L:List Rep} {f t:Int} (ok:okG L=false):ToldR L f t [] false:=⟨fun _=>⟨rfl,rfl⟩,(fun q=>by rw[ok] at q;cases q),(fun q=>by rw[ok] at q;cases q)⟩
theorem ToldR.mkOut {L:List Rep} {f t:Int} (ok:okG L=true) (h:¬ inG L.length f t):ToldR L f t L false:=⟨(fun q=>by rw[ok] at q;cases q),fun _ _=>⟨rfl,rfl⟩,fun _ q=>absurd q h⟩
theorem ToldR.mkYes {L M:List Rep} {f t:Int} (ok:okG L=true) (h:inG L.length f t) (k:TellR L M f.toNat t.toNat):ToldR L f t M true:=⟨(fun q=>by rw[ok] at q;cases q),fun _ q=>absurd h q,fun _ _=>⟨k,rfl⟩⟩
def TolP (L:List Rep) (f t:Int) (w:World) (e:Ending) (w':World):Prop:=∃ v M b,e=.returned (.tuple #[v,.bool b])∧ToldR L f t M b∧Own w' w.heap.size w'.heap.size v M∧Below w.heap.size w w'
theorem TolP.of {L M:List Rep} {f t:Int} {w w':World} {e:Ending} {v:Value} {b:Bool} (h:e=.returned (.tuple #[v,.bool b])) (h1:ToldR L f t M b) (h2:Own w' w.heap.size w'.heap.size v M) (h3:Below w.heap.size w w'):TolP L f t w e w':=⟨v,M,b,h,h1,h2,h3⟩
theorem TolP.out {L:List Rep} {f t:Int} {w w':World} {e:Ending} (h:TolP L f t w e w'):∃ v M b,e=.returned (.tuple #[v,.bool b])∧ToldR L f t M b∧Own w' w.heap.size w'.heap.size v M∧Below w.heap.size w w':=h
theorem own_zero {w:World} {lo hi:Nat} {a:Option Addr} {m cap:Nat} {L:List Rep} (h:Own w lo hi (.slice a m cap) L) (hl:0<L.length):∃ g,a=some ⟨g,0,none⟩:=by
 obtain⟨C,h⟩:=h
 obtain⟨a',c',e',_,_,r,_,hs⟩:=h.row.form
 obtain⟨rfl,_,_⟩:=Value.slice.inj e'
 obtain⟨b,off,e,_⟩:=r.cell 0 (by rw[h.len];exact hl)
 obtain⟨g,eg,_⟩:=hs _ e
 rw[e,eg]
 exact⟨g,rfl⟩
theorem spec_Told (a:Option Addr) (cap:Nat) (L:List Rep) (f t:Int) (w:World) (h:Rd w a L) (hs:Short L) (hl:L.length<=9223372036854775807) (hlb:∀ i,i<L.length->(rat L i).1.length<=9223372036854775807∧(rat L i).2.length<=9223372036854775807) :
  Calls Tryz.prog 9 #[.slice a L.length cap,.int .i64 f,.int .i64 t] w fun e w'=>TolP L f t w e w':=by
 have CG:=hidIt (fun W (r:Rd W a L)=>spec_GroupOk a cap L W r hs hl hlb)
 have HR:=hidIt h
 clear h hs hlb
 cases ok:okG L with
 | false =>
  rw[ok] at CG
  have HT:=hidIt (ToldR.mkNo (f:=f) (t:=t) ok)
  clear ok
  generalize L.length=m at *
  go_enter Tryz.func9,Tryz.ntmps9
  go_wp2_with (fail)
  refine (CG.out _ HR.out).mono ?_
  rintro e w1 ⟨rfl,k⟩
  have HB1:=hidIt k
  clear k
  go_wp2_with (fail)
  refine bodyPost_ret (v:=.tuple #[.slice (some ⟨w1.heap.size,0,none⟩) 0 0,.bool false]) (by simp[results,Tryz.results9,go_sem]) rfl ?_
  exact TolP.of rfl HT.out ((Own.new w1).mono HB1.out.size (by simp) (Nat.le_refl _)) (HB1.out.alloc HB1.out.size _)
 | true =>
  rw[ok] at CG
  have hT:=okG_tame ok
  have hall:=okG_all ok
  have h1:=hall.1
  have h6:=hall.2.1
  have CC:=hidIt (fun W (r:Rd W a L)=>spec_l13Copy a cap L W r hT)
  have CT:=hidIt (fun lo g cp (f' t':Nat) W (o:Own W lo W.heap.size (.slice (some ⟨g,0,none⟩) L.length cp) L) hf ht=>spec_l13Tell lo g L.length cp f' t' L W o hT rfl hf ht)
  have HTO:=hidIt (fun (q:¬ inG L.length f t)=>ToldR.mkOut (f:=f) (t:=t) ok q)
  have HTY:=hidIt (fun M (q:inG L.length f t) (k:TellR L M f.toNat t.toNat)=>ToldR.mkYes (f:=f) (t:=t) ok q k)
  clear ok hall hT
  generalize hn:L.length=m at *
  have HN:=hidIt hn
  clear hn
  go_enter Tryz.func9,Tryz.ntmps9
  go_wp2_with (fail)
  refine (CG.out _ HR.out).mono ?_
  rintro e w1 ⟨rfl,k⟩
  have HB1:=hidIt k
  clear k
  go_wp2_with (fail)
  refine (CC.out _ (HR.out.kept HB1.out)).mono ?_
  intro e w2 hz
  obtain⟨v,rfl,o2,k2⟩:=hz.out
  obtain⟨va,vc,ev,hvc,hvm,hvn⟩:=o2.formN HN.out
  subst ev
  obtain⟨g,eg⟩:=own_zero o2 (by rw[HN.out];exact h1)
  subst eg
  have HB2:=hidIt (on HB1.out k2)
  have HO2:=hidIt (o2.mono HB1.out.size (Nat.le_refl _) (Nat.le_refl _))
  clear hz o2 k2 hvn CG CC
  by_cases q:inG m f t
  ·
   unfold inG at q
   obtain⟨f',rfl⟩:∃ f':Nat,f=(f':Int):=⟨f.toNat,by omega⟩
   obtain⟨t',rfl⟩:∃ t':Nat,t=(t':Int):=⟨t.toNat,by omega⟩
   have z1:decide ((f':Int)<0)=false:=decide_eq_false (by omega)
   have z2:decide ((m:Int)<=(f':Int))=false:=decide_eq_false (by omega)
   have z3:decide ((t':Int)<0)=false:=decide_eq_false (by omega)
   have z4:decide ((m:Int)<=(t':Int))=false:=decide_eq_false (by omega)
   have z5:((f':Int)==(t':Int))=false:=by simpa using q.2.2.2.2
   have z6:decide (m<=f')=false:=decide_eq_false (by omega)
   have z7:decide (m<=t')=false:=decide_eq_false (by omega)
   have z8:f'<m:=by omega
   have z9:t'<m:=by omega
   have z10:¬ f'=t':=by omega
   have CT1:=hidIt (CT.out w.heap.size g vc f' t' w2 HO2.out (by omega) (by omega))
   have HTY1:=hidIt (fun M (k:TellR L M f' t')=>HTY.out M q (by simpa using k))
   clear q CT HTY HTO
   go_wp2_with (fail)
   refine CT1.out.mono ?_
   intro e w3 hz
   obtain⟨rfl,M,hM,o3,k3⟩:=hz.out
   have HB3:=hidIt (HB2.out.trans k3)
   have HO3:=hidIt o3
   have HT:=hidIt (HTY1.out M hM)
   clear hz o3 k3 hM
   go_wp2_with (fail)
   refine bodyPost_ret (v:=.tuple #[.slice (some ⟨g,0,none⟩) m vc,.bool true]) (by simp[results,Tryz.results9,go_sem]) rfl ?_
   exact TolP.of rfl HT.out HO3.out HB3.out
  ·
   have HT:=hidIt (HTO.out q)
   clear CT HTY HTO
   by_cases z1:f<0
   ·
    have z1':decide (f<0)=true:=decide_eq_true z1
    clear q
    go_wp2_with (fail)
    refine bodyPost_ret (v:=.tuple #[.slice (some ⟨g,0,none⟩) m vc,.bool false]) (by simp[results,Tryz.results9,go_sem]) rfl ?_
    exact TolP.of rfl HT.out HO2.out HB2.out
   ·
    have z1':decide (f<0)=false:=decide_eq_false z1
    by_cases z2:(m:Int)<=f
    ·
     have z2':decide ((m:Int)<=f)=true:=decide_eq_true z2
     clear q
     go_wp2_with (fail)
     refine bodyPost_ret (v:=.tuple #[.slice (some ⟨g,0,none⟩) m vc,.bool false]) (by simp[results,Tryz.results9,go_sem]) rfl ?_
     exact TolP.of rfl HT.out HO2.out HB2.out
    ·
     have z2':decide ((m:Int)<=f)=false:=decide_eq_false z2
     by_cases z3:t<0
     ·
      have z3':decide (t<0)=true:=decide_eq_true z3
      clear q
      go_wp2_with (fail)
      refine bodyPost_ret (v:=.tuple #[.slice (some ⟨g,0,none⟩) m vc,.bool false]) (by simp[results,Tryz.results9,go_sem]) rfl ?_
      exact TolP.of rfl HT.out HO2.out HB2.out
     ·
      have z3':decide (t<0)=false:=decide_eq_false z3
      by_cases z4:(m:Int)<=t
      ·
       have z4':decide ((m:Int)<=t)=true:=decide_eq_true z4
       clear q
       go_wp2_with (fail)
       refine bodyPost_ret (v:=.tuple #[.slice (some ⟨g,0,none⟩) m vc,.bool false]) (by simp[results,Tryz.results9,go_sem]) rfl ?_
       exact TolP.of rfl HT.out HO2.out HB2.out
      ·
       have z4':decide ((m:Int)<=t)=false:=decide_eq_false z4
       have ef:f=t:=by
        unfold inG at q
        omega
       subst ef
       have z5:(f==f)=true:=by simp
       clear q
       go_wp2_with (fail)
       refine bodyPost_ret (v:=.tuple #[.slice (some ⟨g,0,none⟩) m vc,.bool false]) (by simp[results,Tryz.results9,go_sem]) rfl ?_
       exact TolP.of rfl HT.out HO2.out HB2.out
end Go.Proofs.YtkeapmmochpcfaaGreat.Rp
namespace Go.Proofs.YtkeapmmochpcfaaGreat.Rp
open Go.ChangeShapes Go.WideShapes Go.ChangeAt Go.RowKit
open Vv (Sl sv hidIt)
structure WhlR (L:List Rep) (J:Rep):Prop where
 no:okG L=false->J=([],[])
 bk:okG L=true->En.toB J.1=Bk.whole (bks L)
 mb:okG L=true->Mm.toB J.2=Mk.whole (mbs L)
theorem WhlR.unique {L:List Rep} {J J':Rep} (h:WhlR L J) (h':WhlR L J'):J=J':=by
 cases ok:okG L with
 | false=>rw[h.no ok,h'.no ok]
 | true=>exact Prod.ext (En.toB_inj ((h.bk ok).trans (h'.bk ok).symm)) (Mm.toB_inj ((h.mb ok).trans (h'.mb ok).symm))
end Go.Proofs.YtkeapmmochpcfaaGreat.Rp
namespace Go.Proofs.YtkeapmmochpcfaaGreat.Rp
open Go.ChangeShapes Go.WideShapes Go.ChangeAt Go.RowKit
open Vv (Sl sv hidIt)
open Rc (BelowBy BelowBy.one wp_region_below calls_below calls_same)
end Go.Proofs.YtkeapmmochpcfaaGreat.Rp
namespace Go.Proofs.YtkeapmmochpcfaaGreat.Rp
open Go.ChangeShapes Go.WideShapes Go.ChangeAt Go.RowKit
open Vv (Sl sv hidIt)
open Rc (BelowBy BelowBy.one wp_region_below calls_below calls_same)
end Go.Proofs.YtkeapmmochpcfaaGreat.Rp
namespace Go.Proofs.YtkeapmmochpcfaaGreat.Rp
open Go.ChangeShapes Go.WideShapes Go.ChangeAt Go.RowKit
open Vv (Sl sv hidIt)
open Rg (upd waits wp_region_inv op_at)
def BotP (r r':Rep) (w:World) (e:Ending) (w':World):Prop:=∃ (x y:Sl) (J:Rep),e=.returned (.agg #[sv x,sv y])∧En.Own w' w.heap.size (sv x) J.1∧Mm.Own w' w.heap.size (sv y) J.2∧En.toB J.1=Bk.mergeE (En.toB r.1) (En.toB r'.1)∧Mm.toB J.2=Mk.mergeE (Mm.toB r.2) (Mm.toB r'.2)∧Below w.heap.size w w'
theorem BotP.of {r r':Rep} {w w':World} {e:Ending} (x y:Sl) (J:Rep) (h:e=.returned (.agg #[sv x,sv y])) (h1:En.Own w' w.heap.size (sv x) J.1) (h2:Mm.Own w' w.heap.size (sv y) J.2) (h3:En.toB J.1=Bk.mergeE (En.toB r.1) (En.toB r'.1)) (h4:Mm.toB J.2=Mk.mergeE (Mm.toB r.2) (Mm.toB r'.2)) (h5:Below w.heap.size w w'):BotP r r' w e w':=⟨x,y,J,h,h1,h2,h3,h4,h5⟩
theorem BotP.out {r r':Rep} {w w':World} {e:Ending} (h:BotP r r' w e w'):∃ (x y:Sl) (J:Rep),e=.returned (.agg #[sv x,sv y])∧En.Own w' w.heap.size (sv x) J.1∧Mm.Own w' w.heap.size (sv y) J.2∧En.toB J.1=Bk.mergeE (En.toB r.1) (En.toB r'.1)∧Mm.toB J.2=Mk.mergeE (Mm.toB r.2) (Mm.toB r'.2)∧Below w.heap.size w w':=h
theorem impl_bothOf (s t p q:Sl) (r r':Rep) (w:World) (hE:RdE w s r.1) (hM:RdM w t r.2) (hE':RdE w p r'.1) (hM':RdM w q r'.2) (hs:En.shortR r.1) (hs':En.shortR r'.1) (ok:okR r=true) (ok':okR r'=true) (hl:(Bk.mergeE (En.toB r.1) (En.toB r'.1)).length<=80) :
  Calls Tryz.prog 29 #[.agg #[sv s,sv t],.agg #[sv p,sv q]] w fun e w'=>BotP r r' w e w':=by
 unfold okR at ok ok'
 rw[Bool.and_eq_true] at ok ok'
 have ej:Bk.joinB (En.toB r.1) (En.toB r'.1)=(Bk.mergeE (En.toB r.1) (En.toB r'.1),true):=by unfold Bk.joinB;rw[if_pos ⟨ok.1,ok'.1,hl⟩]
 have em:Mk.mergeB (Mm.toB r.2) (Mm.toB r'.2)=Mk.mergeE (Mm.toB r.2) (Mm.toB r'.2):=by unfold Mk.mergeB;rw[if_pos ⟨ok.2,ok'.2⟩]
 obtain⟨s0,s1,s2⟩:=s
 obtain⟨t0,t1,t2⟩:=t
 obtain⟨p0,p1,p2⟩:=p
 obtain⟨q0,q1,q2⟩:=q
 obtain⟨e1,rE,nE,lE,cE⟩:=hE
 obtain⟨e2,rM,nM,lM,cM⟩:=hM
 obtain⟨e3,rE',nE',lE',cE'⟩:=hE'
 obtain⟨e4,rM',nM',lM',cM'⟩:=hM'
 simp only at e1 rE nE lE cE e2 rM nM lM cM e3 rE' nE' lE' cE' e4 rM' nM' lM' cM'
 have C1:=hidIt (fun W (h:En.Rd W s0 r.1) (h':En.Rd W p0 r'.1)=>En.impl_Joined s0 p0 s2 p2 r.1 r'.1 W h h' lE lE' (by omega) (by omega) hs hs')
 have C2:=hidIt (fun W (h:Mm.Rd W t0 r.2) (h':Mm.Rd W q0 r'.2)=>Mm.impl_Merged t0 q0 t2 q2 r.2 r'.2 W h h' nM (by omega) (by omega))
 rw[ej,<- e1,<- e3] at C1
 rw[em,<- e2,<- e4] at C2
 simp only at C1
 have HF:Hid (∀ (x y:Sl) (J:Rep) (w':World),En.Own w' w.heap.size (sv x) J.1->Mm.Own w' w.heap.size (sv y) J.2->En.toB J.1=Bk.mergeE (En.toB r.1) (En.toB r'.1)->Mm.toB J.2=Mk.mergeE (Mm.toB r.2) (Mm.toB r'.2)->Below w.heap.size w w'->BotP r r' w (.returned (.agg #[sv x,sv y])) w'):=hidIt (fun x y J w' h1 h2 h3 h4 h5=>BotP.of x y J rfl h1 h2 h3 h4 h5)
 generalize Bk.mergeE (En.toB r.1) (En.toB r'.1)=gE at C1 HF
 generalize Mk.mergeE (Mm.toB r.2) (Mm.toB r'.2)=gM at C2 HF
 have ka:=(((Below.refl w.heap.size w).alloc (Nat.le_refl _) (.cells #[.slice s0 s1 s2,.slice t0 t1 t2] 32)).alloc (by simp) (.cells #[.slice p0 p1 p2,.slice q0 q1 q2] 32)).alloc (by simp;omega) (.cells #[.slice none 0 0,.slice none 0 0] 32)
 have HB:=hidIt ka
 have B1:=Bo.Box.new w #[.slice s0 s1 s2,.slice t0 t1 t2] 32
 have B2:=Bo.Box.new (w.alloc (.cells #[.slice s0 s1 s2,.slice t0 t1 t2] 32)) #[.slice p0 p1 p2,.slice q0 q1 q2] 32
 have B3:=Bo.Box.new ((w.alloc (.cells #[.slice s0 s1 s2,.slice t0 t1 t2] 32)).alloc (.cells #[.slice p0 p1 p2,.slice q0 q1 q2] 32)) #[.slice none 0 0,.slice none 0 0] 32
 have k2:=(Below.refl (w.alloc (.cells #[.slice s0 s1 s2,.slice t0 t1 t2] 32)).heap.size (w.alloc (.cells #[.slice s0 s1 s2,.slice t0 t1 t2] 32))).alloc (Nat.le_refl _) (.cells #[.slice p0 p1 p2,.slice q0 q1 q2] 32)
 have k3:=(Below.refl ((w.alloc (.cells #[.slice s0 s1 s2,.slice t0 t1 t2] 32)).alloc (.cells #[.slice p0 p1 p2,.slice q0 q1 q2] 32)).heap.size ((w.alloc (.cells #[.slice s0 s1 s2,.slice t0 t1 t2] 32)).alloc (.cells #[.slice p0 p1 p2,.slice q0 q1 q2] 32))).alloc (Nat.le_refl _) (.cells #[.slice none 0 0,.slice none 0 0] 32)
 have BX:=hidIt ((B1.kept k2).kept k3)
 have BY:=hidIt (B2.kept k3)
 have BZ:=hidIt B3
 have H1:=hidIt (rE.kept ka)
 have H2:=hidIt (rM.kept ka)
 have H3:=hidIt (rE'.kept ka)
 have H4:=hidIt (rM'.kept ka)
 clear ka B1 B2 B3 k2 k3 rE rM rE' rM' e1 e2 e3 e4 ej em hs hs'
 simp only[sv]
 go_enter Tryz.func29,Tryz.ntmps29
 go_wp2_with (fail)
 have HSZ:Hid ((((w.alloc (.cells #[.slice s0 s1 s2,.slice t0 t1 t2] 32)).alloc (.cells #[.slice p0 p1 p2,.slice q0 q1 q2] 32)).alloc (.cells #[.slice none 0 0,.slice none 0 0] 32)).heap.size=w.heap.size+3):=hidIt (by simp)
 have hb2:(w.alloc (.cells #[.slice s0 s1 s2,.slice t0 t1 t2] 32)).heap.size=w.heap.size+1:=by simp
 have hb3:((w.alloc (.cells #[.slice s0 s1 s2,.slice t0 t1 t2] 32)).alloc (.cells #[.slice p0 p1 p2,.slice q0 q1 q2] 32)).heap.size=w.heap.size+2:=by simp
 rw[hb2] at BY
 rw[hb3] at BZ
 clear hb2 hb3
 generalize ((w.alloc (.cells #[.slice s0 s1 s2,.slice t0 t1 t2] 32)).alloc (.cells #[.slice p0 p1 p2,.slice q0 q1 q2] 32)).alloc (.cells #[.slice none 0 0,.slice none 0 0] 32)=wz at HB BX BY BZ H1 H2 H3 H4 HSZ ⊢
 refine (C1.out _ H1.out H3.out).mono ?_
 rintro e w1 ⟨v,J1,rfl,j1,o1,k1⟩
 obtain⟨za,zc,ez,_⟩:=o1.form
 subst ez
 have HB1:=hidIt (on HB.out k1)
 have BZ1:=hidIt (BZ.out.kept k1)
 have c1:=(BX.out.kept k1).c 1 rfl
 have c2:=(BY.out.kept k1).c 1 rfl
 have H5:=hidIt (H2.out.kept k1)
 have H6:=hidIt (H4.out.kept k1)
 have HO1:=hidIt o1
 have HJ1:=hidIt j1
 have HK1:=hidIt k1
 clear k1 o1 j1
 generalize hj1:J1.length=l1 at *
 have HL1:=hidIt hj1
 clear hj1
 go_wp2_with (fail)
 refine (C2.out _ H5.out H6.out).mono ?_
 rintro e w2 ⟨v,J2,rfl,j2,o2,k2⟩
 obtain⟨ya,yc,ey,_⟩:=o2.form
 subst ey
 have HB2:=hidIt (on HB1.out k2)
 have BZ2:=hidIt (BZ1.out.kept k2)
 have d0:=BZ2.out.c 0 rfl
 have d1:=BZ2.out.c 1 rfl
 have fz:=BZ2.out.fr
 have HO2:=hidIt o2
 have HO3:=hidIt (HO1.out.kept k2)
 have HJ2:=hidIt j2
 have HSz1:=HK1.out.size
 clear k2 o2 j2 c1 c2
 generalize hj2:J2.length=l2 at *
 have HL2:=hidIt hj2
 clear hj2
 go_wp2_with (fail)
 have BX9:=hidIt ((BZ2.out.put 0 (.slice za l1 zc) (by decide) rfl).put 1 (.slice ya l2 yc) (by simp) rfl)
 have HB9:=hidIt ((HB2.out.setCell (p:=⟨w.heap.size+2,0,none⟩) (by simp) (.slice za l1 zc)).setCell (p:=⟨w.heap.size+2,1,none⟩) (by simp) (.slice ya l2 yc))
 have OE9:En.Own ((w2.setCell ⟨w.heap.size+2,0,none⟩ (.slice za l1 zc)).setCell ⟨w.heap.size+2,1,none⟩ (.slice ya l2 yc)) w.heap.size (sv (za,l1,zc)) J1:=En.Own.mono (ownsRow_setCell_below (ownsRow_setCell_below HO3.out (a:=⟨w.heap.size+2,0,none⟩) (by have:=HSZ.out;show w.heap.size+2<_;omega) _) (a:=⟨w.heap.size+2,1,none⟩) (by have:=HSZ.out;show w.heap.size+2<_;omega) _) (by have:=HSZ.out;omega)
 have OM9:Mm.Own ((w2.setCell ⟨w.heap.size+2,0,none⟩ (.slice za l1 zc)).setCell ⟨w.heap.size+2,1,none⟩ (.slice ya l2 yc)) w.heap.size (sv (ya,l2,yc)) J2:=Mm.Own.mono (ownsRow_setCell_below (ownsRow_setCell_below HO2.out (a:=⟨w.heap.size+2,0,none⟩) (by have:=HSZ.out;show w.heap.size+2<_;omega) _) (a:=⟨w.heap.size+2,1,none⟩) (by have:=HSZ.out;show w.heap.size+2<_;omega) _) (by have:=HSZ.out;omega)
 have HFin:=hidIt (HF.out (za,l1,zc) (ya,l2,yc) (J1,J2) _ OE9 OM9 HJ1.out HJ2.out HB9.out)
 clear OE9 OM9 HB9
 generalize (w2.setCell ⟨w.heap.size+2,0,none⟩ (.slice za l1 zc)).setCell ⟨w.heap.size+2,1,none⟩ (.slice ya l2 yc)=w9 at BX9 HFin ⊢
 have t0':=BX9.out.c 0 (v:=.slice za l1 zc) rfl
 have t1':=BX9.out.c 1 (v:=.slice ya l2 yc) rfl
 exact bodyPost_ret (v:=.agg #[.slice za l1 zc,.slice ya l2 yc]) (by simp[results,Tryz.results29,go_sem,t0',t1']) rfl HFin.out
def CPTb (g m cap f t s1 s2 t1 t2 p1 p2 q1 q2:Nat) (s0 t0 p0 q0:Option Addr) (r r':Rep) (w0:World) (W:World) (v:Value):Prop:=∃ (s u:Sl) (J:Rep),v=.agg #[sv s,sv u]∧En.Own W w0.heap.size (sv s) J.1∧Mm.Own W w0.heap.size (sv u) J.2∧En.toB J.1=Bk.mergeE (En.toB r.1) (En.toB r'.1)∧Mm.toB J.2=Mk.mergeE (Mm.toB r.2) (Mm.toB r'.2)∧Below w0.heap.size w0 W
def SPTb (g m cap f t s1 s2 t1 t2 p1 p2 q1 q2:Nat) (s0 t0 p0 q0:Option Addr) (r r':Rep) (w0:World) (W':World):Prop:=∃ (W:World) (s u:Sl) (J:Rep),W'=(W.setCell ⟨g,t*2,none⟩ (sv s)).setCell ⟨g,t*2+1,none⟩ (sv u)∧En.Own W w0.heap.size (sv s) J.1∧Mm.Own W w0.heap.size (sv u) J.2∧En.toB J.1=Bk.mergeE (En.toB r.1) (En.toB r'.1)∧Mm.toB J.2=Mk.mergeE (Mm.toB r.2) (Mm.toB r'.2)∧Below w0.heap.size w0 W
structure RK_Tb (g m cap f t s1 s2 t1 t2 p1 p2 q1 q2:Nat) (s0 t0 p0 q0:Option Addr) (r r':Rep) (w0:World) (W0:World) (L:Nat->Bool) (u40 u41 u42 u43 u44 u45 u46 u47 u48 u49 u50 u51:Value) (W:World):Prop where
 st0:L 10=false->W=W0
 st1:L 10=true->L 12=false->CPTb g m cap f t s1 s2 t1 t2 p1 p2 q1 q2 s0 t0 p0 q0 r r' w0 W u50
 st2:L 12=true->SPTb g m cap f t s1 s2 t1 t2 p1 p2 q1 q2 s0 t0 p0 q0 r r' w0 W
 dep:L 10=true->L 5=true∧L 9=true
 dps:L 12=true->L 10=true
 k0:L 0=true->u40=.slice (some ⟨g,0,none⟩) m cap
 k1:L 1=true->u41=.int .i64 t
 k2:L 2=true->u42=.slice (some ⟨g,0,none⟩) m cap
 k3:L 3=true->u43=.int .i64 f
 k4:L 4=true->u44=.pointer (some ⟨g,f*2,none⟩)
 k5:L 5=true->u45=.agg #[.slice p0 p1 p2,.slice q0 q1 q2]
 k6:L 6=true->u46=.slice (some ⟨g,0,none⟩) m cap
 k7:L 7=true->u47=.int .i64 t
 k8:L 8=true->u48=.pointer (some ⟨g,t*2,none⟩)
 k9:L 9=true->u49=.agg #[.slice s0 s1 s2,.slice t0 t1 t2]
 k11:L 11=true->u51=.pointer (some ⟨g,t*2,none⟩)
def KK_Tb (g m cap f t s1 s2 t1 t2 p1 p2 q1 q2:Nat) (s0 t0 p0 q0:Option Addr) (r r':Rep) (w0:World) (W0:World) (y0 y1 y2 y3 y4 y5 y6 y7 y8 y9 y10 y11 y12 y13 y14 y15 y16 y17 y18 y19 y20 y21 y22 y23 y24 y25 y26 y27 y28 y29 y30 y31 y32 y33 y34 y35 y36 y37 y38 y39 y52:Value) (L:Nat->Bool) (a:Act) (W:World):Prop:=∃ u40 u41 u42 u43 u44 u45 u46 u47 u48 u49 u50 u51:Value,a=⟨(y0::y1::y2::y3::y4::y5::y6::y7::y8::y9::y10::y11::y12::y13::y14::y15::y16::y17::y18::y19::y20::y21::y22::y23::y24::y25::y26::y27::y28::y29::y30::y31::y32::y33::y34::y35::y36::y37::y38::y39::u40::u41::u42::u43::u44::u45::u46::u47::u48::u49::u50::u51::y52::[]).toArray,[]⟩∧RK_Tb g m cap f t s1 s2 t1 t2 p1 p2 q1 q2 s0 t0 p0 q0 r r' w0 W0 L u40 u41 u42 u43 u44 u45 u46 u47 u48 u49 u50 u51 W
theorem both_len {L:List Rep} (ok:okG L=true) {f t:Nat} (hf:f<L.length) (ht:t<L.length):(Bk.mergeE (En.toB (rat L f).1) (En.toB (rat L t).1)).length<=80∧Bk.mergeE (En.toB (rat L f).1) (En.toB (rat L t).1)=Bk.whole (bks [rat L t,rat L f])∧Mk.mergeE (Mm.toB (rat L f).2) (Mm.toB (rat L t).2)=Mk.whole (mbs [rat L t,rat L f]):=by
 have hT:=okG_tame ok
 have e1:Bk.mergeE (En.toB (rat L f).1) (En.toB (rat L t).1)=Bk.whole (bks [rat L t,rat L f]):=by
  show _=Bk.mergeE (Bk.mergeE [] _) _
  rw[Bk.mergeE_nil]
  exact Bk.merge_comm (hT.br f hf) (hT.br t ht)
 refine⟨?_,e1,?_⟩
 ·
  obtain⟨h1,h2,h3,h4⟩:=(okG_iff L).1 ok
  have hg:=h3.tell (f:=f) (t:=t) (by rw[bks_length];exact hf) (by rw[bks_length];exact ht)
  have hm:Bk.at0 (Bk.tell (bks L) f t) t∈Bk.tell (bks L) f t:=Bk.at0_mem (by rw[Bk.tell_length,bks_length];exact ht)
  have hl:=Bk.len_whole hg.ris hm
  rw[Bk.tell_at (by rw[bks_length];exact ht),if_pos rfl,bks_at ht,bks_at hf,Bk.merge_comm (hT.br t ht) (hT.br f hf)] at hl
  have:=hg.len
  omega
 ·
  show _=Mk.mergeE (Mk.mergeE [] _) _
  rw[Mk.mergeE_nil]
  exact Mk.merge_comm (hT.mr f hf) (hT.mr t ht)
theorem impl_Told (a:Option Addr) (cap:Nat) (L:List Rep) (f t:Int) (w:World) (h:Rd w a L) (hs:Short L) (hl:L.length<=9223372036854775807) (hlb:∀ i,i<L.length->(rat L i).1.length<=9223372036854775807∧(rat L i).2.length<=9223372036854775807) :
  Calls Tryz.prog 7 #[.slice a L.length cap,.int .i64 f,.int .i64 t] w fun e w'=>TolP L f t w e w':=by
 have CG:=hidIt (fun W (r:Rd W a L)=>impl_GroupOk a cap L W r hs hl hlb)
 have HR:=hidIt h
 have HSh:=hidIt hs
 clear h hs hlb
 cases ok:okG L with
 | false =>
  rw[ok] at CG
  have HT:=hidIt (ToldR.mkNo (f:=f) (t:=t) ok)
  clear ok
  generalize L.length=m at *
  go_enter Tryz.func7,Tryz.ntmps7
  go_wp2_with (fail)
  refine (CG.out _ HR.out).mono ?_
  rintro e w1 ⟨rfl,k⟩
  have HB1:=hidIt k
  clear k
  go_wp2_with (fail)
  refine bodyPost_ret (v:=.tuple #[.slice (some ⟨w1.heap.size,0,none⟩) 0 0,.bool false]) (by simp[results,Tryz.results7,go_sem]) rfl ?_
  exact TolP.of rfl HT.out ((Own.new w1).mono HB1.out.size (by simp) (Nat.le_refl _)) (HB1.out.alloc HB1.out.size _)
 | true =>
  rw[ok] at CG
  have hT:=okG_tame ok
  have hall:=okG_all ok
  have h1:=hall.1
  have h6:=hall.2.1
  have CC:=hidIt (fun W (r:Rd W a L)=>impl_copiedReplicas a cap L W r hT)
  have CB:=hidIt (fun W s t p q (f' t':Nat) (hf:f'<L.length) (ht:t'<L.length) (hE:RdE W s (rat L f').1) (hM:RdM W t (rat L f').2) (hE':RdE W p (rat L t').1) (hM':RdM W q (rat L t').2)=>impl_bothOf s t p q (rat L f') (rat L t') W hE hM hE' hM' (HSh.out f' hf) (HSh.out t' ht) (hall.2.2.1 f' hf) (hall.2.2.1 t' ht) (both_len ok hf ht).1)
  have HTO:=hidIt (fun (q:¬ inG L.length f t)=>ToldR.mkOut (f:=f) (t:=t) ok q)
  have HTY:=hidIt (fun M (q:inG L.length f t) (k:TellR L M f.toNat t.toNat)=>ToldR.mkYes (f:=f) (t:=t) ok q k)
  have HTS:=hidIt (fun (f' t':Nat) (J:Rep) (hf:f'<L.length) (ht:t'<L.length) (e1:En.toB J.1=Bk.mergeE (En.toB (rat L f').1) (En.toB (rat L t').1)) (e2:Mm.toB J.2=Mk.mergeE (Mm.toB (rat L f').2) (Mm.toB (rat L t').2))=>tell_set (J:=J) hf ht (e1.trans (both_len ok hf ht).2.1) (e2.trans (both_len ok hf ht).2.2))
  clear ok hall hT
  generalize hn:L.length=m at *
  have HN:=hidIt hn
  clear hn
  go_enter Tryz.func7,Tryz.ntmps7
  go_wp2_with (fail)
  refine (CG.out _ HR.out).mono ?_
  rintro e w1 ⟨rfl,k⟩
  have HB1:=hidIt k
  clear k
  go_wp2_with (fail)
  refine (CC.out _ (HR.out.kept HB1.out)).mono ?_
  intro e w2 hz
  obtain⟨v,rfl,o2,k2⟩:=hz.out
  obtain⟨va,vc,ev,hvc,hvm,hvn⟩:=o2.formN HN.out
  subst ev
  obtain⟨g,eg⟩:=own_zero o2 (by rw[HN.out];exact h1)
  subst eg
  have HB2:=hidIt (on HB1.out k2)
  have HO2:=hidIt (o2.mono HB1.out.size (Nat.le_refl _) (Nat.le_refl _))
  clear hz o2 k2 hvn CG CC
  by_cases q:inG m f t
  ·
   unfold inG at q
   obtain⟨f',rfl⟩:∃ f':Nat,f=(f':Int):=⟨f.toNat,by omega⟩
   obtain⟨t',rfl⟩:∃ t':Nat,t=(t':Int):=⟨t.toNat,by omega⟩
   have z1:decide ((f':Int)<0)=false:=decide_eq_false (by omega)
   have z2:decide ((m:Int)<=(f':Int))=false:=decide_eq_false (by omega)
   have z3:decide ((t':Int)<0)=false:=decide_eq_false (by omega)
   have z4:decide ((m:Int)<=(t':Int))=false:=decide_eq_false (by omega)
   have z5:((f':Int)==(t':Int))=false:=by simpa using q.2.2.2.2
   have z6:decide (m<=f')=false:=decide_eq_false (by omega)
   have z7:decide (m<=t')=false:=decide_eq_false (by omega)
   have z8:f'<m:=by omega
   have z9:t'<m:=by omega
   have z10:¬ f'=t':=by omega
   have HTY1:=hidIt (fun M (k:TellR L M f' t')=>HTY.out M q (by simpa using k))
   clear q HTY HTO
   have htL:t'<L.length:=by rw[HN.out];exact z9
   have hfL:f'<L.length:=by rw[HN.out];exact z8
   obtain⟨⟨s0,s1,s2⟩,⟨t0,t1,t2⟩,c0,c1,f0,f1,oE,oM⟩:=HO2.out.cells htL
   obtain⟨⟨p0,p1,p2⟩,⟨q0,q1,q2⟩,d0,d1,_,_,oE',oM'⟩:=HO2.out.cells hfL
   have kd:Below w2.heap.size w2 w2.drew:=(Below.refl _ w2).drew
   have HC0:=hidIt (CB.out w2.drew (p0,p1,p2) (q0,q1,q2) (s0,s1,s2) (t0,t1,t2) f' t' z8 z9 ((rdE_of oE').kept kd) ((rdM_of oM').kept kd) ((rdE_of oE).kept kd) ((rdM_of oM).kept kd))
   have hgw:g<w2.drew.heap.size:=World.block_lt_of_cell? _ _ c0
   have hgl:w.heap.size<=g:=by
    obtain⟨C,hC⟩:=HO2.out
    exact (World.ownsRow.lt hC.row g rfl).1
   have c0':w2.drew.cell? ⟨g,t'*2,none⟩=some (.slice s0 s1 s2):=c0
   have c1':w2.drew.cell? ⟨g,t'*2+1,none⟩=some (.slice t0 t1 t2):=c1
   have d0':w2.drew.cell? ⟨g,f'*2,none⟩=some (.slice p0 p1 p2):=d0
   have d1':w2.drew.cell? ⟨g,f'*2+1,none⟩=some (.slice q0 q1 q2):=d1
   have f0':w2.drew.frozen? ⟨g,t'*2,none⟩=false:=f0
   have f1':w2.drew.frozen? ⟨g,t'*2+1,none⟩=false:=f1
   clear c0 c1 d0 d1 f0 f1 oE oM oE' oM' kd CB
   obtain⟨W0,hW0⟩:∃ W0,W0=w2.drew:=⟨_,rfl⟩
   have HBW:Hid (∀ W,Below W0.heap.size W0 W->Below w2.heap.size w2 W):=hidIt (fun W k=>by rw[hW0] at k;exact⟨k.os,k.tape,k.output,k.size,k.block⟩)
   have HSZ:Hid (W0.heap.size=w2.heap.size):=hidIt (by rw[hW0];rfl)
   rw[<- hW0] at c0' c1' d0' d1' f0' f1' HC0 hgw
   have c0:=c0'
   have c1:=c1'
   have d0:=d0'
   have d1:=d1'
   have f0:=f0'
   have f1:=f1'
   have HC:=HC0
   clear c0' c1' d0' d1' f0' f1' HC0
   have hti:(t':Int)<(m:Int):=by omega
   have hfi:(f':Int)<(m:Int):=by omega
   have ht0:(0:Int)<=(t':Int):=by omega
   have hf0:(0:Int)<=(f':Int):=by omega
   simp only[sv] at HC
   go_wp2_with (fail)
   refine wp_region_inv (by kernel_rfl) (by kernel_rfl) (KK_Tb g m vc f' t' s1 s2 t1 t2 p1 p2 q1 q2 s0 t0 p0 q0 (rat L f') (rat L t') W0 (W0) _ _ _ _ _ _ _ _ _ _ _ _ _ _ _ _ _ _ _ _ _ _ _ _ _ _ _ _ _ _ _ _ _ _ _ _ _ _ _ _ _) ⟨_,_,_,_,_,_,_,_,_,_,_,_,rfl,⟨fun _=>hW0.symm,(fun q=>by cases q),(fun q=>by cases q),(fun q=>by cases q),(fun q=>by cases q),(fun q=>by cases q),(fun q=>by cases q),(fun q=>by cases q),(fun q=>by cases q),(fun q=>by cases q),(fun q=>by cases q),(fun q=>by cases q),(fun q=>by cases q),(fun q=>by cases q),(fun q=>by cases q),(fun q=>by cases q)⟩⟩ ?_ ?_
   case refine_1 =>
    clear hW0
    intro Lb a' W i hi hI hL hD
    have hcases:i=0∨i=1∨i=2∨i=3∨i=4∨i=5∨i=6∨i=7∨i=8∨i=9∨i=10∨i=11∨i=12:=by simp at hi;omega
    clear hi
    obtain⟨u40,u41,u42,u43,u44,u45,u46,u47,u48,u49,u50,u51,rfl,R⟩:=hI
    rcases hcases with rfl | rfl | rfl | rfl | rfl | rfl | rfl | rfl | rfl | rfl | rfl | rfl | rfl
    ·
     skip
     refine op_at rfl (fun K hK=>?_)
     go_simp
     refine hK _ _ ?_
     exact⟨_,_,_,_,_,_,_,_,_,_,_,_,rfl,R.st0,R.st1,R.st2,R.dep,R.dps,(fun _=>rfl),R.k1,R.k2,R.k3,R.k4,R.k5,R.k6,R.k7,R.k8,R.k9,R.k11⟩
    ·
     skip
     refine op_at rfl (fun K hK=>?_)
     go_simp
     refine hK _ _ ?_
     exact⟨_,_,_,_,_,_,_,_,_,_,_,_,rfl,R.st0,R.st1,R.st2,R.dep,R.dps,R.k0,(fun _=>rfl),R.k2,R.k3,R.k4,R.k5,R.k6,R.k7,R.k8,R.k9,R.k11⟩
    ·
     skip
     refine op_at rfl (fun K hK=>?_)
     go_simp
     refine hK _ _ ?_
     exact⟨_,_,_,_,_,_,_,_,_,_,_,_,rfl,R.st0,R.st1,R.st2,R.dep,R.dps,R.k0,R.k1,(fun _=>rfl),R.k3,R.k4,R.k5,R.k6,R.k7,R.k8,R.k9,R.k11⟩
    ·
     skip
     refine op_at rfl (fun K hK=>?_)
     go_simp
     refine hK _ _ ?_
     exact⟨_,_,_,_,_,_,_,_,_,_,_,_,rfl,R.st0,R.st1,R.st2,R.dep,R.dps,R.k0,R.k1,R.k2,(fun _=>rfl),R.k4,R.k5,R.k6,R.k7,R.k8,R.k9,R.k11⟩
    ·
     skip
     have e2:=R.k2 (hD 2 (by kernel_rfl))
     subst e2
     have e3:=R.k3 (hD 3 (by kernel_rfl))
     subst e3
     refine op_at rfl (fun K hK=>?_)
     go_simp
     refine hK _ _ ?_
     exact⟨_,_,_,_,_,_,_,_,_,_,_,_,rfl,R.st0,R.st1,R.st2,R.dep,R.dps,R.k0,R.k1,R.k2,R.k3,(fun _=>rfl),R.k5,R.k6,R.k7,R.k8,R.k9,R.k11⟩
    ·
     skip
     have e4:=R.k4 (hD 4 (by kernel_rfl))
     subst e4
     have hc:Lb 10=false:=by
      cases q:Lb 10 with
      | false=>rfl
      | true=>have z:=R.dep q;simp[hL] at z
     have eW:=R.st0 hc
     subst eW
     refine op_at rfl (fun K hK=>?_)
     go_simp
     refine hK _ _ ?_
     exact⟨_,_,_,_,_,_,_,_,_,_,_,_,rfl,R.st0,R.st1,R.st2,(fun q=>by have q2:Lb 10=true:=q;rw[hc] at q2;cases q2),R.dps,R.k0,R.k1,R.k2,R.k3,R.k4,(fun _=>rfl),R.k6,R.k7,R.k8,R.k9,R.k11⟩
    ·
     skip
     refine op_at rfl (fun K hK=>?_)
     go_simp
     refine hK _ _ ?_
     exact⟨_,_,_,_,_,_,_,_,_,_,_,_,rfl,R.st0,R.st1,R.st2,R.dep,R.dps,R.k0,R.k1,R.k2,R.k3,R.k4,R.k5,(fun _=>rfl),R.k7,R.k8,R.k9,R.k11⟩
    ·
     skip
     refine op_at rfl (fun K hK=>?_)
     go_simp
     refine hK _ _ ?_
     exact⟨_,_,_,_,_,_,_,_,_,_,_,_,rfl,R.st0,R.st1,R.st2,R.dep,R.dps,R.k0,R.k1,R.k2,R.k3,R.k4,R.k5,R.k6,(fun _=>rfl),R.k8,R.k9,R.k11⟩
    ·
     skip
     have e6:=R.k6 (hD 6 (by kernel_rfl))
     subst e6
     have e7:=R.k7 (hD 7 (by kernel_rfl))
     subst e7
     refine op_at rfl (fun K hK=>?_)
     go_simp
     refine hK _ _ ?_
     exact⟨_,_,_,_,_,_,_,_,_,_,_,_,rfl,R.st0,R.st1,R.st2,R.dep,R.dps,R.k0,R.k1,R.k2,R.k3,R.k4,R.k5,R.k6,R.k7,(fun _=>rfl),R.k9,R.k11⟩
    ·
     skip
     have e8:=R.k8 (hD 8 (by kernel_rfl))
     subst e8
     have hc:Lb 10=false:=by
      cases q:Lb 10 with
      | false=>rfl
      | true=>have z:=R.dep q;simp[hL] at z
     have eW:=R.st0 hc
     subst eW
     refine op_at rfl (fun K hK=>?_)
     go_simp
     refine hK _ _ ?_
     exact⟨_,_,_,_,_,_,_,_,_,_,_,_,rfl,R.st0,R.st1,R.st2,(fun q=>by have q2:Lb 10=true:=q;rw[hc] at q2;cases q2),R.dps,R.k0,R.k1,R.k2,R.k3,R.k4,R.k5,R.k6,R.k7,R.k8,(fun _=>rfl),R.k11⟩
    ·
     skip
     have e5:=R.k5 (hD 5 (by kernel_rfl))
     subst e5
     have e9:=R.k9 (hD 9 (by kernel_rfl))
     subst e9
     have eW:=R.st0 hL
     subst eW
     refine op_at rfl (fun K hK=>?_)
     go_simp
     refine (HC.out).mono ?_
     intro e W1 hz
     obtain⟨⟨x0,x1,x2⟩,⟨y0,y1,y2⟩,J,rfl,oE,oM,e1,e2,kk⟩:=hz.out
     simp only[sv]
     go_simp
     refine hK _ _ ?_
     exact⟨_,_,_,_,_,_,_,_,_,_,_,_,rfl,(fun q=>by cases q),(fun _ _=>⟨(x0,x1,x2),(y0,y1,y2),J,rfl,oE,oM,e1,e2,kk⟩),(fun q=>by have q2:=R.dps q;rw[hL] at q2;cases q2),(fun _=>⟨hD 5 (by kernel_rfl),hD 9 (by kernel_rfl)⟩),(fun _=>rfl),R.k0,R.k1,R.k2,R.k3,R.k4,R.k5,R.k6,R.k7,R.k8,R.k9,R.k11⟩
    ·
     skip
     have e0:=R.k0 (hD 0 (by kernel_rfl))
     subst e0
     have e1:=R.k1 (hD 1 (by kernel_rfl))
     subst e1
     refine op_at rfl (fun K hK=>?_)
     go_simp
     refine hK _ _ ?_
     exact⟨_,_,_,_,_,_,_,_,_,_,_,_,rfl,R.st0,R.st1,R.st2,R.dep,R.dps,R.k0,R.k1,R.k2,R.k3,R.k4,R.k5,R.k6,R.k7,R.k8,R.k9,(fun _=>rfl)⟩
    ·
     skip
     have e11:=R.k11 (hD 11 (by kernel_rfl))
     subst e11
     have hcc:=hD 10 (by kernel_rfl)
     have hc:=R.st1 hcc hL
     obtain⟨⟨x0,x1,x2⟩,⟨y0,y1,y2⟩,J,rfl,oE,oM,e1,e2,kz⟩:=hc
     have g0:W.cell? ⟨g,t'*2,none⟩=some (.slice s0 s1 s2):=by rw[kz.cell hgw];exact c0
     have g1:W.cell? ⟨g,t'*2+1,none⟩=some (.slice t0 t1 t2):=by rw[kz.cell hgw];exact c1
     have z0:W.frozen? ⟨g,t'*2,none⟩=false:=by rw[kz.frozen hgw];exact f0
     have z1:W.frozen? ⟨g,t'*2+1,none⟩=false:=by rw[kz.frozen hgw];exact f1
     simp only[sv]
     refine op_at rfl (fun K hK=>?_)
     go_simp
     refine hK _ _ ?_
     exact⟨_,_,_,_,_,_,_,_,_,_,_,_,rfl,(fun q=>by have q2:Lb 10=false:=q;rw[hcc] at q2;cases q2),(fun _ q=>by cases q),(fun _=>⟨W,(x0,x1,x2),(y0,y1,y2),J,rfl,oE,oM,e1,e2,kz⟩),R.dep,(fun _=>hcc),R.k0,R.k1,R.k2,R.k3,R.k4,R.k5,R.k6,R.k7,R.k8,R.k9,R.k11⟩
   case refine_2 =>
    intro Lb a' W hI hall
    obtain⟨u40,u41,u42,u43,u44,u45,u46,u47,u48,u49,u50,u51,rfl,R⟩:=hI
    have hS:=R.st2 (hall 12)
    clear R hall
    obtain⟨W1,s,u,J,rfl,oE,oM,e1,e2,kk⟩:=hS
    have kw:=HBW.out W1 kk
    have hO:=HO2.out.kept kw
    have hsz:w2.heap.size<=W0.heap.size:=by have:=HSZ.out;omega
    have hP:=hO.put htL (oE.mono hsz) (oM.mono hsz)
    have HG:=hidIt hP.grow
    have HB3:=hidIt (HB2.out.trans (((kw.mono (Nat.le_trans HB2.out.size (Nat.le_refl _))).setCell (p:=⟨g,t'*2,none⟩) hgl (sv s)).setCell (p:=⟨g,t'*2+1,none⟩) hgl (sv u)))
    have HT:=hidIt (HTY1.out _ (HTS.out f' t' J z8 z9 e1 e2))
    generalize (W1.setCell ⟨g,t'*2,none⟩ (sv s)).setCell ⟨g,t'*2+1,none⟩ (sv u)=w9 at HG HB3 ⊢
    clear hP hO kw oE oM e1 e2 kk
    go_wp2_with (fail)
    refine bodyPost_ret (v:=.tuple #[.slice (some ⟨g,0,none⟩) m vc,.bool true]) (by simp[results,Tryz.results7,go_sem]) rfl ?_
    exact TolP.of rfl HT.out HG.out HB3.out
  ·
   have HT:=hidIt (HTO.out q)
   clear CB HTY HTO HTS
   by_cases z1:f<0
   ·
    have z1':decide (f<0)=true:=decide_eq_true z1
    clear q
    go_wp2_with (fail)
    refine bodyPost_ret (v:=.tuple #[.slice (some ⟨g,0,none⟩) m vc,.bool false]) (by simp[results,Tryz.results7,go_sem]) rfl ?_
    exact TolP.of rfl HT.out HO2.out HB2.out
   ·
    have z1':decide (f<0)=false:=decide_eq_false z1
    by_cases z2:(m:Int)<=f
    ·
     have z2':decide ((m:Int)<=f)=true:=decide_eq_true z2
     clear q
     go_wp2_with (fail)
     refine bodyPost_ret (v:=.tuple #[.slice (some ⟨g,0,none⟩) m vc,.bool false]) (by simp[results,Tryz.results7,go_sem]) rfl ?_
     exact TolP.of rfl HT.out HO2.out HB2.out
    ·
     have z2':decide ((m:Int)<=f)=false:=decide_eq_false z2
     by_cases z3:t<0
     ·
      have z3':decide (t<0)=true:=decide_eq_true z3
      clear q
      go_wp2_with (fail)
      refine bodyPost_ret (v:=.tuple #[.slice (some ⟨g,0,none⟩) m vc,.bool false]) (by simp[results,Tryz.results7,go_sem]) rfl ?_
      exact TolP.of rfl HT.out HO2.out HB2.out
     ·
      have z3':decide (t<0)=false:=decide_eq_false z3
      by_cases z4:(m:Int)<=t
      ·
       have z4':decide ((m:Int)<=t)=true:=decide_eq_true z4
       clear q
       go_wp2_with (fail)
       refine bodyPost_ret (v:=.tuple #[.slice (some ⟨g,0,none⟩) m vc,.bool false]) (by simp[results,Tryz.results7,go_sem]) rfl ?_
       exact TolP.of rfl HT.out HO2.out HB2.out
      ·
       have z4':decide ((m:Int)<=t)=false:=decide_eq_false z4
       have ef:f=t:=by
        unfold inG at q
        omega
       subst ef
       have z5:(f==f)=true:=by simp
       clear q
       go_wp2_with (fail)
       refine bodyPost_ret (v:=.tuple #[.slice (some ⟨g,0,none⟩) m vc,.bool false]) (by simp[results,Tryz.results7,go_sem]) rfl ?_
       exact TolP.of rfl HT.out HO2.out HB2.out
end Go.Proofs.YtkeapmmochpcfaaGreat.Rp
