/- Goroutines: QFo. -/
import Derived.Test.YtkeapmmochpcfaaGreatBun10
import Derived.Conc.Beside
import Derived.Conc.CrowdComm
import Derived.DyingErrors
import Derived.Conc.CrowdCom2
import Derived.Conc.TokenTrace
set_option maxRecDepth 100000
set_option maxHeartbeats 32000000
set_option linter.unusedVariables false
set_option linter.unusedSectionVars false
namespace Go.Proofs.YtkeapmmochpcfaaGreat.Nf
open Go Go.Conc
def Own (P:Program) (g:Goroutine) (w:World) (g':Goroutine) (w':World) (ops:Array MemOp):Prop :=
 (∃ es,stepG P true g w=.go g' w' es∧g'.status=.running∧ops=MemOp.ofEvents 0 g.frame.fn g.frame.place es) ∨
 (∃ g2 c z cm w1 es cap buf closed s r tm,stepG P true g w=.comm g2 #[rcase c z] true (.recv cm) w1 es∧w1.heap[c]?=some (.chan cap buf closed s r tm)∧0<buf.size ∧
  g'=g2.finishComm P #[rcase c z] (.recv cm) 0 (buf.getD 0 undef) true∧w'=w1.setChan c cap (buf.extract 1 buf.size) closed s (r+1) tm ∧
  ops=MemOp.ofEvents 0 g.frame.fn g.frame.place es++#[{ g:=0,fn:=g2.frame.fn,pos:=g2.frame.place,act:=.recv c r cap },{ g:=0,fn:=g2.frame.fn,pos:=g2.frame.place,act:=.recvDone c r }]) ∨
 (∃ g2 c z cm w1 es cap s r tm,stepG P true g w=.comm g2 #[rcase c z] true (.recv cm) w1 es∧w1.heap[c]?=some (.chan cap #[] true s r tm) ∧
  g'=g2.finishComm P #[rcase c z] (.recv cm) 0 z false∧w'=w1 ∧
  ops=MemOp.ofEvents 0 g.frame.fn g.frame.place es++#[{ g:=0,fn:=g2.frame.fn,pos:=g2.frame.place,act:=.recvClosed c }])
def okOp (B:Nat->Prop) (n:Nat) (op:MemOp):Prop :=
 op.g=0∧((∃ e,okEv B n e∧op.act=.ofEvent e)∨∃ c,(¬ B c∧c<n)∧((∃ r k,op.act=.recv c r k)∨(∃ r,op.act=.recvDone c r)∨op.act=.recvClosed c))
def Stuck (P:Program) (g:Goroutine) (w:World):Prop :=
 (∃ o w',step P (oneG g w)=.ended o w')∨∃ g' w',step P (oneG g w)=.next (oneG g' w')∧g'.status=.blocked
def Quiets (P : Program) : Prop := ∀ t ∈ rtTs P, ∀ x, NoEnter P [(.iface t x, "")]
def Gone (P:Program) (g:Goroutine):Prop:=Lost P g∨g.dyingOn P
section
variable {K : Rul} {P : Program} {fi : Bool}
theorem step_one {g:Goroutine} {w:World} (h:g.status=.running):step P (oneG g w)=(runT P (crowd #[g] w none) 0).1:=by
 rw[step,stepT,move_oneG h]
 rfl
theorem ph_alone (g:Goroutine) (c:Nat) (b:Bool):partners ((#[g]:Array Goroutine).setIfInBounds 0 ph) c b=[]:=by
 refine partners_nil (fun j x hx=>?_)
 have:(#[g]:Array Goroutine).setIfInBounds 0 ph=#[ph]:=rfl
 rw[this] at hx
 match j with
 | 0=>simp at hx;subst hx;rfl
 | j+1=>simp at hx
theorem own_lone {g g':Goroutine} {w w':World} {ops:Array MemOp} (hr:g.status=.running) (h:Own P g w g' w' ops):step P (oneG g w)=.next (oneG g' w'):=by
 rw[step_one hr]
 rcases h with ⟨es,h1,h2,_⟩ | ⟨g2,c,z,cm,w1,es,cap,buf,closed,s,r,tm,h1,h2,h3,rfl,rfl,_⟩ | ⟨g2,c,z,cm,w1,es,cap,s,r,tm,h1,h2,rfl,rfl,_⟩
 ·
  rw[runT_crowd_go (i:=0) rfl h1]
  simp[crowd,oneG]
 ·
  rw[crowd_recv_buf (i:=0) rfl h1 h2 h3 (ph_alone _ _ _)]
  rfl
 ·
  rw[crowd_recv_closed (i:=0) rfl h1 h2 (ph_alone _ _ _)]
  rfl
theorem own_det {g g1 g2:Goroutine} {w w1 w2:World} {o1 o2:Array MemOp} (hr:g.status=.running) (h1:Own P g w g1 w1 o1) (h2:Own P g w g2 w2 o2):g1=g2∧w1=w2:=by
 have e1:=own_lone hr h1
 have e2:=own_lone hr h2
 rw[e1] at e2
 simp only[Stepped.next.injEq,oneG,Machine.mk.injEq] at e2
 obtain⟨rfl,e,_⟩:=e2
 simp at e
 exact⟨e,rfl⟩
theorem own_running {g g':Goroutine} {w w':World} {ops:Array MemOp} (h:Own P g w g' w' ops):g'.status=.running:=by
 rcases h with ⟨es,h1,h2,_⟩ | ⟨g2,c,z,cm,w1,es,cap,buf,closed,s,r,tm,h1,h2,h3,rfl,rfl,_⟩ | ⟨g2,c,z,cm,w1,es,cap,s,r,tm,h1,h2,rfl,rfl,_⟩
 ·
  exact h2
 ·
  rfl
 ·
  rfl
theorem lost_step (q:Quiets P) {g:Goroutine} (w:World) (h:Lost P g):(∃ o,stepG P true g w=.ended o w #[])∨∃ g',stepG P true g w=.go g' w #[]∧Gone P g'∧g'.status=.running:=by
 obtain⟨t,x,ht,hm⟩:=h.top
 have hd:=h.defers
 have ha:=h.alive
 obtain⟨fr,cs,st,dy,off⟩:=g
 dsimp only at hm hd ha
 subst ha
 have hb:=h.below
 dsimp only at hb
 cases hc:fr.catches P with
 | true => exact .inl ⟨.unsupported (.noEntry "a panic or Goexit out of a method that fmt calls behind a cut's door") (fr.pos P), by simp [stepG, unwind, hm, hd, hc]⟩
 | false =>
  cases cs with
  | nil =>
   refine .inr ⟨{ frame := fr, callers := [], status := .running, dying := some { todo := [(.iface t x, "")], texts := [], calling := false, pending := "", runtimeError := isRuntimeError P (some (.iface t x)) } }, ?_, .inr ⟨.inl rfl, _, rfl, rfl, q t ht x⟩, rfl⟩
   simp[stepG,unwind,hm,hd,hc,run_reportChain_one]
  | cons a rest =>
   obtain⟨ha1,ha2⟩:=hb a (List.mem_cons_self ..)
   refine .inr ⟨{ frame:=a.raise [{ v:=.iface t x,recovered:=false }],callers:=rest,status:=.running,dying:=none },?_,.inl ⟨rfl,rfl,⟨t,x,ht,?_⟩,?_,fun c hc=>hb c (List.mem_cons_of_mem _ hc)⟩,rfl⟩
   ·
    simp[stepG,unwind,hm,hd,hc]
   ·
    unfold Frame.raise;rw[ha2]
   ·
    unfold Frame.raise;rw[ha2];exact ha1
theorem gone_own (q:Quiets P) {g g':Goroutine} {w w':World} {ops:Array MemOp} (h:Gone P g) (ho:Own P g w g' w' ops):Gone P g':=by
 rcases h with h | h
 ·
  have key:=lost_step q w h
  rcases ho with ⟨es,h1,h2,_⟩ | ⟨g2,c,z,cm,w1,es,cap,buf,closed,s,r,tm,h1,_⟩ | ⟨g2,c,z,cm,w1,es,cap,s,r,tm,h1,_⟩
  ·
   rcases key with ⟨o,e⟩ | ⟨g'',e,hg,_⟩
   ·
    rw[e] at h1;cases h1
   ·
    rw[e] at h1;cases h1;exact hg
  ·
   rcases key with ⟨o,e⟩ | ⟨g'',e,hg,_⟩<;>(rw[e] at h1;cases h1)
  ·
   rcases key with ⟨o,e⟩ | ⟨g'',e,hg,_⟩<;>(rw[e] at h1;cases h1)
 ·
  have hk:=stepG_okD (P:=P) w h
  rcases ho with ⟨es,h1,h2,_⟩ | ⟨g2,c,z,cm,w1,es,cap,buf,closed,s,r,tm,h1,_⟩ | ⟨g2,c,z,cm,w1,es,cap,s,r,tm,h1,_⟩
  ·
   rw[h1] at hk;exact .inr hk
  ·
   rw[h1] at hk;exact hk.elim
  ·
   rw[h1] at hk;exact hk.elim
theorem ofEvents_ok {B:Nat->Prop} {m:Nat} {fn:FuncId} {pos:String} {es:Array Event} (h:∀ e∈es,okEv B m e):∀ op∈MemOp.ofEvents 0 fn pos es,okOp B m op:=by
 intro op hop
 obtain⟨e,he,rfl⟩:=Go.Conc.mem_ofEvents hop
 exact⟨rfl,.inl ⟨e,h e he,rfl⟩⟩
theorem over_finishComm {g:Goroutine} (hw:Waits K g.frame) (r:Code) (base:List Frame) (cs:Array CommCase) (sh:CommShape) (i:Nat) (v:Value) (ok:Bool):(over g r base).finishComm P cs sh i v ok=over (g.finishComm P cs sh i v ok) r base:=by
 obtain⟨ops,j,rest,k,ht,_⟩:=hw
 have:=fun x=>rf_finish (r:=r) (cs:=g.callers) ht x
 unfold Goroutine.finishComm over
 dsimp only
 rw[this]
theorem finishComm_JF {g:Goroutine} (h:JB K P fi g) (hw:Waits K g.frame) (hm:g.frame.mode=.run) (cs:Array CommCase) (sh:CommShape) (i:Nat) (v:Value) (ok:Bool):JB K P fi (g.finishComm P cs sh i v ok) :=
 ⟨rfl,h.alive,rfl,waits_finish h.top hw _,.inl ((finish_mode _ _).trans hm),h.below,by obtain⟨ops,j,rest,k,ht,_⟩:=hw;exact bot_finish ht hm h.bot _⟩
structure Two (K:Rul) (P:Program) (fi:Bool) (g:Goroutine) (v:World) (g':Goroutine) (v':World) (c:Nat):Prop where
 drawn:v'.drawn=v.drawn+c
 tape:v'.tape=v.tape
 own:∃ ops,Own P g v g' v' ops
 agree:∀ t d,(∀ i,i<c->t (d+i)=v.tape (v.drawn+i))->∃ ops,Own P g (on v t d) g' (on v' t (d+c)) ops
 same:Lost P g'∨(JB K P fi g'∧∀ r base B w,Pz B w v->∃ w' ops,Own P (over g r base) w (over g' r base) w' ops∧Pz B w' v'∧w.heap.size<=w'.heap.size∧∀ op∈ops,okOp B w'.heap.size op)
theorem out_run {g:Goroutine} (h:JB K P fi g∨Lost P g):g.status=.running:=by rcases h with h | h<;>exact h.run
theorem own_two (G:Good K P) {g:Goroutine} (hJ:JB K P fi g) (hA:¬ AtEnd g) (v:World):(∃ g' v' c,Two K P fi g v g' v' c)∨Stuck P g v:=by
 have h2:=stepG_two G hJ hA
 have hout:=h2.out v
 obtain⟨c,h1,htp,h3⟩:=h2.drew v
 have hsim:=fun r base B w hp=>h2.sim r base B w v hp
 dsimp only at hout h1 htp h3 hsim
 cases hs:stepG P true g v with
 | go g' v' es =>
  rw[hs] at hout h1 htp h3 hsim
  have hr:=out_run hout
  refine .inl ⟨g',v',c,h1,htp,⟨_,.inl ⟨es,hs,hr,rfl⟩⟩,fun t d ht=>⟨_,.inl ⟨es,by rw[h3 t d ht];rfl,hr,rfl⟩⟩,?_⟩
  by_cases hl:Lost P g'
  ·
   exact .inl hl
  ·
   refine .inr ⟨?_,fun r base B w hp=>?_⟩
   ·
    exact hout.resolve_right hl
   ·
    obtain⟨w',u,e,hp',hn,hu⟩:=(hsim r base B w hp).resolve_left hl
    exact⟨w',_,.inl ⟨u,e,hr,rfl⟩,hp',hn,ofEvents_ok hu⟩
 | comm g2 cs b sh v1 es =>
  rw[hs] at hout h1 htp h3 hsim
  obtain⟨hj,hwt,hmo,ch,z,cm,rfl,rfl,rfl⟩:=hout
  have hrn:=hJ.run
  cases ch with
  | chan ch =>
   cases ch with
   | none =>
    refine .inr (.inr ⟨parked g2 #[{ chan:=.chan none,send:=none,zero:=z }] (.recv cm),v1,?_,rfl⟩)
    rw[step_one hrn,runT_crowd_comm (i:=0) rfl hs]
    simp[communicate,ways,waitingAt,timerAhead,crowd,oneG,parked]
   | some r =>
    have ecase:({ chan:=.chan (some r),send:=none,zero:=z }:CommCase)=rcase r z:=rfl
    rw[ecase] at hs h3 hsim
    cases ho:v1.heap[r]? with
    | none =>
     refine .inr (.inl ⟨.stuck "a communication at a channel whose block is no channel's" (g2.frame.pos P), v1, ?_⟩)
     rw[step_one hrn,runT_crowd_comm (i:=0) rfl hs]
     simp[communicate,rcase,ho]
    | some o =>
     cases o with
     | chan cap buf closed s rcv tm =>
      have real:∀ rr base B w,Pz B w v->∃ w1 u,stepG P true (over g rr base) w=.comm (over g2 rr base) #[rcase r z] true (.recv cm) w1 u∧Pz B w1 v1∧w.heap.size<=w1.heap.size∧(∀ e∈u,okEv B w1.heap.size e)∧¬ B r∧r<w1.heap.size∧w1.heap[r]?=some (.chan cap buf closed s rcv tm):=by
       intro rr base B w hp
       obtain⟨w1,u,e,hp1,hn,hu⟩:=hsim rr base B w hp
       have hB:¬ B r:=fun hB=>by
        have:=(hp1.bad r hB).1
        rw[ho] at this
        cases this
       have hw1:w1.heap[r]?=some (.chan cap buf closed s rcv tm):=by rw[<- hp1.heap r hB];exact ho
       exact⟨w1,u,e,hp1,hn,hu,hB,lt_of_get hw1,hw1⟩
      by_cases hb:0<buf.size
      ·
       refine .inl ⟨_,v1.setChan r cap (buf.extract 1 buf.size) closed s (rcv+1) tm,c,h1,htp,⟨_,.inr (.inl ⟨g2,r,z,cm,v1,es,cap,buf,closed,s,rcv,tm,hs,ho,hb,rfl,rfl,rfl⟩)⟩,fun t d ht=>⟨_,.inr (.inl ⟨g2,r,z,cm,on v1 t (d+c),es,cap,buf,closed,s,rcv,tm,by rw[h3 t d ht];rfl,ho,hb,rfl,rfl,rfl⟩)⟩,.inr ⟨(finishComm_JF hj hwt hmo _ _ _ _ _),fun rr base B w hp=>?_⟩⟩
       obtain⟨w1,u,e,hp1,hn,hu,hB,hlt,hw1⟩:=real rr base B w hp
       refine⟨_,_,.inr (.inl ⟨over g2 rr base,r,z,cm,w1,u,cap,buf,closed,s,rcv,tm,e,hw1,hb,(over_finishComm hwt _ _ _ _ _ _ _).symm,rfl,rfl⟩),hp1.set hB _,by simpa [World.setChan] using hn,fun op hop=>?_⟩
       have hsz:(w1.setChan r cap (buf.extract 1 buf.size) closed s (rcv+1) tm).heap.size=w1.heap.size:=by simp[World.setChan]
       rw[hsz]
       rcases Array.mem_append.1 hop with hop | hop
       ·
        exact ofEvents_ok hu op hop
       ·
        simp at hop
        rcases hop with rfl | rfl
        ·
         exact⟨rfl,.inr ⟨r,⟨hB,hlt⟩,.inl ⟨_,_,rfl⟩⟩⟩
        ·
         exact⟨rfl,.inr ⟨r,⟨hB,hlt⟩,.inr (.inl ⟨_,rfl⟩)⟩⟩
      ·
       have hb0:buf=#[]:=by apply Array.eq_empty_of_size_eq_zero;omega
       subst hb0
       cases closed with
       | true =>
        refine .inl ⟨_,v1,c,h1,htp,⟨_,.inr (.inr ⟨g2,r,z,cm,v1,es,cap,s,rcv,tm,hs,ho,rfl,rfl,rfl⟩)⟩,fun t d ht=>⟨_,.inr (.inr ⟨g2,r,z,cm,on v1 t (d+c),es,cap,s,rcv,tm,by rw[h3 t d ht];rfl,ho,rfl,rfl,rfl⟩)⟩,.inr ⟨(finishComm_JF hj hwt hmo _ _ _ _ _),fun rr base B w hp=>?_⟩⟩
        obtain⟨w1,u,e,hp1,hn,hu,hB,hlt,hw1⟩:=real rr base B w hp
        refine⟨w1,_,.inr (.inr ⟨over g2 rr base,r,z,cm,w1,u,cap,s,rcv,tm,e,hw1,(over_finishComm hwt _ _ _ _ _ _ _).symm,rfl,rfl⟩),hp1,hn,fun op hop=>?_⟩
        rcases Array.mem_append.1 hop with hop | hop
        ·
         exact ofEvents_ok hu op hop
        ·
         simp at hop
         subst hop
         exact⟨rfl,.inr ⟨r,⟨hB,hlt⟩,.inr (.inr rfl)⟩⟩
       | false =>
        refine .inr (.inr ⟨parked g2 #[rcase r z] (.recv cm),v1,?_,rfl⟩)
        rw[step_one hrn,runT_crowd_comm (i:=0) rfl hs]
        have hp:=ph_alone g r true
        have e:(#[g]:Array Goroutine).setIfInBounds 0 ph=#[ph]:=rfl
        rw[e] at hp
        simp[communicate,ways,rcase,ho,hp,waitingAt,timerAhead,crowd,oneG,parked]
     | _ =>
      refine .inr (.inl ⟨.stuck "a communication at a channel whose block is no channel's" (g2.frame.pos P), v1, ?_⟩)
      rw[step_one hrn,runT_crowd_comm (i:=0) rfl hs]
      simp[communicate,rcase,ho]
  | _ =>
   refine .inr (.inl ⟨.stuck "a communication at a channel whose block is no channel's" (g2.frame.pos P), v1, ?_⟩)
   rw[step_one hrn,runT_crowd_comm (i:=0) rfl hs]
   simp[communicate]
 | ended o w' es =>
  refine .inr (.inl ⟨o,w',?_⟩)
  rw[step_one hJ.run,runT_many_ended (i:=0) rfl hs]
 | _=>rw[hs] at hout;exact hout.elim
end
end Go.Proofs.YtkeapmmochpcfaaGreat.Nf
namespace Go.Proofs.YtkeapmmochpcfaaGreat.Nf
open Go Go.Conc
section
variable {K : Rul} {P : Program} {fi : Bool} {R : Goroutine → World → Prop}
structure Goal (P:Program) (R:Goroutine->World->Prop):Prop where
 tape:∀ g w t d,R g w->R g (on w t d)
 run:∀ g w,R g w->g.status=.running∧g.dying=none∧∀ chain,g.frame.mode≠.panicking chain
 shape:∀ g w,R g w->g.callers=[]∧((g.frame.mode=.run∧g.frame.todo=[.code .skip])∨(g.frame.mode=.returning∧g.frame.todo≠[]))
def Path (P:Program) (R:Goroutine->World->Prop):Nat->Goroutine->World->Prop
 | 0,g,w=>R g w
 | k+1,g,w=>R g w∨∃ g' w' ops,Own P g w g' w' ops∧Path P R k g' w'
theorem gone_path (q:Quiets P) (hR:Goal P R):∀ (k:Nat) (g:Goroutine) (w:World),Gone P g->¬ Path P R k g w:=by
 have h0:∀ g w,Gone P g->¬ R g w:=by
  rintro g w (h | ⟨_,d,hd,_⟩) hr
  ·
   obtain⟨t,x,_,hm⟩:=h.top
   exact (hR.run g w hr).2.2 _ hm
  ·
   rw[(hR.run g w hr).2.1] at hd;cases hd
 intro k
 induction k with
 | zero=>exact h0
 | succ k ih =>
  rintro g w h (hr | ⟨g',w',ops,ho,hp⟩)
  ·
   exact h0 g w h hr
  ·
   exact ih g' w' (gone_own q h ho) hp
theorem ret_ends {fr:Frame} (h:OkF K P fr) (hm:fr.mode=.returning) (w:World):∃ o w' es,stepG P true { frame:=fr,callers:=[],status:=.running,dying:=none } w=.ended o w' es:=by
 have hd:=h.defers
 have hkd:=h.kind
 have hin:=h.init
 cases hf:P.funcs[fr.fn]? with
 | none=>exact⟨_,_,_,by simp[stepG,unwind,hm,hd,hf,doReturn,hkd,hin];exact⟨rfl,rfl,rfl⟩⟩
 | some fn =>
  cases hr:(results fn fr.tmps).runT P w #[] with
  | mk r es =>
   cases r with
   | ok v w'=>exact⟨_,_,_,by unfold stepG unwind;simp only[hm,hd,hf,hr,doReturn,hkd,hin,GStep.after];exact rfl⟩
   | halt x w'=>cases x<;>exact⟨_,_,_,by unfold stepG unwind;simp only[hm,hd,hf,hr,GStep.after];exact rfl⟩
theorem end_path (hR:Goal P R) {g:Goroutine} (hJ:JB K P fi g) (hE:AtEnd g) {w:World} (hr:¬ R g w) (k:Nat):¬ Path P R k g w:=by
 obtain⟨fr,cs,st,dy,off⟩:=g
 obtain⟨h1,h2,h3,htop,hmode,hb,hbot⟩:=hJ
 obtain⟨e1,e2,e3⟩:=hE
 dsimp only at h1 h2 h3 htop hmode hb hbot e1 e2 e3
 subst h1 h2 h3 e1
 have hro:=htop.round
 have s1:stepG P true { frame:=fr,callers:=[],status:=.running,dying:=none } w=.go { frame:={ fr with todo:=[] },callers:=[],status:=.running,dying:=none } w #[]:=by simp[stepG,stepG.exec,e2,e3]
 have s2:stepG P true { frame:={ fr with todo:=[] },callers:=[],status:=.running,dying:=none } w=.go { frame:={ fr with todo:=[],mode:=.returning },callers:=[],status:=.running,dying:=none } w #[]:=by simp[stepG,stepG.exec,e2,hro]
 have hok:OkF K P { fr with todo:=[],mode:=.returning }:=⟨htop.slots,by simp,htop.defers,htop.kind,htop.round,htop.init⟩
 obtain⟨o,w3,es,s3⟩:=ret_ends hok rfl w
 have o1:Own P { frame:=fr,callers:=[],status:=.running,dying:=none } w { frame:={ fr with todo:=[] },callers:=[],status:=.running,dying:=none } w #[]:=.inl ⟨#[],s1,rfl,rfl⟩
 have o2:Own P { frame:={ fr with todo:=[] },callers:=[],status:=.running,dying:=none } w { frame:={ fr with todo:=[],mode:=.returning },callers:=[],status:=.running,dying:=none } w #[]:=.inl ⟨#[],s2,rfl,rfl⟩
 have n2:¬ R { frame:={ fr with todo:=[] },callers:=[],status:=.running,dying:=none } w:=fun h=>by
  rcases (hR.shape _ _ h).2 with ⟨_,h⟩ | ⟨_,h⟩
  ·
   cases h
  ·
   exact h rfl
 have n3:¬ R { frame:={ fr with todo:=[],mode:=.returning },callers:=[],status:=.running,dying:=none } w:=fun h=>by
  rcases (hR.shape _ _ h).2 with ⟨_,h⟩ | ⟨_,h⟩
  ·
   cases h
  ·
   exact h rfl
 intro hp
 cases k with
 | zero=>exact hr hp
 | succ k =>
  obtain⟨g',w',ops,ho,hp⟩:=hp.resolve_left hr
  obtain⟨rfl,rfl⟩:=own_det rfl o1 ho
  cases k with
  | zero=>exact n2 hp
  | succ k =>
   obtain⟨g',w',ops,ho,hp⟩:=hp.resolve_left n2
   obtain⟨rfl,rfl⟩:=own_det rfl o2 ho
   cases k with
   | zero=>exact n3 hp
   | succ k =>
    obtain⟨g',w',ops,ho,hp⟩:=hp.resolve_left n3
    rcases ho with ⟨es',h1,_⟩ | ⟨g2,c,z,cm,w1,es',cap,buf,closed,s,rcv,tm,h1,_⟩ | ⟨g2,c,z,cm,w1,es',cap,s,rcv,tm,h1,_⟩<;>(rw[s3] at h1;cases h1)
theorem path_agree (G:Good K P) (q:Quiets P) (hR:Goal P R):∀ (k:Nat) (g:Goroutine) (w:World) (t t2:Tp) (d d2:Nat),JB K P fi g->(∀ j,t2 (d2+j)=t (d+j))->Path P R k g (on w t d)->Path P R k g (on w t2 d2)
 | 0,g,w,t,t2,d,d2,hI,ht,hp=>hR.tape g (on w t d) t2 d2 hp
 | k+1,g,w,t,t2,d,d2,hI,ht,hp=>by
  by_cases hr0:R g (on w t d)
  ·
   exact .inl (hR.tape g (on w t d) t2 d2 hr0)
  ·
   have hA:¬ AtEnd g:=fun hE=>end_path hR hI hE hr0 (k+1) hp
   obtain⟨g',w',ops,ho,hp⟩:=hp.resolve_left hr0
   rcases own_two G hI hA (on w t d) with ⟨g1,w1,c,T⟩ | hst
   ·
    obtain⟨o1,hown⟩:=T.own
    obtain⟨rfl,rfl⟩:=own_det hI.run hown ho
    obtain⟨o2,hown2⟩:=T.agree t2 d2 (fun i _=>ht i)
    refine .inr ⟨g1,on w1 t2 (d2+c),o2,hown2,?_⟩
    have e1:w1=on w1 t (d+c):=by
     have h2':w1.tape=t:=T.tape
     have h1':w1.drawn=d+c:=T.drawn
     rw[<- h2',<- h1'];rfl
    rcases T.same with hl | ⟨hj,_⟩
    ·
     exact absurd hp (gone_path q hR k g1 w1 (.inl hl))
    ·
     refine path_agree G q hR k g1 w1 t t2 (d+c) (d2+c) hj (fun j=>?_) (e1 ▸ hp)
     have:=ht (c+j)
     rw[<- Nat.add_assoc,<- Nat.add_assoc] at this
     exact this
   ·
    exfalso
    have e:=own_lone hI.run ho
    rcases hst with ⟨o,w2,e2⟩ | ⟨g2,w2,e2,hb⟩
    ·
     rw[e] at e2;cases e2
    ·
     rw[e] at e2
     simp only[Stepped.next.injEq,oneG,Machine.mk.injEq] at e2
     obtain⟨_,e3,_⟩:=e2
     simp at e3
     subst e3
     rw[own_running ho] at hb
     cases hb
def Ct (P:Program) (R:Goroutine->World->Prop) (g:Goroutine) (w:World):Prop:=∀ t d,∃ k,Path P R k g (on w t d)
def Sc (P:Program) (R:Goroutine->World->Prop) (x y:Goroutine × World):Prop:=¬ R y.1 y.2∧∃ t d ops,Own P y.1 (on y.2 t d) x.1 x.2 ops
theorem ct_next (G:Good K P) (q:Quiets P) (hR:Goal P R) {g:Goroutine} {w:World} (hI:JB K P fi g) (hC:Ct P R g w) (hr:¬ R g w) (t:Tp) (d:Nat) :
  ∃ g' w' c,Two K P fi g (on w t d) g' w' c∧JB K P fi g'∧Ct P R g' w'∧∀ r base B u,Pz B u (on w t d)->∃ u' ops,Own P (over g r base) u (over g' r base) u' ops∧Pz B u' w'∧u.heap.size<=u'.heap.size∧∀ op∈ops,okOp B u'.heap.size op:=by
 have hnr:∀ t d,¬ R g (on w t d):=fun t d h=>hr (by have:=hR.tape g (on w t d) w.tape w.drawn h;exact this)
 have hsucc:∀ t d,∃ k g' w' ops,Own P g (on w t d) g' w' ops∧Path P R k g' w':=by
  intro t d
  obtain⟨k,hp⟩:=hC t d
  cases k with
  | zero=>exact absurd hp (hnr t d)
  | succ k =>
   obtain⟨g0,w0,ops0,ho0,hp0⟩:=hp.resolve_left (hnr t d)
   exact⟨k,g0,w0,ops0,ho0,hp0⟩
 have hA:¬ AtEnd g:=fun hE=>by
  obtain⟨k,hp⟩:=hC t d
  exact end_path hR hI hE (hnr t d) k hp
 obtain⟨k,g0,w0,ops0,ho0,hp0⟩:=hsucc t d
 rcases own_two G hI hA (on w t d) with ⟨g1,w1,c,T⟩ | hst
 ·
  obtain⟨o1,hown⟩:=T.own
  obtain⟨rfl,rfl⟩:=own_det hI.run hown ho0
  have hnl:¬ Lost P g1:=fun hl=>gone_path q hR k g1 w1 (.inl hl) hp0
  obtain⟨hj,hsame⟩:=T.same.resolve_left hnl
  refine⟨g1,w1,c,T,hj,fun t' d'=>?_,hsame⟩
  let t'':Tp:=fun i=>if i<c then t (d+i) else t' (d'+(i - c))
  obtain⟨k2,g3,w3,ops3,ho3,hp3⟩:=hsucc t'' 0
  obtain⟨o2,hown2⟩:=T.agree t'' 0 (fun i hi=>by simp[t'',hi];rfl)
  obtain⟨rfl,rfl⟩:=own_det (w:=on w t'' 0) hI.run hown2 ho3
  refine⟨k2,path_agree G q hR k2 g1 w1 t'' t' (0+c) d' hj (fun j=>?_) hp3⟩
  show t' (d'+j)=if 0+c+j<c then t (d+(0+c+j)) else t' (d'+(0+c+j - c))
  rw[if_neg (by omega),show 0+c+j - c=j by omega]
 ·
  exfalso
  have e:=own_lone hI.run ho0
  rcases hst with ⟨o,w2,e2⟩ | ⟨g2,w2,e2,hb⟩
  ·
   rw[e] at e2;cases e2
  ·
   rw[e] at e2
   simp only[Stepped.next.injEq,oneG,Machine.mk.injEq] at e2
   obtain⟨_,e3,_⟩:=e2
   simp at e3
   subst e3
   rw[own_running ho0] at hb
   cases hb
def Ds (ct:Nat->Nat):Nat->Nat
 | 0=>0
 | j+1=>Ds ct j+ct j
theorem ds_mono (ct:Nat->Nat):∀ {i j:Nat},i<=j->Ds ct i<=Ds ct j:=by
 intro i j h
 induction h with
 | refl=>exact Nat.le_refl _
 | step _ ih=>exact Nat.le_trans ih (Nat.le_add_right _ _)
theorem concat (ct:Nat->Nat) (tp:Nat->Nat->(Question->Nat)):∃ V:Tp,∀ j i,i<ct j->V (Ds ct j+i)=tp j i:=by
 classical
 refine⟨fun x=>if h:∃ j,Ds ct j<=x∧x<Ds ct j+ct j then tp (Classical.choose h) (x - Ds ct (Classical.choose h)) else fun _=>0,fun j i hi=>?_⟩
 have h:∃ j',Ds ct j'<=Ds ct j+i∧Ds ct j+i<Ds ct j'+ct j':=⟨j,by omega,by omega⟩
 dsimp only
 rw[dif_pos h]
 obtain⟨h1,h2⟩:=Classical.choose_spec h
 have e:Classical.choose h=j:=by
  generalize Classical.choose h=j' at h1 h2
  rcases Nat.lt_trichotomy j' j with hlt | he | hgt
  ·
   have:=ds_mono ct (show j'+1<=j by omega)
   simp only[Ds] at this
   omega
  ·
   exact he
  ·
   have:=ds_mono ct (show j+1<=j' by omega)
   simp only[Ds] at this
   omega
 rw[e]
 congr 1
 omega
theorem acc_of (G:Good K P) (q:Quiets P) (hR:Goal P R) {g:Goroutine} {w:World} (hI:JB K P fi g) (hC:Ct P R g w):Acc (Sc P R) (g,w):=by
 classical
 apply Classical.byContradiction
 intro hA
 let Bad:Type:={ x:Goroutine × World // JB K P fi x.1∧Ct P R x.1 x.2∧¬ Acc (Sc P R) x }
 have accR:∀ x:Goroutine × World,R x.1 x.2->Acc (Sc P R) x:=fun x hx=>⟨x,fun y hy=>absurd hx hy.1⟩
 have next:∀ b:Bad,∃ (b':Bad) (t:Tp) (d c:Nat),¬ R b.1.1 b.1.2∧∀ t2 d2,(∀ i,i<c->t2 (d2+i)=t (d+i))->∃ ops,Own P b.1.1 (on b.1.2 t2 d2) b'.1.1 (on b'.1.2 t2 (d2+c)) ops:=by
  rintro⟨⟨g,w⟩,hI,hC,hA⟩
  have hr:¬ R g w:=fun h=>hA (accR (g,w) h)
  have:∃ y,Sc P R y (g,w)∧¬ Acc (Sc P R) y:=by
   apply Classical.byContradiction
   intro hno
   exact hA ⟨_,fun y hy=>Classical.byContradiction fun h=>hno ⟨y,hy,h⟩⟩
  obtain⟨⟨g',w'⟩,⟨_,t,d,ops,ho⟩,hA'⟩:=this
  obtain⟨g1,w1,c,T,hj,hC1,_⟩:=ct_next G q hR hI hC hr t d
  obtain⟨o1,hown⟩:=T.own
  obtain⟨rfl,rfl⟩:=own_det (w:=on w t d) hI.run hown ho
  exact⟨⟨(g1,w1),hj,hC1,hA'⟩,t,d,c,hr,fun t2 d2 h2=>T.agree t2 d2 h2⟩
 let nx:Bad->Bad:=fun b=>Classical.choose (next b)
 let tp:Bad->Tp:=fun b=>Classical.choose (Classical.choose_spec (next b))
 let ps:Bad->Nat:=fun b=>Classical.choose (Classical.choose_spec (Classical.choose_spec (next b)))
 let ct:Bad->Nat:=fun b=>Classical.choose (Classical.choose_spec (Classical.choose_spec (Classical.choose_spec (next b))))
 have spec:∀ b:Bad,¬ R b.1.1 b.1.2∧∀ t2 d2,(∀ i,i<ct b->t2 (d2+i)=tp b (ps b+i))->∃ ops,Own P b.1.1 (on b.1.2 t2 d2) (nx b).1.1 (on (nx b).1.2 t2 (d2+ct b)) ops :=
  fun b=>Classical.choose_spec (Classical.choose_spec (Classical.choose_spec (Classical.choose_spec (next b))))
 let f:Nat->Bad:=fun j=>Nat.rec ⟨(g,w),hI,hC,hA⟩ (fun _ b=>nx b) j
 obtain⟨V,hV⟩:=concat (fun j=>ct (f j)) (fun j i=>tp (f j) (ps (f j)+i))
 have key:∀ k j,¬ Path P R k (f j).1.1 (on (f j).1.2 V (Ds (fun j=>ct (f j)) j)):=by
  intro k
  induction k with
  | zero=>exact fun j hp=>(spec (f j)).1 (by have:=hR.tape _ _ (f j).1.2.tape (f j).1.2.drawn hp;exact this)
  | succ k ih =>
   rintro j (hr | ⟨g',w',ops,ho,hp⟩)
   ·
    exact (spec (f j)).1 (by have:=hR.tape _ _ (f j).1.2.tape (f j).1.2.drawn hr;exact this)
   ·
    obtain⟨ops',ho'⟩:=(spec (f j)).2 V (Ds (fun j=>ct (f j)) j) (fun i hi=>hV j i hi)
    obtain⟨rfl,rfl⟩:=own_det (w:=on (f j).1.2 V (Ds (fun j=>ct (f j)) j)) (f j).2.1.run ho' ho
    exact ih (j+1) hp
 obtain⟨k,hp⟩:=hC V 0
 exact key k 0 hp
end
end Go.Proofs.YtkeapmmochpcfaaGreat.Nf
namespace Go.Proofs.YtkeapmmochpcfaaGreat.Nf
open Go Go.Conc
structure Pst (Shun:Loc->Prop) (B:Nat) (t:Trace):Prop where
 clean:∀ said,¬ Race said t
 known:∀ i a,touchAt t i=some a->a.loc.isMemory=true->Knows t 0 i∨(Shun a.loc∧a.kind=.atomic)
 over:t.HandedOver
 hears:Deaf t 0=0
 seen:∀ i a,touchAt t i=some a->a.loc.low B
section
variable {Shun : Loc → Prop} {B : Nat} {t u : Trace}
theorem touch_app {i:Nat} {a:Touch} (h:touchAt (t++u) i=some a):(touchAt t i=some a∧i<t.size)∨(t.size<=i∧∃ op∈u,(t++u)[i]?=some op∧op.act.touch?=some a):=by
 obtain⟨x,hx,hxa⟩:=touch_of h
 rcases getElem?_append_cases hx with ⟨hi,hx'⟩ | ⟨hi,hxu⟩
 ·
  exact .inl ⟨by rw[touchAt_of hx'];exact hxa,hi⟩
 ·
  exact .inr ⟨hi,x,hxu,hx,hxa⟩
theorem g_of {i:Nat} {op:MemOp} (h:t[i]?=some op):t.g? i=some op.g:=by simp[Trace.g?,h]
theorem knows_g {i g:Nat} (h:t.g? i=some g):Knows t g i:=by
 obtain⟨op,ho,rfl⟩:=Option.map_eq_some_iff.1 h
 exact knows_own ho
theorem hb0_app {i:Nat} (h:∃ j,t.g? j=some 0∧HappensBefore t i j):∃ j,(t++u).g? j=some 0∧HappensBefore (t++u) i j:=by
 obtain⟨q,hq,hb⟩:=h
 have hlt:q<t.size:=by
  obtain⟨z,hz,_⟩:=Option.map_eq_some_iff.1 hq
  exact lt_size_of_getElem? hz
 exact⟨q,by rw[Go.Conc.g?_old hlt];exact hq,hb_app u hb⟩
theorem Pst.mono {B':Nat} (h:Pst Shun B t) (hB:B<=B'):Pst Shun B' t:=⟨h.clean,h.known,h.over,h.hears,fun i a ha=>Loc.low_mono hB (h.seen i a ha)⟩
theorem Pst.own (h:Pst Shun B t) (hu:∀ op∈u,op.g=0) (hs:∀ op∈u,∀ b,op.act.touch?=some b->b.loc.low B∧(Shun b.loc->b.kind≠.plain)) (hd:Deaf (t++u) 0=Deaf t 0):Pst Shun B (t++u):=by
 refine⟨fun said=>noRace_append (h.clean said) hu fun i a ha op hop b hb hc=>?_,fun i a ha hm=>?_,fun i g hg hne hc=>?_,hd.trans h.hears,fun i a ha=>?_⟩
 ·
  refine (h.known i a ha hc.2.1).resolve_right fun ⟨hsa,hka⟩=>?_
  have hp:=(hs op hop b hb).2 (by rw[<- hc.1];exact hsa)
  have hcase:=hc.2.2.2
  rw[hka] at hcase
  simp[hp] at hcase
 ·
  rcases touch_app ha with ⟨ho,_⟩ | ⟨_,op,hop,hx,_⟩
  ·
   exact (h.known i a ho hm).imp (·.app u) id
  ·
   exact .inl (knows_g (by rw[g_of hx,hu op hop]))
 ·
  obtain⟨y,hy,_⟩:=id hc
  rcases touch_app hy with ⟨_,hi⟩ | ⟨_,op,hop,hx,_⟩
  ·
   exact hb0_app (h.over i g (by rw[Go.Conc.g?_old hi] at hg;exact hg) hne ((counts_old hi).1 hc))
  ·
   rw[g_of hx,hu op hop] at hg
   exact absurd (Option.some.inj hg).symm hne
 ·
  rcases touch_app ha with ⟨ho,_⟩ | ⟨_,op,hop,_,hxa⟩
  ·
   exact h.seen i a ho
  ·
   exact (hs op hop a hxa).1
theorem Pst.still (h:Pst Shun B t) (hn:∀ op∈u,op.act.touch?=none) (hd:Deaf (t++u) 0=Deaf t 0):Pst Shun B (t++u):=by
 have old:∀ {i:Nat} {a:Touch},touchAt (t++u) i=some a->touchAt t i=some a∧i<t.size:=by
  intro i a ha
  rcases touch_app ha with x | ⟨_,op,hop,_,hxa⟩
  ·
   exact x
  ·
   rw[hn op hop] at hxa;cases hxa
 refine⟨fun said=>noRace_appendMute (h.clean said) hn,fun i a ha hm=>(h.known i a (old ha).1 hm).imp (·.app u) id,fun i g hg hne hc=>?_,hd.trans h.hears,fun i a ha=>h.seen i a (old ha).1⟩
 obtain⟨y,hy,_⟩:=id hc
 have hi:=(old hy).2
 exact hb0_app (h.over i g (by rw[Go.Conc.g?_old hi] at hg;exact hg) hne ((counts_old hi).1 hc))
theorem Pst.leaver (h:Pst Shun B t) {i:Nat} (hi:i≠0) {fn:FuncId} {pos:String} {es:Array Event} (hm:∀ e∈es,e.mute=true):Pst Shun B (t++MemOp.ofEvents i fn pos es) :=
 h.still (fun op hop=>by obtain⟨e,he,rfl⟩:=Go.Conc.mem_ofEvents hop;exact touch_mute (hm e he)) (Deaf_other t hi _ fun op hop=>by obtain⟨e,_,rfl⟩:=Go.Conc.mem_ofEvents hop;rfl)
end
end Go.Proofs.YtkeapmmochpcfaaGreat.Nf
namespace Go.Proofs.YtkeapmmochpcfaaGreat.Nf
open Go Go.Conc
open Go.ConcN (sumTo upd sumTo_upd upd_ne upd_same)
section
variable {P : Program} {Shun : Loc → Prop}
theorem leaver_step {gs:Array Goroutine} {w:World} {sl:Option (Nat × Nat)} {t:Trace} {q:Nat->Nat} {i:Nat} {y g:Goroutine} (hi:0<i) (hy:gs[i]?=some y) (hrun:y.status=.running) (h0:gs[0]?=some g) (hg:g.status=.running) (hL:Leavers P t gs q) {B:Nat} (hP:Pst Shun B t) :
  ∃ gs' ops q',runT P (crowd gs w sl) i=(.next (crowd gs' w sl),ops)∧gs'.size=gs.size∧gs'[0]?=some g∧Leavers P (t++ops) gs' q'∧Pst Shun B (t++ops)∧sumTo gs'.size q'<sumTo gs.size q:=by
 have hlt:i<gs.size:=(Array.getElem?_eq_some_iff.1 hy).1
 have hq:=hL.old i y hi hy
 cases hqi:q i with
 | zero=>rw[hqi] at hq;rw[hq.1] at hrun;cases hrun
 | succ c =>
  rw[hqi] at hq
  rcases hq with ⟨hf,_⟩ | ⟨_,y',es,hm,hst,hq'⟩
  ·
   rw[hf] at hrun;cases hrun
  have hi0:(i==0)=false:=by simp;omega
  have hgo:∀ op∈MemOp.ofEvents i y.frame.fn y.frame.place es,op.g=i:=fun op hop=>by obtain⟨e,_,rfl⟩:=Go.Conc.mem_ofEvents hop;rfl
  have hsum:sumTo gs.size (upd q i c)+(c+1)=sumTo gs.size q+c:=by
   have:=sumTo_upd q c id hlt
   simpa [hqi] using this
  have hsz:((gs.map (woken P y y' w)).setIfInBounds i y').size=gs.size:=by simp
  refine⟨_,_,upd q i c,runT_crowd_go (P:=P) (sl:=sl) (i:=i) hy (by rw[hi0];exact hst w),hsz,?_,⟨fun k z hk hz=>?_,fun k hk=>?_⟩,hP.leaver (by omega) hm,by rw[hsz];omega⟩
  ·
   rw[Array.getElem?_setIfInBounds_ne (by omega),Array.getElem?_map,h0]
   simp[woken_run hg]
  ·
   by_cases e:k=i
   ·
    subst e
    rw[Array.getElem?_setIfInBounds_self_of_lt (by simpa using hlt)] at hz
    cases hz
    rw[upd_same,Deaf_own];exact hq'
   ·
    rw[Array.getElem?_setIfInBounds_ne (Ne.symm e),Array.getElem?_map] at hz
    obtain⟨z',hz',rfl⟩:=Option.map_eq_some_iff.1 hz
    have hk':=hL.old k z' hk hz'
    rw[woken_quitsD hk',upd_ne q c e,Deaf_other t (Ne.symm e) _ hgo]
    exact hk'
  ·
   rw[hsz] at hk
   rw[Deaf_other t (by omega) _ hgo]
   exact hL.above k hk
end
end Go.Proofs.YtkeapmmochpcfaaGreat.Nf
namespace Go.Proofs.YtkeapmmochpcfaaGreat.Nf
open Go Go.Conc
open Go.ConcN (sumTo upd sumTo_upd upd_ne upd_same)
section
variable {K : Rul} {P : Program} {fi : Bool} {R : Goroutine → World → Prop}
theorem okOp_act {B:Nat->Prop} {m:Nat} {op:MemOp} (h:okOp B m op):op.g=0∧op.act≠.mark .disable∧op.act≠.mark .enable∧op.act.low m∧∀ b,op.act.touch?=some b->∀ a,b.loc=.cell a->¬ B a.block:=by
 obtain⟨h0,h⟩:=h
 refine⟨h0,?_⟩
 rcases h with ⟨e,he,ha⟩ | ⟨c,hc,h⟩
 ·
  obtain⟨loc,wr,sy⟩:=e
  rw[ha]
  cases loc with
  | cell a =>
   refine⟨by simp[MemAct.ofEvent],by simp[MemAct.ofEvent],he.2,?_⟩
   intro b hb a' hl
   simp only[MemAct.ofEvent,MemAct.touch?,Option.some.injEq] at hb
   subst hb
   cases hl
   exact he.1
  | obj r =>
   cases wr<;>cases sy<;>refine⟨by simp[MemAct.ofEvent],by simp[MemAct.ofEvent],he.2,?_⟩<;>intro b hb a' hl<;>simp only[MemAct.ofEvent,MemAct.touch?,Option.some.injEq,reduceCtorEq] at hb<;>(subst hb;cases hl)
  | mark k =>
   cases k with
   | noRoom=>exact⟨by simp[MemAct.ofEvent],by simp[MemAct.ofEvent],trivial,fun b hb=>by simp[MemAct.ofEvent,MemAct.touch?] at hb⟩
   | extern f=>exact⟨by simp[MemAct.ofEvent],by simp[MemAct.ofEvent],trivial,fun b hb=>by simp[MemAct.ofEvent,MemAct.touch?] at hb⟩
   | _=>exact he.elim
  | _=>exact he.elim
 ·
  rcases h with ⟨r,k,h⟩ | ⟨r,h⟩ | h<;>(rw[h];exact⟨by simp,by simp,hc.2,fun b hb=>by simp[MemAct.touch?] at hb⟩)
def Shy (B:Nat->Prop) (Shun:Loc->Prop):Prop:=∀ l,Shun l->∃ a,l=.cell a∧B a.block
theorem touch_low {m:Nat} {x:MemAct} {b:Touch} (h:x.low m) (hb:x.touch?=some b):b.loc.low m:=by
 cases x with
 | access e=>simp only[MemAct.touch?,Option.some.injEq] at hb;subst hb;exact h
 | mark k=>cases k<;>simp only[MemAct.touch?,Option.some.injEq,reduceCtorEq] at hb<;>(subst hb;exact h)
 | _=>simp[MemAct.touch?] at hb
theorem pst_ops {B:Nat->Prop} {Shun:Loc->Prop} (hS:Shy B Shun) {n m:Nat} (hnm:n<=m) {t u:Trace} (h:Pst Shun n t) (hu:∀ op∈u,okOp B m op):Pst Shun m (t++u):=by
 refine (h.mono hnm).own (fun op hop=>(okOp_act (hu op hop)).1) (fun op hop b hb=>⟨touch_low (okOp_act (hu op hop)).2.2.2.1 hb,fun hs=>?_⟩) ?_
 ·
  obtain⟨a,ha,hna⟩:=hS _ hs
  exact absurd hna ((okOp_act (hu op hop)).2.2.2.2 b hb a ha)
 ·
  exact Go.ConcN.Deaf_still t 0 u (fun op hop=>⟨(okOp_act (hu op hop)).2.1,(okOp_act (hu op hop)).2.2.1⟩)
theorem own_crowd {g g':Goroutine} {w w':World} {ops:Array MemOp} (ho:Own P g w g' w' ops) {gs:Array Goroutine} {sl:Option (Nat × Nat)} (h0:gs[0]?=some g) (hq:∀ j x,0<j->gs[j]?=some x->∃ q d,QuitsD P q d x) :
  ∃ gs',runT P (crowd gs w sl) 0=(.next (crowd gs' w' sl),ops)∧gs'.size=gs.size∧gs'[0]?=some g'∧∀ j,0<j->gs'[j]?=gs[j]?:=by
 have hlt:0<gs.size:=(Array.getElem?_eq_some_iff.1 h0).1
 have hp:∀ c b,partners (gs.setIfInBounds 0 ph) c b=[]:=by
  intro c b
  refine partners_nil (fun j x hx=>?_)
  rcases Nat.eq_zero_or_pos j with rfl | hj
  ·
   rw[Array.getElem?_setIfInBounds_self_of_lt hlt] at hx
   cases hx
   rfl
  ·
   rw[Array.getElem?_setIfInBounds_ne (by omega)] at hx
   obtain⟨q,d,hqd⟩:=hq j x hj hx
   refine offersAt_of_not_blocked ?_ _ _
   rcases hqd.status with h | h<;>rw[h]<;>simp
 rcases ho with ⟨es,h1,h2,rfl⟩ | ⟨g2,c,z,cm,w1,es,cap,buf,closed,s,r,tm,h1,h2,h3,rfl,rfl,rfl⟩ | ⟨g2,c,z,cm,w1,es,cap,s,r,tm,h1,h2,rfl,rfl,rfl⟩
 ·
  refine⟨_,runT_crowd_go (i:=0) h0 h1,by simp,by simp[hlt],fun j hj=>?_⟩
  rw[Array.getElem?_setIfInBounds_ne (by omega),Array.getElem?_map]
  cases hx:gs[j]? with
  | none=>rfl
  | some x =>
   obtain⟨q,d,hqd⟩:=hq j x hj hx
   simp only[Option.map_some,Option.some.injEq]
   exact woken_quitsD hqd
 ·
  exact⟨_,crowd_recv_buf (i:=0) h0 h1 h2 h3 (hp _ _),by simp,by simp[hlt],fun j hj=>Array.getElem?_setIfInBounds_ne (by omega)⟩
 ·
  exact⟨_,crowd_recv_closed (i:=0) h0 h1 h2 (hp _ _),by simp,by simp[hlt],fun j hj=>Array.getElem?_setIfInBounds_ne (by omega)⟩
theorem Pz.on {B:Nat->Prop} {w v:World} (h:Pz B w v) (t:Tp) (d:Nat):Pz B (Nf.on w t d) (Nf.on v t d):=⟨h.heap,h.bad,h.size,rfl,rfl,h.sys⟩
theorem walk_two (G:Good K P) (q0:Quiets P) (hR:Goal P R) {B:Nat->Prop} {Shun:Loc->Prop} (hS:Shy B Shun) (r:Code) (base:List Frame) {x:Goroutine × World} (hA:Acc (Sc P R) x) :
  ∀ (M:Nat) (gs:Array Goroutine) (w:World) (sl:Option (Nat × Nat)) (t:Trace) (q:Nat->Nat),sumTo gs.size q<=M->gs[0]?=some (over x.1 r base)->Pz B w (on x.2 w.tape w.drawn)->Leavers P t gs q->Pst Shun w.heap.size t ->
   JB K P fi x.1->Ct P R x.1 x.2 ->
   ∃ (k:Nat) (gs':Array Goroutine) (g':Goroutine) (w' v':World) (sl':Option (Nat × Nat)) (t':Trace) (q':Nat->Nat),
    runNT P k (crowd gs w sl) t=(.next (crowd gs' w' sl'),t')∧gs'.size=gs.size∧gs'[0]?=some (over g' r base)∧R g' v'∧Pz B w' v'∧JB K P fi g'∧Leavers P t' gs' q'∧Pst Shun w'.heap.size t'∧w.heap.size<=w'.heap.size:=by
 induction hA with
 | intro x hx ih =>
  obtain⟨g,v⟩:=x
  intro M
  induction M using Nat.strongRecOn with
  | _ M ihM =>
   intro gs w sl t q hM h0 hz hL hP hJ hC
   dsimp only at h0 hz hJ hC ⊢
   by_cases hr:R g v
   ·
    exact⟨0,gs,g,w,on v w.tape w.drawn,sl,t,q,rfl,rfl,h0,hR.tape g v _ _ hr,hz,hJ,hL,hP,Nat.le_refl _⟩
   ·
    have hrun:(over g r base).status=.running:=hJ.run
    have haw:∀ y∈gs,awake y:=by
     intro y hy
     obtain⟨i,hi,rfl⟩:=Array.mem_iff_getElem.1 hy
     rcases Nat.eq_zero_or_pos i with rfl | hpos
     ·
      have:gs[0]=over g r base:=by simpa [Array.getElem?_eq_getElem hi] using h0
      rw[this];exact awake_of (.inl hrun)
     ·
      exact awake_of ((hL.old i _ hpos (Array.getElem?_eq_getElem hi)).status.elim .inl fun x=>.inr (.inr x))
    obtain⟨i,y,d,sl',hi,hg,hst⟩:=crowd_pick (P:=P) (w:=w) (sl:=sl) haw ⟨0,_,h0,hrun⟩
    have eat:w.at d=on w w.tape d:=rfl
    rcases Nat.eq_zero_or_pos i with rfl | hpos
    ·
     obtain rfl:y=over g r base:=by rw[h0] at hi;exact (Option.some.inj hi).symm
     obtain⟨g1,v1,c,T,hj1,hC1,hsame⟩:=ct_next G q0 hR hJ hC hr w.tape d
     obtain⟨w1,ops,hown,hz1,hn1,hops⟩:=hsame r base B (w.at d) (by rw[eat];exact hz.on w.tape d)
     obtain⟨ov,hov⟩:=T.own
     obtain⟨gs1,hrT,hsz,h01,hoth⟩:=own_crowd hown (sl:=sl') h0 (fun j x hj hx=>⟨_,_,hL.old j x hj hx⟩)
     have hu0:∀ op∈ops,op.g=0:=fun op hop=>(okOp_act (hops op hop)).1
     have hL1:Leavers P (t++ops) gs1 q:=by
      refine⟨fun j x hj hx=>?_,fun j hj=>?_⟩
      ·
       rw[hoth j hj] at hx
       rw[Deaf_other t (g':=0) (by omega) ops hu0]
       exact hL.old j x hj hx
      ·
       rw[Deaf_other t (g':=0) (by rw[hsz] at hj;have:=(Array.getElem?_eq_some_iff.1 h0).1;omega) ops hu0]
       exact hL.above j (by rw[hsz] at hj;exact hj)
     have hz1':Pz B w1 (on v1 w1.tape w1.drawn):=by rw[<- hz1.tape,<- hz1.drawn];exact hz1
     obtain⟨k,gs',g',w',v',sl'',t',q',e,r2,r3,r4,r5,r6,r7,r8,r9⟩:=ih (g1,v1) ⟨hr,w.tape,d,ov,hov⟩ (sumTo gs1.size q) gs1 w1 sl' (t++ops) q (Nat.le_refl _) h01 hz1' hL1 (pst_ops hS hn1 hP hops) hj1 hC1
     have hn1':w.heap.size<=w1.heap.size:=hn1
     refine⟨k+1,gs',g',w',v',sl'',t',q',?_,r2.trans hsz,r3,r4,r5,r6,r7,r8,by omega⟩
     simp only[runNT,hst,hrT]
     exact e
    ·
     obtain⟨gs1,ops,q1,hr1,hsz,h01,hL1,hP1,hlt⟩:=leaver_step (w:=w.at d) (sl:=sl') hpos hi hg h0 hrun hL hP
     obtain⟨k2,gs',g',w',v',sl'',t',q',e,r2,r3,r4,r5,r6,r7,r8,r9⟩:=ihM (sumTo gs1.size q1) (by omega) gs1 (w.at d) sl' (t++ops) q1 (Nat.le_refl _) h01 (hz.on w.tape d) hL1 hP1 hJ hC
     refine⟨k2+1,gs',g',w',v',sl'',t',q',?_,r2.trans hsz,r3,r4,r5,r6,r7,r8,r9⟩
     simp only[runNT,hst,hr1]
     exact e
end
end Go.Proofs.YtkeapmmochpcfaaGreat.Nf
