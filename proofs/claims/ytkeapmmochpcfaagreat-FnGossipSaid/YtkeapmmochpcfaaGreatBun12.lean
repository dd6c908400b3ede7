/- Goroutines: QFr. -/
import Derived.Test.YtkeapmmochpcfaaGreatBun11
import Derived.Control
import Derived.Tactics
import Derived.Below
set_option maxRecDepth 100000
set_option maxHeartbeats 32000000
set_option linter.unusedVariables false
set_option linter.unusedSectionVars false
namespace Go.Proofs.YtkeapmmochpcfaaGreat.Nf
open Go Go.Conc
open Go.ConcN (sumTo upd sumTo_upd upd_ne upd_same)
def SegR (fi:Bool) (F:FuncId->Array Value->World->Prop) (g:Goroutine) (w:World):Prop :=
 g.callers=[]∧g.status=.running∧g.dying=none∧(match fi with
  | false=>g.frame.mode=.run∧g.frame.todo=[.code .skip]
  | true=>g.frame.mode=.returning∧g.frame.todo≠[])∧F g.frame.fn g.frame.tmps w
def SegE (fi:Bool) (fr:Frame):Prop:=match fi with
 | false=>fr.mode=.run∧fr.todo=[]
 | true=>fr.mode=.returning
section
variable {K : Rul} {P : Program} {fi : Bool} {F : FuncId → Array Value → World → Prop}
theorem segR_goal (hF:∀ f x w t d,F f x w->F f x (on w t d)):Goal P (SegR fi F):=by
 refine⟨fun g w t d h=>⟨h.1,h.2.1,h.2.2.1,h.2.2.2.1,hF _ _ _ _ _ h.2.2.2.2⟩,fun g w h=>⟨h.2.1,h.2.2.1,fun chain hc=>?_⟩,fun g w h=>⟨h.1,?_⟩⟩
 ·
  have:=h.2.2.2.1
  cases fi with
  | false=>rw[this.1] at hc;cases hc
  | true=>rw[this.1] at hc;cases hc
 ·
  have:=h.2.2.2.1
  cases fi with
  | false=>exact .inl this
  | true=>exact .inr this
theorem gone_run (q:Quiets P) {g':Goroutine} {w':World} (hg:¬ Gone P g'):∀ (k:Nat) (g1:Goroutine) (w1:World),g1.status=.running∨g1.status=.blocked->Gone P g1->runN P k (oneG g1 w1)=.next (oneG g' w')->False:=by
 intro k
 induction k with
 | zero =>
  intro g1 w1 _ h he
  simp only[runN,Stepped.next.injEq,oneG,Machine.mk.injEq] at he
  obtain⟨rfl,e,_⟩:=he
  simp at e
  subst e
  exact hg h
 | succ k ih =>
  intro g1 w1 hst h he
  rcases h with h | h
  ·
   have hrun:=h.run
   rcases lost_step q w1 h with ⟨o,hs⟩ | ⟨g2,hs,hg2,hr2⟩
   ·
    have e3:step P (oneG g1 w1)=.ended o w1:=by rw[step_one hrun,runT_many_ended (gs:=#[g1]) (i:=0) rfl hs]
    simp only[runN,e3] at he
    cases he
   ·
    have e3:=own_lone (P:=P) hrun (.inl ⟨#[],hs,hr2,rfl⟩)
    simp only[runN,e3] at he
    exact ih g2 w1 (.inl hr2) hg2 he
  ·
   rcases step_dyingOn (w:=w1) h with ⟨g2,w2,hs,h'⟩ | ⟨o,w2,hs,_⟩
   ·
    simp only[runN,hs] at he
    exact ih g2 w2 h'.1 (.inr h') he
   ·
    simp only[runN,hs] at he;cases he
theorem stuck_run {g g':Goroutine} {w w':World} {k:Nat} (hst:Stuck P g w) (hr:g'.status=.running) (he:runN P (k+1) (oneG g w)=.next (oneG g' w')):False:=by
 rcases hst with ⟨o,w2,e⟩ | ⟨g2,w2,e,hb⟩
 ·
  simp only[runN,e] at he;cases he
 ·
  simp only[runN,e] at he
  cases k with
  | zero =>
   simp only[runN,Stepped.next.injEq,oneG,Machine.mk.injEq] at he
   obtain⟨rfl,e',_⟩:=he
   simp at e'
   subst e'
   rw[hr] at hb;cases hb
  | succ k =>
   have:∃ o w3,step P (oneG g2 w2)=.ended o w3:=by
    obtain⟨fr,cs,st,dy,off⟩:=g2
    simp only at hb
    subst hb
    obtain ⟨o', w', he', ho⟩ := endWith_ended w2 2 (bytes "fatal error: all goroutines are asleep - deadlock!\n") (.fatal "all goroutines are asleep - deadlock!")
    refine⟨o',w',?_⟩
    simp[step,stepT,move,ask,askOn,oneG,runnable_eq,due,ahead,Goroutine.canRun,List.range_succ,pure]
    rw[he']
   obtain⟨o,w3,e3⟩:=this
   simp only[runN,e3] at he
   cases he
theorem not_gone {fr:Frame} (h:fr.mode=.run∨fr.mode=.returning):¬ Gone P { frame:=fr,callers:=[],status:=.running,dying:=none }:=by
 rintro (hl | ⟨_,d,hd,_⟩)
 ·
  obtain⟨t,x,_,hm⟩:=hl.top
  dsimp only at hm
  rcases h with h | h<;>rw[h] at hm<;>cases hm
 ·
  cases hd
theorem path_of_run (G:Good K P) (q:Quiets P) {fr':Frame} {w':World} (hend:SegE fi fr') (hF:F fr'.fn fr'.tmps w'):∀ (k:Nat) (g:Goroutine) (w:World),JB K P fi g->runN P k (oneG g w)=.next (oneG { frame:=fr',callers:=[],status:=.running,dying:=none } w')->Path P (SegR fi F) k g w:=by
 have hmode:fr'.mode=.run∨fr'.mode=.returning:=by
  cases fi with
  | false=>exact .inl hend.1
  | true=>exact .inr hend
 intro k
 induction k with
 | zero =>
  intro g w hJ he
  simp only[runN,Stepped.next.injEq,oneG,Machine.mk.injEq] at he
  obtain⟨rfl,e,_⟩:=he
  simp at e
  subst e
  have hb:Ends fi fr'.todo:=hJ.bot
  cases fi with
  | false=>exact absurd hend.2 hb.ne
  | true=>exact⟨rfl,rfl,rfl,⟨hend,hb.ne⟩,hF⟩
 | succ k ih =>
  intro g w hJ he
  by_cases hE:AtEnd g
  ·
   cases fi with
   | true =>
    exfalso
    obtain⟨e1,e2,e3⟩:=hE
    have hb:=hJ.bot
    rw[e1] at hb
    have hb':Ends true g.frame.todo:=hb
    rw[e3] at hb'
    have:=hb'.last
    cases this
   | false =>
    left
    obtain⟨fr,cs,st,dy,off⟩:=g
    obtain⟨h1,h2,h3,htop,hmd,hb,hbot⟩:=hJ
    obtain⟨e1,e2,e3⟩:=hE
    dsimp only at h1 h2 h3 htop hmd hb hbot e1 e2 e3
    subst h1 h2 h3 e1
    have hro:=htop.round
    have s1:stepG P true { frame:=fr,callers:=[],status:=.running,dying:=none } w=.go { frame:={ fr with todo:=[] },callers:=[],status:=.running,dying:=none } w #[]:=by simp[stepG,stepG.exec,e2,e3]
    have l1:=own_lone (P:=P) (g:={ frame:=fr,callers:=[],status:=.running,dying:=none }) rfl (.inl ⟨#[],s1,rfl,rfl⟩)
    simp only[runN,l1] at he
    cases k with
    | zero =>
     simp only[runN,Stepped.next.injEq,oneG,Machine.mk.injEq] at he
     obtain⟨rfl,e,_⟩:=he
     simp at e
     subst e
     exact⟨rfl,rfl,rfl,⟨e2,e3⟩,hF⟩
    | succ k =>
     exfalso
     have s2:stepG P true { frame:={ fr with todo:=[] },callers:=[],status:=.running,dying:=none } w=.go { frame:={ fr with todo:=[],mode:=.returning },callers:=[],status:=.running,dying:=none } w #[]:=by simp[stepG,stepG.exec,e2,hro]
     have l2:=own_lone (P:=P) (g:={ frame:={ fr with todo:=[] },callers:=[],status:=.running,dying:=none }) rfl (.inl ⟨#[],s2,rfl,rfl⟩)
     simp only[runN,l2] at he
     have hok:OkF K P { fr with todo:=[],mode:=.returning }:=⟨htop.slots,by simp,htop.defers,htop.kind,htop.round,htop.init⟩
     obtain⟨o,w3,es,s3⟩:=ret_ends hok rfl w
     cases k with
     | zero =>
      simp only[runN,Stepped.next.injEq,oneG,Machine.mk.injEq] at he
      obtain⟨rfl,e,_⟩:=he
      simp at e
      subst e
      have:=hend.1
      cases this
     | succ k =>
      have e3:step P (oneG { frame:={ fr with todo:=[],mode:=.returning },callers:=[],status:=.running,dying:=none } w)=.ended o w3:=by rw[step_one rfl,runT_many_ended (i:=0) rfl s3]
      simp only[runN,e3] at he
      cases he
  ·
   rcases own_two G hJ hE w with ⟨g1,w1,c,T⟩ | hst
   ·
    obtain⟨ops,hown⟩:=T.own
    have e:=own_lone hJ.run hown
    simp only[runN,e] at he
    refine .inr ⟨g1,w1,ops,hown,?_⟩
    rcases T.same with hl | ⟨hj,_⟩
    ·
     exact (gone_run q (not_gone hmode) k g1 w1 (.inl hl.run) (.inl hl) he).elim
    ·
     exact ih g1 w1 hj he
   ·
    exact (stuck_run hst rfl he).elim
theorem seg (G:Good K P) (q0:Quiets P) (hF:∀ f x w t d,F f x w->F f x (on w t d)) {B:Nat->Prop} {Shun:Loc->Prop} (hS:Shy B Shun) (r:Code) (base:List Frame) {g:Goroutine} {v:World} (hJ:JB K P fi g)
  (hC:∀ t d,∃ k fr' w',runN P k (oneG g (on v t d))=.next (oneG { frame:=fr',callers:=[],status:=.running,dying:=none } w')∧SegE fi fr'∧F fr'.fn fr'.tmps w')
  {gs:Array Goroutine} {w:World} {sl:Option (Nat × Nat)} {t:Trace} {q:Nat->Nat} (h0:gs[0]?=some (over g r base)) (hz:Pz B w (on v w.tape w.drawn)) (hL:Leavers P t gs q) (hP:Pst Shun w.heap.size t) :
  ∃ (k:Nat) (gs':Array Goroutine) (g':Goroutine) (w' v':World) (sl':Option (Nat × Nat)) (t':Trace) (q':Nat->Nat),
   runNT P k (crowd gs w sl) t=(.next (crowd gs' w' sl'),t')∧gs'.size=gs.size∧gs'[0]?=some (over g' r base)∧SegR fi F g' v'∧Pz B w' v'∧JB K P fi g'∧Leavers P t' gs' q'∧Pst Shun w'.heap.size t'∧w.heap.size<=w'.heap.size:=by
 have hCt:Ct P (SegR fi F) g v:=fun t d=>by
  obtain⟨k,fr',w',he,hend,hf⟩:=hC t d
  exact⟨k,path_of_run G q0 hend hf k g _ hJ he⟩
 exact walk_two G q0 (segR_goal hF) hS r base (acc_of G q0 (segR_goal hF) hJ hCt) _ gs w sl t q (Nat.le_refl _) h0 hz hL hP hJ hCt
end
end Go.Proofs.YtkeapmmochpcfaaGreat.Nf
namespace Go.Proofs.YtkeapmmochpcfaaGreat.Nf
open Go Go.Conc
open Go.ConcN (RelBy)
open Go.ConcR (stA)
def InB (b:Nat) (l:Loc):Prop:=∃ a,l=.cell a∧a.block=b
theorem InB.uniq {b b':Nat} {l:Loc} (h:InB b l) (h':InB b' l):b=b':=by
 obtain⟨a,rfl,rfl⟩:=h
 obtain⟨a',e,rfl⟩:=h'
 cases e;rfl
structure Ph (Shun:Loc->Prop) (T0 Wg N0 j:Nat) (bx:Nat->Option Nat) (B:Nat) (t:Trace):Prop where
 clean:∀ said,¬ Race said t
 known:∀ i a,touchAt t i=some a->a.loc.isMemory=true->Knows t 0 i∨((Shun a.loc∨InB Wg a.loc)∧a.kind=.atomic)∨(a.kind≠.atomic∧∃ k b,t.g? i=some k∧bx k=some b∧InB b a.loc)
 wg:∀ i a,touchAt t i=some a->InB Wg a.loc->a.kind≠.plain∧(a.kind=.said->t.g? i=some 0)
 mine:∀ i a k b,touchAt t i=some a->bx k=some b->InB b a.loc->t.g? i=some k
 over:∀ i g,t.g? i=some g->g≠0->t.counts i->(∃ j,t.g? j=some 0∧HappensBefore t i j)∨(N0<=g∧g<N0+j)
 norel:∀ i,T0<=i->t.act? i≠some (.mark (.release (stA Wg)))
 since:T0<=t.size
 seen:∀ i a,touchAt t i=some a->a.loc.low B
 low:Wg<B
 pos:0<N0
 boxes:∀ k b,bx k=some b->b<B∧b≠Wg∧N0<=k∧k<N0+j
 apart:∀ k k' b,bx k=some b->bx k'=some b->k=k'
section
variable {Shun : Loc → Prop} {T0 Wg N0 j : Nat} {bx : Nat → Option Nat} {B : Nat} {t u : Trace}
theorem not_in {Wg:Nat} {l:Loc} (h:l.low B) (hW:B<=Wg):¬ InB Wg l:=by
 rintro⟨x,rfl,hb⟩
 simp only[Loc.low] at h
 omega
theorem Ph.begin (h:Pst Shun B t) (hW:B<=Wg) (hN:0<N0):Ph Shun t.size Wg N0 0 (fun _=>none) (Wg+1) t :=
 ⟨h.clean,fun i a ha hm=>(h.known i a ha hm).imp id (fun x=>.inl ⟨.inl x.1,x.2⟩),fun i a ha hw=>absurd hw (not_in (h.seen i a ha) hW),fun i a k b _ hb=>by simp at hb,fun i g hg hne hc=>.inl (h.over i g hg hne hc),
  fun i hi he=>by have:=lt_of_act? he;omega,Nat.le_refl _,fun i a ha=>Loc.low_mono (by omega) (h.seen i a ha),by omega,hN,fun k b hb=>by simp at hb,fun k k' b hb=>by simp at hb⟩
theorem norel_app {T0 Wg:Nat} (h:∀ i,T0<=i->t.act? i≠some (.mark (.release (stA Wg)))) (hu:∀ op∈u,op.act≠.mark (.release (stA Wg))):∀ i,T0<=i->(t++u).act? i≠some (.mark (.release (stA Wg))):=by
 intro i hi he
 obtain⟨op,ho,hoa⟩:=Option.map_eq_some_iff.1 he
 rcases getElem?_append_cases ho with ⟨_,ho'⟩ | ⟨_,hou⟩
 ·
  exact h i hi (by rw[act?_of ho',hoa])
 ·
  exact hu op hou hoa
theorem Ph.mono {B':Nat} (h:Ph Shun T0 Wg N0 j bx B t) (hB:B<=B'):Ph Shun T0 Wg N0 j bx B' t :=
 ⟨h.clean,h.known,h.wg,h.mine,h.over,h.norel,h.since,fun i a ha=>Loc.low_mono hB (h.seen i a ha),Nat.lt_of_lt_of_le h.low hB,h.pos,fun k b hb=>⟨Nat.lt_of_lt_of_le (h.boxes k b hb).1 hB,(h.boxes k b hb).2⟩,h.apart⟩
structure Adds (Shun:Loc->Prop) (Wg:Nat) (bx:Nat->Option Nat) (B g:Nat) (op:MemOp):Prop where
 own:op.g=g
 low:∀ x,op.act.touch?=some x->x.loc.low B
 rel:op.act≠.mark (.release (stA Wg))
 touch:∀ x,op.act.touch?=some x ->
  (InB Wg x.loc∧x.kind≠.plain∧(x.kind=.said->g=0)) ∨
  (g=0∧¬ InB Wg x.loc∧(∀ k b,bx k=some b->¬ InB b x.loc)∧(Shun x.loc->x.kind≠.plain)) ∨
  (g≠0∧x.kind≠.atomic∧∃ b,bx g=some b∧InB b x.loc)
theorem Ph.app {g:Nat} (h:Ph Shun T0 Wg N0 j bx B t) (hg:g=0∨(N0<=g∧g<N0+j)∨∀ op∈u,op.act.touch?=none) (hu:∀ op∈u,Adds Shun Wg bx B g op):Ph Shun T0 Wg N0 j bx B (t++u):=by
 have hgs:∀ op∈u,op.g=g:=fun op hop=>(hu op hop).own
 refine⟨fun said=>noRace_append (h.clean said) hgs fun i a ha op hop b hb hc=>?_,fun i a ha hm=>?_,fun i a ha hw=>?_,fun i a k b ha hb hl=>?_,fun i g' hg' hne hc=>?_,norel_app h.norel fun op hop=>(hu op hop).rel,by have:=h.since;rw[Array.size_append];omega,fun i a ha=>?_,h.low,h.pos,h.boxes,h.apart⟩
 ·
  rcases (hu op hop).touch b hb with ⟨hw,hp,hs⟩ | ⟨h0,hw,hbx,hsh⟩ | ⟨hn,hna,bb,hbb,hin⟩
  ·
   have hwa:InB Wg a.loc:=by rw[hc.1];exact hw
   obtain⟨_,_,_,h1 | h1 | ⟨_,h1,h2⟩⟩:=hc
   ·
    exact absurd h1 (h.wg i a ha hwa).1
   ·
    exact absurd h1 hp
   ·
    rw[hs h2]
    exact knows_g ((h.wg i a ha hwa).2 h1)
  ·
   subst h0
   rcases h.known i a ha hc.2.1 with hk | ⟨hk,hat⟩ | ⟨hna,k,bb,hk,hbb,hin⟩
   ·
    exact hk
   ·
    rcases hk with hk | hk
    ·
     have hkb:=hsh (hc.1 ▸ hk)
     obtain⟨_,_,_,hcase⟩:=hc
     rw[hat] at hcase
     rcases hcase with x | x | ⟨_,x,_⟩
     ·
      cases x
     ·
      exact absurd x hkb
     ·
      cases x
    ·
     exact absurd (hc.1 ▸ hk) hw
   ·
    exact absurd (hc.1 ▸ hin) (hbx k bb hbb)
  ·
   exact knows_g (h.mine i a g bb ha hbb (by rw[hc.1];exact hin))
 ·
  rcases touch_app ha with ⟨ho,hi⟩ | ⟨hi,op,hop,hx,hxa⟩
  ·
   rcases h.known i a ho hm with hk | hk | ⟨hna,k,b,hk,hb,hin⟩
   ·
    exact .inl (hk.app u)
   ·
    exact .inr (.inl hk)
   ·
    exact .inr (.inr ⟨hna,k,b,by rw[Go.Conc.g?_old hi];exact hk,hb,hin⟩)
  ·
   have hgi:(t++u).g? i=some g:=by rw[g_of hx,hgs op hop]
   rcases (hu op hop).touch a hxa with ⟨hw,hp,hs⟩ | ⟨h0,_⟩ | ⟨hn,hna,bb,hbb,hin⟩
   ·
    cases hk:a.kind with
    | plain=>exact absurd hk hp
    | atomic=>exact .inr (.inl ⟨.inr hw,rfl⟩)
    | said=>exact .inl (knows_g (by rw[hgi,hs hk]))
   ·
    exact .inl (knows_g (by rw[hgi,h0]))
   ·
    exact .inr (.inr ⟨hna,g,bb,hgi,hbb,hin⟩)
 ·
  rcases touch_app ha with ⟨ho,hi⟩ | ⟨hi,op,hop,hx,hxa⟩
  ·
   rw[Go.Conc.g?_old hi];exact h.wg i a ho hw
  ·
   have hgi:(t++u).g? i=some g:=by rw[g_of hx,hgs op hop]
   rcases (hu op hop).touch a hxa with ⟨_,hp,hs⟩ | ⟨_,hnw,_⟩ | ⟨hn,hna,bb,hbb,hin⟩
   ·
    exact⟨hp,fun e=>by rw[hgi,hs e]⟩
   ·
    exact absurd hw hnw
   ·
    exact absurd (hin.uniq hw) (h.boxes g bb hbb).2.1
 ·
  rcases touch_app ha with ⟨ho,hi⟩ | ⟨hi,op,hop,hx,hxa⟩
  ·
   rw[Go.Conc.g?_old hi];exact h.mine i a k b ho hb hl
  ·
   have hgi:(t++u).g? i=some g:=by rw[g_of hx,hgs op hop]
   rcases (hu op hop).touch a hxa with ⟨hw,_⟩ | ⟨_,_,hbx,_⟩ | ⟨hn,hna,bb,hbb,hin⟩
   ·
    exact absurd (hl.uniq hw) (h.boxes k b hb).2.1
   ·
    exact absurd hl (hbx k b hb)
   ·
    obtain rfl:=hin.uniq hl
    rw[hgi,h.apart g k bb hbb hb]
 ·
  rcases Nat.lt_or_ge i t.size with hi | hi
  ·
   rcases h.over i g' (by rw[Go.Conc.g?_old hi] at hg';exact hg') hne ((counts_old hi).1 hc) with x | x
   ·
    exact .inl (hb0_app x)
   ·
    exact .inr x
  ·
   obtain⟨op,hop,rfl⟩:=Option.map_eq_some_iff.1 hg'
   rcases getElem?_append_cases hop with ⟨hlt,_⟩ | ⟨_,hopu⟩
   ·
    omega
   ·
    rw[hgs op hopu] at hne ⊢
    rcases hg with rfl | x | x
    ·
     exact absurd rfl hne
    ·
     exact .inr x
    ·
     obtain⟨y,hy,_⟩:=hc
     obtain⟨z,hz,hzy⟩:=touch_of hy
     rw[hop] at hz;cases hz
     rw[x op hopu] at hzy;cases hzy
 ·
  rcases touch_app ha with ⟨ho,hi⟩ | ⟨hi,op,hop,hx,hxa⟩
  ·
   exact h.seen i a ho
  ·
   exact (hu op hop).low a hxa
theorem Ph.box {k b:Nat} (h:Ph Shun T0 Wg N0 j bx B t) (hk:N0<=k∧k<N0+j) (hbk:bx k=none) (hb:B<=b):Ph Shun T0 Wg N0 j (fun i=>if i=k then some b else bx i) (b+1) t:=by
 have no:∀ i a,touchAt t i=some a->¬ InB b a.loc:=fun i a ha=>not_in (h.seen i a ha) hb
 have hlow:=h.low
 refine⟨h.clean,fun i a ha hm=>?_,h.wg,fun i a k' b' ha hb' hl=>?_,h.over,h.norel,h.since,fun i a ha=>Loc.low_mono (by omega) (h.seen i a ha),by omega,h.pos,fun k' b' hb'=>?_,fun k1 k2 b' h1 h2=>?_⟩
 ·
  rcases h.known i a ha hm with x | x | ⟨hna,k',b',hk',hb',hin⟩
  ·
   exact .inl x
  ·
   exact .inr (.inl x)
  ·
   refine .inr (.inr ⟨hna,k',b',hk',?_,hin⟩)
   have:k'≠k:=by rintro rfl;rw[hbk] at hb';cases hb'
   simp[this,hb']
 ·
  by_cases e:k'=k
  ·
   subst e
   simp only[if_true,Option.some.injEq] at hb'
   subst hb'
   exact absurd hl (no i a ha)
  ·
   simp only[e,if_false] at hb'
   exact h.mine i a k' b' ha hb' hl
 ·
  by_cases e:k'=k
  ·
   subst e
   simp only[if_true,Option.some.injEq] at hb'
   subst hb'
   exact⟨by omega,by omega,hk⟩
  ·
   simp only[e,if_false] at hb'
   have:=h.boxes k' b' hb'
   exact⟨by omega,this.2⟩
 ·
  by_cases e1:k1=k<;>by_cases e2:k2=k
  ·
   rw[e1,e2]
  ·
   simp only[e1,if_true,Option.some.injEq] at h1
   simp only[e2,if_false] at h2
   have:=h.boxes k2 b' h2
   omega
  ·
   simp only[e2,if_true,Option.some.injEq] at h2
   simp only[e1,if_false] at h1
   have:=h.boxes k1 b' h1
   omega
  ·
   simp only[e1,if_false] at h1
   simp only[e2,if_false] at h2
   exact h.apart k1 k2 b' h1 h2
theorem Ph.fork {j':Nat} (hj:j<=j') (h:Ph Shun T0 Wg N0 j bx B t) (hm:∀ op∈u,op.act.touch?=none) (hr:∀ op∈u,op.act≠.mark (.release (stA Wg))):Ph Shun T0 Wg N0 j' bx B (t++u):=by
 have old:∀ {i:Nat} {a:Touch},touchAt (t++u) i=some a->touchAt t i=some a∧i<t.size:=by
  intro i a ha
  rcases touch_app ha with x | ⟨_,op,hop,_,hxa⟩
  ·
   exact x
  ·
   rw[hm op hop] at hxa;cases hxa
 refine⟨fun said=>noRace_appendMute (h.clean said) hm,fun i a ha hmm=>?_,fun i a ha hw=>?_,fun i a k b ha hb hlb=>?_,fun i g' hg' hne hc=>?_,norel_app h.norel hr,by have:=h.since;rw[Array.size_append];omega,fun i a ha=>h.seen i a (old ha).1,h.low,h.pos,fun k b hb=>⟨(h.boxes k b hb).1,(h.boxes k b hb).2.1,(h.boxes k b hb).2.2.1,by have:=(h.boxes k b hb).2.2.2;omega⟩,h.apart⟩
 ·
  obtain⟨ho,hi⟩:=old ha
  rcases h.known i a ho hmm with hk | hk | ⟨hna,k,b,hk,hb,hin⟩
  ·
   exact .inl (hk.app u)
  ·
   exact .inr (.inl hk)
  ·
   exact .inr (.inr ⟨hna,k,b,by rw[Go.Conc.g?_old hi];exact hk,hb,hin⟩)
 ·
  obtain⟨ho,hi⟩:=old ha
  rw[Go.Conc.g?_old hi];exact h.wg i a ho hw
 ·
  obtain⟨ho,hi⟩:=old ha
  rw[Go.Conc.g?_old hi];exact h.mine i a k b ho hb hlb
 ·
  have hi:i<t.size:=by
   obtain⟨y,hy,_⟩:=hc
   exact (old hy).2
  rcases h.over i g' (by rw[Go.Conc.g?_old hi] at hg';exact hg') hne ((counts_old hi).1 hc) with x | x
  ·
   exact .inl (hb0_app x)
  ·
   exact .inr ⟨x.1,by omega⟩
theorem Ph.finish (h:Ph Shun T0 Wg N0 j bx B t) (hd:Deaf t 0=0) {q:Nat} (hq:t.act? q=some (.mark (.acquire (stA Wg)))) (hg:t.g? q=some 0) (hh:t.heard q) (hr:∀ k,N0<=k->k<N0+j->∃ r,RelBy (stA Wg) t k r∧T0<=r∧r<q) :
  Pst (fun l=>Shun l∨InB Wg l) B t:=by
 have to0:∀ k i,N0<=k->k<N0+j->t.g? i=some k->t.counts i->HappensBefore t i q:=by
  intro k i h1 h2 hgi hc
  obtain⟨r,hrel,hTr,hrq⟩:=hr k h1 h2
  have edge:HappensBefore t r q:=.single (.inr ⟨.marked hrq (.inr hrel.act) hq (fun k h1 _=>h.norel k (by omega)),hrel.heard,hh⟩)
  have hle:i<=r:=Nat.le_of_not_lt fun hlt=>hrel.after i hlt hgi hc
  rcases Nat.lt_or_ge i r with hlt | hge
  ·
   exact .trans (.single (.inl ⟨hlt,k,hgi,hrel.g⟩)) edge
  ·
   obtain rfl:i=r:=by omega
   exact edge
 refine⟨h.clean,fun i a ha hm=>?_,fun i g hgi hne hc=>?_,hd,h.seen⟩
 ·
  rcases h.known i a ha hm with hk | hk | ⟨hna,k,b,hk,hb,hin⟩
  ·
   exact .inl hk
  ·
   exact .inr hk
  ·
   have hbx:=h.boxes k b hb
   have hc:t.counts i:=⟨a,ha,hm,.inl hna⟩
   obtain⟨z,hz,hzg⟩:=Option.map_eq_some_iff.1 hg
   exact .inl ⟨q,z,hz,hzg,.inr (to0 k i hbx.2.2.1 hbx.2.2.2 hk hc)⟩
 ·
  rcases h.over i g hgi hne hc with x | x
  ·
   exact x
  ·
   exact⟨q,hg,to0 g i x.1 x.2 hgi hc⟩
end
end Go.Proofs.YtkeapmmochpcfaaGreat.Nf
namespace Go.Proofs.YtkeapmmochpcfaaGreat.Nf
open Go Go.Conc
open Go.ConcN (sumTo upd sumTo_upd upd_ne upd_same)
def EvP (Shun:Loc->Prop) (B:Nat) (e:Event):Prop:=(∀ x,(MemAct.ofEvent e).touch?=some x->x.loc.low B∧(Shun x.loc->x.kind≠.plain))∧e.loc≠.mark .disable∧e.loc≠.mark .enable
def DG (Shun:Loc->Prop) (w w':World) (es:Array Event):Prop:=w.heap.size<=w'.heap.size∧∀ e∈es,EvP Shun w'.heap.size e
section
variable {P : Program} {Shun : Loc → Prop} {Stop : Goroutine → World → Prop}
theorem pst_own {t:Trace} {w w':World} {fn:FuncId} {pos:String} {es:Array Event} (h:Pst Shun w.heap.size t) (hd:DG Shun w w' es):Pst Shun w'.heap.size (t++MemOp.ofEvents 0 fn pos es):=by
 refine (h.mono hd.1).own (fun op hop=>?_) (fun op hop b hb=>?_) ?_
 ·
  obtain⟨e,_,rfl⟩:=Go.Conc.mem_ofEvents hop;rfl
 ·
  obtain⟨e,he,rfl⟩:=Go.Conc.mem_ofEvents hop;exact (hd.2 e he).1 b hb
 ·
  rw[Deaf_own];exact deafBehind_still (fun e he=>(hd.2 e he).2) _
theorem walk_pst (hS:∀ g w,Stop g w->g.status=.running):∀ (n M:Nat) (gs:Array Goroutine) (g:Goroutine) (w:World) (sl:Option (Nat × Nat)) (t:Trace) (q:Nat->Nat),sumTo gs.size q<=M->gs[0]?=some g->Leavers P t gs q->Pst Shun w.heap.size t->Goes P true AtRel (DG Shun) Stop n g w ->
  ∃ (k:Nat) (gs':Array Goroutine) (g':Goroutine) (w':World) (sl':Option (Nat × Nat)) (t':Trace) (q':Nat->Nat),runNT P k (crowd gs w sl) t=(.next (crowd gs' w' sl'),t')∧gs'.size=gs.size∧gs'[0]?=some g'∧Stop g' w'∧Leavers P t' gs' q'∧Pst Shun w'.heap.size t':=by
 intro n
 induction n with
 | zero=>exact fun M gs g w sl t q _ h0 hL hP h=>⟨0,gs,g,w,sl,t,q,rfl,rfl,h0,h w ⟨w.drawn,rfl⟩,hL,hP⟩
 | succ n ihn =>
  intro M
  induction M using Nat.strongRecOn with
  | _ M ihM =>
   intro gs g w sl t q hM h0 hL hP h
   have hgr:g.status=.running:=Goes.running hS w ⟨w.drawn,rfl⟩ h
   rcases h with hstop | ⟨_,hstep⟩
   ·
    exact⟨0,gs,g,w,sl,t,q,rfl,rfl,h0,hstop w ⟨w.drawn,rfl⟩,hL,hP⟩
   ·
    have haw:∀ z∈gs,awake z:=by
     intro z hz
     obtain⟨k,hk⟩:=Array.mem_iff_getElem?.1 hz
     rcases Nat.eq_zero_or_pos k with rfl | hpos
     ·
      rw[h0] at hk;cases hk
      exact awake_of (.inl hgr)
     ·
      exact awake_of ((hL.old k z hpos hk).status.imp id .inr)
    obtain⟨i,y,d,sl',hi,hrun,hst⟩:=crowd_pick (P:=P) (w:=w) (sl:=sl) haw ⟨0,g,h0,hgr⟩
    rcases Nat.eq_zero_or_pos i with rfl | hpos
    ·
     rw[h0] at hi;cases hi
     have h1:=hstep (w.at d) ⟨d,rfl⟩
     cases hs:stepG P true g (w.at d) with
     | go g' w' es =>
      rw[hs] at h1
      obtain⟨hd,hg'⟩:=h1
      have hrT:=runT_crowd_go (P:=P) (sl:=sl') (i:=0) h0 (by simpa using hs)
      have hop:∀ op∈MemOp.ofEvents 0 g.frame.fn g.frame.place es,op.g=0:=fun op hop=>by obtain⟨e,_,rfl⟩:=Go.Conc.mem_ofEvents hop;rfl
      have hlt:0<gs.size:=(Array.getElem?_eq_some_iff.1 h0).1
      have hsz:((gs.map (woken P g g' w')).setIfInBounds 0 g').size=gs.size:=by simp
      have hL':Leavers P (t++MemOp.ofEvents 0 g.frame.fn g.frame.place es) ((gs.map (woken P g g' w')).setIfInBounds 0 g') q:=by
       refine⟨fun k z hk hz=>?_,fun k hk=>?_⟩
       ·
        rw[Array.getElem?_setIfInBounds_ne (by omega),Array.getElem?_map] at hz
        obtain⟨z',hz',rfl⟩:=Option.map_eq_some_iff.1 hz
        have hk':=hL.old k z' hk hz'
        rw[woken_quitsD hk',Deaf_other t (by omega) _ hop]
        exact hk'
       ·
        rw[hsz] at hk
        rw[Deaf_other t (by omega) _ hop]
        exact hL.above k hk
      obtain⟨k,gs',g2,w2,sl2,t2,q2,e,r1,r2,r3,r4,r5⟩:=ihn _ _ g' w' sl' _ q (Nat.le_refl _) (by simp[hlt]) hL' (pst_own (w:=w.at d) hP hd) hg'
      refine⟨k+1,gs',g2,w2,sl2,t2,q2,?_,r1.trans hsz,r2,r3,r4,r5⟩
      simp only[runNT,hst,hrT]
      exact e
     | _=>rw[hs] at h1;exact h1.elim
    ·
     obtain⟨gs1,ops,q1,hr,hsz,h01,hL1,hP1,hlt⟩:=leaver_step (w:=w.at d) (sl:=sl') hpos hi hrun h0 hgr hL hP
     have h':Goes P true AtRel (DG Shun) Stop (n+1) g (w.at d):=.inr ⟨hgr,fun w₁ ⟨d',e⟩=>hstep w₁ ⟨d',by rw[e];rfl⟩⟩
     obtain⟨k,gs',g2,w2,sl2,t2,q2,e,r1,r2,r3,r4,r5⟩:=ihM (sumTo gs1.size q1) (by omega) gs1 g (w.at d) sl' (t++ops) q1 (Nat.le_refl _) h01 hL1 hP1 h'
     refine⟨k+1,gs',g2,w2,sl2,t2,q2,?_,r1.trans hsz,r2,r3,r4,r5⟩
     simp only[runNT,hst,hr]
     exact e
end
end Go.Proofs.YtkeapmmochpcfaaGreat.Nf
namespace Go.Proofs.YtkeapmmochpcfaaGreat.Nf
open Go Go.Conc
open Go.ConcN (sumTo upd sumTo_upd upd_ne upd_same)
def Of (B:Nat->Prop) (l:Loc):Prop:=∃ a,l=.cell a∧B a.block
theorem shy_of (B:Nat->Prop):Shy B (Of B):=fun _ h=>h
theorem pst_nil {Shun:Loc->Prop} {B:Nat}:Pst Shun B #[] :=
 ⟨fun said=>by rintro⟨i,j,_,⟨a,b,ha,_⟩,_⟩;simp[Trace.act?] at ha,fun i a ha=>by simp[touchAt,Trace.act?] at ha,fun i g hg=>by simp[Trace.g?] at hg,rfl,fun i a ha=>by simp[touchAt,Trace.act?] at ha⟩
structure Here (P:Program) (m0:Machine) (B:Nat->Prop) (g:Goroutine) (w:World):Prop where
 run:∃ N gs sl t q,runNT P N m0 #[]=(.next (crowd gs w sl),t)∧gs[0]?=some g∧Leavers P t gs q∧Pst (Of B) w.heap.size t
theorem run_trans {P:Program} {m m' m'':Machine} {t t' t'':Trace} {N K:Nat} (h:runNT P N m t=(.next m',t')) (hk:runNT P K m' t'=(.next m'',t'')):runNT P (N+K) m t=(.next m'',t''):=by
 rw[runNT_add,h];exact hk
section
variable {K : Rul} {P : Program} {fi : Bool} {m0 : Machine} {B : Nat → Prop}
theorem here_start (g:Goroutine) (w:World):Here P (solo g w) (fun _=>False) g w :=
 ⟨0,#[g],none,#[],fun _=>0,rfl,rfl,leavers_one P g,pst_nil⟩
theorem here_goes {Stop:Goroutine->World->Prop} (hS:∀ g w,Stop g w->g.status=.running) {n:Nat} {g:Goroutine} {w:World} (h:Here P m0 B g w) (hg:Goes P true AtRel (DG (Of B)) Stop n g w):∃ g' w',Here P m0 B g' w'∧Stop g' w':=by
 obtain⟨N,gs,sl,t,q,e,h0,hL,hP⟩:=h.run
 obtain⟨k,gs',g',w',sl',t',q',e',_,h0',hs,hL',hP'⟩:=walk_pst hS n _ gs g w sl t q (Nat.le_refl _) h0 hL hP hg
 exact⟨g',w',⟨_,gs',sl',t',q',run_trans e e',h0',hL',hP'⟩,hs⟩
def outF (f:FuncId) (T:Array Value) (l:List Item):Frame:={ (base f).at ⟨T,[]⟩ l with mode:=.returning }
theorem frame_run {fr:Frame} (h:OkF K P fr) (hm:fr.mode=.run) {l:List Item} (hl:fr.todo=l):fr=(base fr.fn).at ⟨fr.tmps,[]⟩ l:=by
 obtain⟨fn,tmps,todo,defers,mode,kind,round⟩:=fr
 obtain⟨_,_,h1,h2,h3,_⟩:=h
 dsimp only at h1 h2 h3 hm hl
 subst h1 h2 h3 hm hl
 rfl
theorem frame_out {fr:Frame} (h:OkF K P fr) (hm:fr.mode=.returning):fr=outF fr.fn fr.tmps fr.todo:=by
 obtain⟨fn,tmps,todo,defers,mode,kind,round⟩:=fr
 obtain⟨_,_,h1,h2,h3,_⟩:=h
 dsimp only at h1 h2 h3 hm
 subst h1 h2 h3 hm
 rfl
theorem goro {g:Goroutine} (h1:g.status=.running) (h2:g.dying=none) (h3:g.offers=none):g=G g.frame g.callers:=by
 obtain⟨fr,cs,st,dy,off⟩:=g
 dsimp only at h1 h2 h3
 subst h1 h2 h3
 rfl
theorem here_mid (H:Good K P) (q0:Quiets P) {F:FuncId->Array Value->World->Prop} (hF:∀ f x w t d,F f x w->F f x (on w t d)) (r:Code) (bs:List Frame) {g:Goroutine} {v w:World} (hJ:JB K P false g)
  (hC:∀ t d,∃ k fr' w',runN P k (oneG g (on v t d))=.next (oneG { frame:=fr',callers:=[],status:=.running,dying:=none } w')∧SegE false fr'∧F fr'.fn fr'.tmps w')
  (h:Here P m0 B (over g r bs) w) (hz:Pz B w (on v w.tape w.drawn)) :
  ∃ f T w' v',Here P m0 B (G ((base f).at ⟨T,[]⟩ [.code r]) bs) w'∧F f T v'∧Pz B w' (on v' w'.tape w'.drawn)∧w.heap.size<=w'.heap.size:=by
 obtain⟨N,gs,sl,t,q,e,h0,hL,hP⟩:=h.run
 obtain⟨k,gs',g',w',v',sl',t',q',e',_,h0',hs,hz',hJ',hL',hP',hle⟩:=seg H q0 hF (shy_of B) r bs hJ hC h0 hz hL hP
 obtain⟨s1,s2,s3,⟨s4,s5⟩,hf⟩:=hs
 refine⟨g'.frame.fn,g'.frame.tmps,w',v',⟨_,gs',sl',t',q',run_trans e e',?_,hL',hP'⟩,hf,by have e1:=hz'.tape;have e2:=hz'.drawn;rw[<- e1,<- e2];exact hz',hle⟩
 rw[h0']
 have hg:=goro hJ'.run hJ'.alive hJ'.offers
 rw[s1] at hg
 have hfr:=frame_run hJ'.top s4 s5
 rw[hg,hfr]
 rfl
theorem here_last (H:Good K P) (q0:Quiets P) {F:FuncId->Array Value->World->Prop} (hF:∀ f x w t d,F f x w->F f x (on w t d)) (bs:List Frame) {g:Goroutine} {v w:World} (hJ:JB K P true g)
  (hC:∀ t d,∃ k fr' w',runN P k (oneG g (on v t d))=.next (oneG { frame:=fr',callers:=[],status:=.running,dying:=none } w')∧SegE true fr'∧F fr'.fn fr'.tmps w')
  (h:Here P m0 B (over g .ret bs) w) (hz:Pz B w (on v w.tape w.drawn)) :
  ∃ f T l w' v',Here P m0 B (G (outF f T l) bs) w'∧F f T v'∧Pz B w' (on v' w'.tape w'.drawn)∧w.heap.size<=w'.heap.size:=by
 obtain⟨N,gs,sl,t,q,e,h0,hL,hP⟩:=h.run
 obtain⟨k,gs',g',w',v',sl',t',q',e',_,h0',hs,hz',hJ',hL',hP',hle⟩:=seg H q0 hF (shy_of B) .ret bs hJ hC h0 hz hL hP
 obtain⟨s1,s2,s3,⟨s4,s5⟩,hf⟩:=hs
 refine⟨g'.frame.fn,g'.frame.tmps,extL .ret g'.frame.todo,w',v',⟨_,gs',sl',t',q',run_trans e e',?_,hL',hP'⟩,hf,by have e1:=hz'.tape;have e2:=hz'.drawn;rw[<- e1,<- e2];exact hz',hle⟩
 rw[h0']
 have hg:=goro hJ'.run hJ'.alive hJ'.offers
 rw[s1] at hg
 have hfr:=frame_out hJ'.top s4
 rw[hg]
 show some (G (ovF .ret g'.frame) bs)=_
 unfold ovF
 rw[hfr]
 rfl
theorem results_on {fn:Func} {T:Array Value} {v:World} {val:Value} (h:(results fn T).run P v=.ok val v) (t:Tp) (d:Nat):(results fn T).run P (on v t d)=.ok val (on v t d):=by
 obtain⟨c,h1,h2,h3⟩:=(fine_results (P:=P) (fn:=fn) T).drew v #[]
 have e:((results fn T).runT P v #[]).1=.ok val v:=(Sem.runT_fst P _ v #[]).trans h
 dsimp only at h1 h2 h3
 rw[e] at h1
 have hc:c=0:=by
  have:v.drawn=v.drawn+c:=h1
  omega
 subst hc
 have:=h3 t d (fun i hi=>by omega)
 rw[<- Sem.runT_fst P _ (on v t d) #[],this,e]
 rfl
theorem evP_ok {n:Nat} {e:Event} (h:okEv B n e):EvP (Of B) n e:=by
 have hop : okOp B n { g := 0, fn := 0, pos := "", act := .ofEvent e } := ⟨rfl, .inl ⟨e, h, rfl⟩⟩
 obtain⟨_,h1,h2,h3,h4⟩:=okOp_act hop
 refine⟨fun x hx=>⟨touch_low h3 hx,fun ⟨a,hl,hb⟩=>absurd hb (h4 x hx a hl)⟩,fun he=>?_,fun he=>?_⟩
 ·
  apply h1
  obtain⟨loc,wr,sy⟩:=e
  dsimp only at he
  subst he
  rfl
 ·
  apply h2
  obtain⟨loc,wr,sy⟩:=e
  dsimp only at he
  subst he
  rfl
theorem out_step {f:FuncId} {fn:Func} {T:Array Value} {l:List Item} {cs:List Frame} {w w':World} {val:Value} {es:Array Event} (hf:P.funcs[f]?=some fn) (hr:(results fn T).runT P w #[]=(.ok val w',es)) :
  stepG P true (G (outF f T l) cs) w=GStep.after (seen P f es) (doReturn P true (outF f T l) cs none val w'):=by
 unfold G stepG unwind outF Frame.at base
 simp only[hf,hr]
theorem here_ret {f:FuncId} {fn:Func} {T:Array Value} {l:List Item} {c:Frame} {cs:List Frame} {v w:World} {val:Value} (hf:P.funcs[f]?=some fn) (h:Here P m0 B (G (outF f T l) (c::cs)) w) (hz:Pz B w (on v w.tape w.drawn)) (hr:(results fn T).run P v=.ok val v) :
  ∃ w',Here P m0 B (G (c.finish val) cs) w'∧Pz B w' (on v w'.tape w'.drawn)∧w.heap.size<=w'.heap.size:=by
 obtain⟨g',w',hh,rfl,hz',hle⟩:=here_goes (Stop:=fun g' w'=>g'=G (c.finish val) cs∧Pz B w' (on v w'.tape w'.drawn)∧w.heap.size<=w'.heap.size) (fun g w h=>by rw[h.1];rfl) (n:=1) h (Goes.step rfl (fun w1 ⟨d,e1⟩=>by
  subst e1
  have hz1:Pz B (w.at d) (on v w.tape d):=hz.on w.tape d
  have hs:=(fine_results (P:=P) (fn:=fn) T).sim B (w.at d) (on v w.tape d) #[] #[] hz1
  have hv:=results_on hr w.tape d
  have ev:((results fn T).runT P (on v w.tape d) #[]).1=.ok val (on v w.tape d):=(Sem.runT_fst P _ _ #[]).trans hv
  unfold Fin at hs
  rw[ev] at hs
  dsimp only at hs
  obtain⟨w2,u,e2,hz2,hn,hu⟩:=hs
  rw[Array.empty_append] at e2
  rw[out_step hf e2]
  have e3:GStep.after (seen P f u) (doReturn P true (outF f T l) (c::cs) none val w2)=.go (G (c.finish val) cs) w2 (seen P f u):=by
   simp[doReturn,outF,base,Frame.at,GStep.after,G]
  rw[e3,goes_go]
  refine⟨⟨hn,fun e he=>evP_ok (seen_ok hu e he)⟩,fun w3 ⟨d3,e3⟩=>?_⟩
  subst e3
  refine⟨rfl,?_,hn⟩
  have:=hz2.on w2.tape d3
  exact this))
 exact⟨w',hh,hz',hle⟩
theorem ext_ret:∀ {c:Code},spine true c=true->ext .ret c=c
 | .seq a b,h=>by simp only[ext];rw[ext_ret (c:=b) h]
 | .ret,_=>rfl
 | .skip,h=>by cases h
 | .region ..,h=>rfl
 | .cond ..,h=>rfl
 | .block ..,h=>rfl
 | .loop ..,h=>rfl
 | .rangeFunc ..,h=>rfl
 | .exit ..,h=>rfl
 | .scope ..,h=>rfl
 | .goto ..,h=>rfl
 | .refuse _,h=>rfl
 | .label _,h=>rfl
theorem here_call (H:Good K P) (q0:Quiets P) {f:FuncId} {fn:Func} {body:Code} {args:Array Value} {c:Frame} {cs:List Frame} {v w:World} {R:Value->World->Prop} (hR:∀ x w t d,R x w->R x (on w t d))
  (hf:P.funcs[f]?=some fn) (hb:fn.body=some body) (hsp:spine true body=true) (hk:K.fn f=true) (ha:∀ i,K.fs f i=true->∀ h:i<args.size,okS K args[i])
  (h:Here P m0 B (G (Frame.enter P f args .normal) (c::cs)) w) (hz:Pz B w (on v w.tape w.drawn)) (hC:∀ t d,Calls P f args (on v t d) fun e w'=>∃ val,e=.returned val∧R val w') :
  ∃ val w' v',Here P m0 B (G (c.finish val) cs) w'∧R val v'∧Pz B w' (on v' w'.tape w'.drawn)∧w.heap.size<=w'.heap.size:=by
 have het:=enter_at (P:=P) args hf hb
 have hbot:Ends true (Frame.enter P f args .normal).todo:=by rw[het];exact⟨[],body,rfl,hsp⟩
 have hJ:JB K P true (G (Frame.enter P f args .normal) []):=⟨rfl,rfl,rfl,enter_okF H hk ha,.inl rfl,(fun c hc=>by cases hc),hbot⟩
 have hov:over (G (Frame.enter P f args .normal) []) .ret (c::cs)=G (Frame.enter P f args .normal) (c::cs):=by
  show G (ovF .ret (Frame.enter P f args .normal)) (c::cs)=_
  rw[het]
  have e:extL .ret [.code body]=[.code body]:=by simp only[extL];rw[ext_ret hsp]
  unfold ovF
  show G { ((base f).at ⟨_,[]⟩ [.code body]) with todo:=extL .ret [.code body] } (c::cs)=_
  rw[e]
  rfl
 obtain⟨f',T,l,w1,v1,h1,⟨rfl,val,hres,hRv⟩,hz1,hle⟩:=here_last H q0 (F:=fun f' T w=>f'=f∧∃ val,(results fn T).run P w=.ok val w∧R val w)
  (fun f x w t d ⟨e,val,h1,h2⟩=>⟨e,val,results_on h1 t d,hR _ _ _ _ h2⟩) (c::cs) hJ (v:=v) (w:=w) (fun t d=>by
   obtain⟨e,w',fr,⟨val,rfl,hv⟩,⟨k,hst⟩,hfn,hm,hd,hki,fn',hf',hr'⟩:=hC t d []
   refine⟨k,fr,w',hst,hm,hfn,val,?_,hv⟩
   rw[hfn,hf] at hf'
   cases hf'
   exact hr') (by rw[hov];exact h) hz
 obtain⟨w2,h2,hz2,hle2⟩:=here_ret hf h1 hz1 hres
 exact⟨val,w2,v1,h2,hRv,hz2,Nat.le_trans hle hle2⟩
theorem here_end {Post:Value->World->Prop} {f:FuncId} {fn:Func} {T:Array Value} {l:List Item} {v w:World} {val:Value} (hf:P.funcs[f]?=some fn) (hin:P.inits.idxOf? f=none) (h:Here P m0 B (G (outF f T l) []) w) (hz:Pz B w (on v w.tape w.drawn))
  (hr:(results fn T).run P v=.ok val v) (hpost:∀ w',Pz B w' (on v w'.tape w'.drawn)->Post val w') :
  ∃ M last o w' t',runNT P (M+1) m0 #[]=(.ended o w',t')∧runN P M m0=.next last∧step P last=.ended o w'∧Conc.Good P Post last o w' t':=by
 obtain⟨N,gs,sl,t,q,e,h0,hL,hP⟩:=h.run
 have key:=run_of_inv (P:=P) Nat.lt_wfRel.wf (fun (μ:Nat) m t=>∃ gs w sl q,m=crowd gs w sl∧gs[0]?=some (G (outF f T l) [])∧Leavers P t gs q∧Pst (Of B) w.heap.size t∧Pz B w (on v w.tape w.drawn)∧μ=sumTo gs.size q) (Conc.Good P Post) (by
  rintro μ m t ⟨gs,w,sl,q,rfl,h0,hL,hP,hz,rfl⟩
  have haw:∀ y∈gs,awake y:=by
   intro y hy
   obtain⟨i,hi,rfl⟩:=Array.mem_iff_getElem.1 hy
   rcases Nat.eq_zero_or_pos i with rfl | hpos
   ·
    have:gs[0]=G (outF f T l) []:=by simpa [Array.getElem?_eq_getElem hi] using h0
    rw[this];exact awake_of (.inl rfl)
   ·
    exact awake_of ((hL.old i _ hpos (Array.getElem?_eq_getElem hi)).status.elim .inl fun x=>.inr (.inr x))
  obtain⟨i,y,d,sl',hi,hg,hst⟩:=crowd_pick (P:=P) (w:=w) (sl:=sl) haw ⟨0,_,h0,rfl⟩
  rcases Nat.eq_zero_or_pos i with rfl | hpos
  ·
   obtain rfl:y=G (outF f T l) []:=by rw[h0] at hi;exact (Option.some.inj hi).symm
   have hz1:Pz B (w.at d) (on v w.tape d):=hz.on w.tape d
   have hs:=(fine_results (P:=P) (fn:=fn) T).sim B (w.at d) (on v w.tape d) #[] #[] hz1
   have hv:=results_on hr w.tape d
   have ev:((results fn T).runT P (on v w.tape d) #[]).1=.ok val (on v w.tape d):=(Sem.runT_fst P _ _ #[]).trans hv
   unfold Fin at hs
   rw[ev] at hs
   dsimp only at hs
   obtain⟨w2,u,e2,hz2,hn,hu⟩:=hs
   rw[Array.empty_append] at e2
   have e3:stepG P true (G (outF f T l) []) (w.at d)=.ended (.done val) w2 (seen P f u):=by
    rw[out_step hf e2]
    have hin':∀ k,(P.inits.idxOf? f).map k=(none:Option Nat):=fun k=>by rw[hin];rfl
    simp[doReturn,outF,base,Frame.at,GStep.after,hin]
   have hrunT:=runT_many_ended (P:=P) (sl:=sl') (i:=0) hi (show stepG P (0==0) _ (w.at d)=_ from e3)
   have hP':=pst_own (w:=w.at d) (w':=w2) (fn:=f) (pos:=(G (outF f T l) []).frame.place) (es:=seen P f u) hP ⟨hn,fun e he=>evP_ok (seen_ok hu e he)⟩
   refine .inl ⟨_,_,_,hst.trans hrunT,val,rfl,?_,hP'.clean,hP'.over,⟨fun x hx=>?_,rfl⟩,fun j x hx hj=>?_⟩
   ·
    have e4:w2.tape=w.tape:=by have:=hz2.tape;exact this.symm
    have e5:w2.drawn=d:=by have:=hz2.drawn;exact this.symm
    exact hpost w2 (by rw[e4,e5];exact hz2)
   ·
    obtain⟨j,hj⟩:=List.mem_iff_getElem?.1 hx
    rw[List.getElem?_drop] at hj
    exact⟨_,(hL.old (1+j) x (by omega) (by simpa [crowd] using hj)).leaves⟩
   ·
    have hq:=hL.old j x (by omega) hx
    refine⟨q j,?_⟩
    have e:(t++MemOp.ofEvents 0 (G (outF f T l) []).frame.fn (G (outF f T l) []).frame.place (seen P f u)).deaf j (t++MemOp.ofEvents 0 (G (outF f T l) []).frame.fn (G (outF f T l) []).frame.place (seen P f u)).size=Deaf t j :=
     Deaf_other t (g:=j) (g':=0) (by omega) _ (fun op hop=>by obtain⟨e,_,rfl⟩:=Go.Conc.mem_ofEvents hop;rfl)
    rw[e]
    exact hq.hears _
  ·
   obtain⟨gs1,ops,q1,hr1,hsz,h01,hL1,hP1,hlt⟩:=leaver_step (w:=w.at d) (sl:=sl') hpos hi hg h0 rfl hL hP
   exact .inr ⟨_,ops,sumTo gs1.size q1,hst.trans hr1,hlt,gs1,w.at d,sl',q1,rfl,h01,hL1,hP1,hz.on w.tape d,rfl⟩) _ _ _ ⟨gs,w,sl,q,rfl,h0,hL,hP,hz,rfl⟩
 obtain⟨M,last,o,w',t',r1,r2,r3,r4⟩:=key
 refine⟨N+M,last,o,w',t',?_,?_,r3,r4⟩
 ·
  rw[Nat.add_assoc,runNT_add,e]
  exact r1
 ·
  have e0:runN P N m0=.next (crowd gs w sl):=by rw[<- runNT_fst P N m0 #[],e]
  rw[runN_add,e0]
  exact r2
end
end Go.Proofs.YtkeapmmochpcfaaGreat.Nf
namespace Go.Proofs.YtkeapmmochpcfaaGreat.Nf
open Go Go.Conc
def EndQ (fi:Bool) (F:Array Value->World->Prop):Exit->Act->World->Prop
 | .normal,a,w=>fi=false∧a.defers=[]∧F a.tmps w
 | .ret,a,w=>fi=true∧a.defers=[]∧F a.tmps w
 | _,_,_=>False
def HasEnd (P:Program) (fi:Bool) (f:FuncId) (F:Array Value->World->Prop) (g:Goroutine) (v:World):Prop :=
 ∃ k fr' w',runN P k (oneG g v)=.next (oneG { frame:=fr',callers:=[],status:=.running,dying:=none } w')∧SegE fi fr'∧fr'.fn=f∧F fr'.tmps w'
section
variable {K : Rul} {P : Program} {fi : Bool} {m0 : Machine} {B : Nat → Prop} {F : Array Value → World → Prop} {f : FuncId} {T : Array Value} {v w : World}
theorem hasEnd_of {m:Goroutine} {e:Exit} {a:Act} {w':World} (hq:EndQ fi F e a w') (h:Arrives P (lone m.frame [] v) (base f) [] [] e a w') (hm:m=G m.frame []):HasEnd P fi f F m v:=by
 cases e with
 | normal =>
  obtain⟨rfl,hd,hf⟩:=hq
  obtain⟨k,hk⟩:=h
  refine⟨k,(base f).at a [],w',?_,⟨rfl,rfl⟩,rfl,hf⟩
  rw[hm];exact hk
 | ret =>
  obtain⟨rfl,hd,hf⟩:=hq
  obtain⟨todo,k,hk⟩:=h
  refine⟨k,{ (base f).at a todo with mode:=.returning },w',?_,rfl,rfl,hf⟩
  rw[hm];exact hk
 | _=>exact hq.elim
theorem hasEnd_code {c:Code} (h:c.wp P (EndQ fi F) ⟨T,[]⟩ v):HasEnd P fi f F (G ((base f).at ⟨T,[]⟩ [.code c]) []) v:=by
 obtain⟨e,a,w',hq,ha⟩:=h (base f) [] []
 exact hasEnd_of hq ha rfl
theorem jb_of (H:Good K P) (hin:P.inits.idxOf? f=none) (hs:∀ i,K.fs f i=false) {td:List Item} (ht:∀ x∈td,okItem K P f x) (he:Ends fi td):JB K P fi (G ((base f).at ⟨T,[]⟩ td) []) :=
 ⟨rfl,rfl,rfl,⟨(fun i hi=>by have h2:K.fs f i=true:=hi;rw[hs i] at h2;cases h2),ht,rfl,rfl,rfl,hin⟩,.inl rfl,(fun c hc=>by cases hc),he⟩
theorem here_pieceM (H:Good K P) (q0:Quiets P) (hin:P.inits.idxOf? f=none) (hs:∀ i,K.fs f i=false) {td td':List Item} {r:Code} {bs:List Frame} (hx:extL r td=td') (ht:∀ x∈td,okItem K P f x) (he:Ends false td) (hF:∀ x w t d,F x w->F x (on w t d))
  (h:Here P m0 B (G ((base f).at ⟨T,[]⟩ td') bs) w) (hz:Pz B w (on v w.tape w.drawn)) (hC:∀ t d,HasEnd P false f F (G ((base f).at ⟨T,[]⟩ td) []) (on v t d)) :
  ∃ T' w' v',Here P m0 B (G ((base f).at ⟨T',[]⟩ [.code r]) bs) w'∧F T' v'∧Pz B w' (on v' w'.tape w'.drawn)∧w.heap.size<=w'.heap.size:=by
 subst hx
 obtain⟨f',T',w',v',h1,⟨rfl,hf⟩,hz1,hle⟩:=here_mid H q0 (F:=fun f' T w=>f'=f∧F T w) (fun f x w t d ⟨a,b⟩=>⟨a,hF _ _ _ _ b⟩) r bs (jb_of (T:=T) H hin hs ht he) (v:=v) (w:=w) (fun t d=>hC t d) h hz
 exact⟨T',w',v',h1,hf,hz1,hle⟩
theorem extL_ret:∀ {td:List Item},Ends true td->extL .ret td=td
 | [],h=>absurd rfl h.ne
 | [x],h=>by
  cases x with
  | code c=>simp only[extL];rw[ext_ret h.last]
  | _=>rfl
 | x::y::k,h=>by rw[extL_cons (by simp),extL_ret (h.tail (by simp))]
theorem here_pieceL (H:Good K P) (q0:Quiets P) (hin:P.inits.idxOf? f=none) (hs:∀ i,K.fs f i=false) {td:List Item} {bs:List Frame} (ht:∀ x∈td,okItem K P f x) (he:Ends true td) (hF:∀ x w t d,F x w->F x (on w t d))
  (h:Here P m0 B (G ((base f).at ⟨T,[]⟩ td) bs) w) (hz:Pz B w (on v w.tape w.drawn)) (hC:∀ t d,HasEnd P true f F (G ((base f).at ⟨T,[]⟩ td) []) (on v t d)) :
  ∃ T' l w' v',Here P m0 B (G (outF f T' l) bs) w'∧F T' v'∧Pz B w' (on v' w'.tape w'.drawn)∧w.heap.size<=w'.heap.size:=by
 have hov:over (G ((base f).at ⟨T,[]⟩ td) []) .ret bs=G ((base f).at ⟨T,[]⟩ td) bs:=by
  show G { ((base f).at ⟨T,[]⟩ td) with todo:=extL .ret td } bs=_
  rw[extL_ret he]
  rfl
 obtain⟨f',T',l,w',v',h1,⟨rfl,hf⟩,hz1,hle⟩:=here_last H q0 (F:=fun f' T w=>f'=f∧F T w) (fun f x w t d ⟨a,b⟩=>⟨a,hF _ _ _ _ b⟩) bs (jb_of (T:=T) H hin hs ht he) (v:=v) (w:=w) (fun t d=>hC t d) (by rw[hov];exact h) hz
 exact⟨T',l,w',v',h1,hf,hz1,hle⟩
end
structure Bel (n:Nat) (w w':World):Prop where
 os:w'.os=w.os
 output:w'.output=w.output
 size:w.heap.size<=w'.heap.size
 block:∀ k,k<n->w'.heap[k]?=w.heap[k]?
theorem Bel.refl (n:Nat) (w:World):Bel n w w:=⟨rfl,rfl,Nat.le_refl _,fun _ _=>rfl⟩
theorem Bel.trans {n:Nat} {a b c:World} (h:Bel n a b) (k:Bel n b c):Bel n a c:=⟨k.os.trans h.os,k.output.trans h.output,Nat.le_trans h.size k.size,fun i hi=>(k.block i hi).trans (h.block i hi)⟩
theorem Bel.mono {n m:Nat} {a b:World} (h:Bel n a b) (hm:m<=n):Bel m a b:=⟨h.os,h.output,h.size,fun i hi=>h.block i (by omega)⟩
theorem Bel.of {n:Nat} {a b:World} (h:RowKit.Below n a b):Bel n a b:=⟨h.os,h.output,h.size,h.block⟩
theorem Bel.below {n:Nat} {a b:World} (h:Bel n a b) (t:Tp) (d d':Nat):RowKit.Below n (Nf.on a t d) (Nf.on b t d'):=⟨h.os,rfl,h.output,h.size,h.block⟩
theorem Bel.on {n:Nat} {a b:World} (h:Bel n a b) (t t':Tp) (d d':Nat):Bel n (Nf.on a t d) (Nf.on b t' d'):=⟨h.os,h.output,h.size,h.block⟩
theorem Pz.more {B:Nat->Prop} {w v w':World} (hz:Pz B w (Nf.on v w.tape w.drawn)) {c:Nat} (hc:w.heap.size<=c) (hs:w.heap.size<=w'.heap.size) (hold:∀ b,b<w.heap.size->w'.heap[b]?=w.heap[b]?) (hos:w'.os=w.os) (hout:w'.output=w.output)
  (hw:∃ x e,w'.heap[c]?=some (.cells x e (0,0))∧0<x.size) :
  ∃ v',Pz (fun b=>B b∨b=c) w' (Nf.on v' w'.tape w'.drawn)∧Bel v.heap.size v v'∧(∀ b,v.heap.size<=b->b≠c->v'.heap[b]?=w'.heap[b]?):=by
 classical
 have hlow:∀ b,B b->b<w.heap.size:=fun b hb=>by obtain⟨x,e,h,_⟩:=(hz.bad b hb).2;exact (Array.getElem?_eq_some_iff.1 h).1
 have hvs:v.heap.size=w.heap.size:=hz.size
 have hget:∀ b,({ w' with heap:=w'.heap.mapIdx fun i o=>if B i∨i=c then poison else o }:World).heap[b]?=(w'.heap[b]?).map fun o=>if B b∨b=c then poison else o:=fun b=>by
  show (w'.heap.mapIdx _)[b]?=_
  rw[Array.getElem?_mapIdx]
 refine⟨{ w' with heap:=w'.heap.mapIdx fun i o=>if B i∨i=c then poison else o },⟨fun r hr=>?_,fun r hr=>?_,by simp[Nf.on],rfl,rfl,⟨rfl,rfl⟩⟩,⟨hos.trans hz.sys.1.symm,hout.trans hz.sys.2.symm,by simp;omega,fun k hk=>?_⟩,fun b hb hne=>?_⟩
 ·
  refine (hget r).trans ?_
  simp only[hr,if_false,Option.map_id']
 ·
  rcases hr with hr | rfl
  ·
   obtain⟨x,e,h,h0⟩:=(hz.bad r hr).2
   rw[<- hold r (hlow r hr)] at h
   refine⟨(hget r).trans ?_,x,e,h,h0⟩
   simp only[h,Option.map_some,hr,true_or,if_true]
  ·
   obtain⟨x,e,h,h0⟩:=hw
   refine⟨(hget r).trans ?_,x,e,h,h0⟩
   simp only[h,Option.map_some,or_true,if_true]
 ·
  refine (hget k).trans ?_
  rw[hold k (by omega)]
  by_cases hb:B k
  ·
   obtain⟨h1,x,e,h2,_⟩:=hz.bad k hb
   simp only[h2,Option.map_some,hb,true_or,if_true]
   exact h1.symm
  ·
   have h0:¬ (B k∨k=c):=by rintro (h | h);exact hb h;omega
   simp only[h0,if_false,Option.map_id']
   exact (hz.heap k hb).symm
 ·
  refine (hget b).trans ?_
  have:¬ (B b∨b=c):=by rintro (h | h);have:=hlow b h;omega;exact hne h
  simp only[this,if_false,Option.map_id']
end Go.Proofs.YtkeapmmochpcfaaGreat.Nf
