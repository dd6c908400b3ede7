/- Goroutines: QHrl. -/
import Derived.Test.YtkeapmmochpcfaaGreatBun12
import Derived.Conc.Own4
import Derived.Test.YtkeapmmochpcfaaGreatBun11
import Derived.Conc.WgGenN3
set_option maxRecDepth 100000
set_option maxHeartbeats 32000000
set_option linter.unusedVariables false
set_option linter.unusedSectionVars false
namespace Go.Proofs.YtkeapmmochpcfaaGreat.Nf
open Go Go.Conc
def wpB (P:Program) (b:Frame) (c:Code) (Q:Exit->Act->World->Prop) (a:Act) (w:World):Prop :=
 ∀ (k:List Item) (cs:List Frame),∃ e a' w',Q e a' w'∧Arrives P (lone (b.at a (.code c::k)) cs w) b k cs e a' w'
section
variable {P : Program} {b : Frame} {Q : Exit → Act → World → Prop} {a : Act} {w : World}
theorem wpB_of {c:Code} (h:c.wp P Q a w):wpB P b c Q a w:=fun k cs=>h b k cs
theorem wpB_seq {x y:Code} (h:wpB P b x (Exit.then (wpB P b y Q) Q) a w):wpB P b (Code.seq x y) Q a w:=by
 intro k cs
 obtain⟨e,a₁,w₁,hq,harr⟩:=h (.code y::k) cs
 cases e with
 | normal =>
  obtain⟨e₂,a₂,w₂,hq₂,harr₂⟩:=(show wpB P b y Q a₁ w₁ from hq) k cs
  exact⟨e₂,a₂,w₂,hq₂,.of_steps (.head step_seq harr) harr₂⟩
 | exit id=>exact⟨_,a₁,w₁,hq,.of_steps (.one step_seq) (.pass (x:=.code y) rfl (fun _ _=>.inl (by simp)) harr)⟩
 | goto l=>exact⟨_,a₁,w₁,hq,.of_steps (.one step_seq) (.pass (x:=.code y) rfl (fun _ _=>.inl (by simp)) harr)⟩
 | ret=>exact⟨_,a₁,w₁,hq,.of_steps (.one step_seq) (.pass (x:=.code y) rfl (fun _ _=>.inl (by simp)) harr)⟩
 | panic ch=>exact⟨_,a₁,w₁,hq,.of_steps (.one step_seq) (.pass (x:=.code y) rfl (fun _ _=>.inl (by simp)) harr)⟩
 | outgrown=>exact⟨_,a₁,w₁,hq,.of_steps (.one step_seq) (.pass (x:=.code y) rfl (fun _ _=>.inl (by simp)) harr)⟩
theorem wpB_block {id:Nat} {c:Code} (h:wpB P b c (Exit.inBlock id Q) a w):wpB P b (Code.block id c) Q a w:=by
 intro k cs
 obtain⟨e,a₁,w₁,hq,harr⟩:=h (.inBlock id::k) cs
 cases e with
 | normal=>exact⟨.normal,a₁,w₁,hq,.head step_block (Steps.trans harr (.one step_inBlock))⟩
 | exit id' =>
  by_cases hid:id'=id
  ·
   simp only[Exit.inBlock,hid,if_true] at hq
   exact⟨.normal,a₁,w₁,hq,.head step_block (harr k (by simp[exitTo,hid]))⟩
  ·
   simp only[Exit.inBlock,hid,if_false] at hq
   refine⟨.exit id',a₁,w₁,hq,fun k' hk=>.head step_block (harr k' ?_)⟩
   have:(id==id')=false:=by simp;exact fun h=>hid h.symm
   simp[exitTo,this,hk]
 | goto l=>exact⟨_,a₁,w₁,hq,fun k' hk=>.head step_block (harr k' (by simpa [gotoIn] using hk))⟩
 | ret=>exact⟨_,a₁,w₁,hq,.of_steps (.one step_block) harr⟩
 | panic ch=>exact⟨_,a₁,w₁,hq,.of_steps (.one step_block) harr⟩
 | outgrown=>exact⟨_,a₁,w₁,hq,.of_steps (b:=b) (k:=k) (cs:=cs) (e:=.outgrown) (.one step_block) harr⟩
theorem wpB_loop {c:Code} (I:Act->World->Prop) (μ:Act->World->Nat) (h₀:I a w)
  (round:∀ a w,I a w->wpB P b c (Exit.then (fun a' w'=>I a' w'∧μ a' w'<μ a w) Q) a w):wpB P b (Code.loop c) Q a w:=by
 intro k cs
 have key:∀ n a w,μ a w=n->I a w->∃ e a' w',Q e a' w'∧Arrives P (lone (b.at a (.code c::.inLoop c::k)) cs w) b k cs e a' w':=by
  intro n
  induction n using Nat.strongRecOn with
  | _ n ih =>
   intro a w hn hI
   obtain⟨e,a₁,w₁,hq,harr⟩:=round a w hI (.inLoop c::k) cs
   cases e with
   | normal =>
    obtain⟨hI₁,hlt⟩:=hq
    obtain⟨e₂,a₂,w₂,hq₂,harr₂⟩:=ih (μ a₁ w₁) (hn ▸ hlt) a₁ w₁ rfl hI₁
    exact⟨e₂,a₂,w₂,hq₂,.of_steps (Steps.trans harr (.one step_inLoop)) harr₂⟩
   | exit id=>exact⟨_,a₁,w₁,hq,.pass (x:=.inLoop c) rfl (fun _ _=>.inl (by simp)) harr⟩
   | goto l=>exact⟨_,a₁,w₁,hq,.pass (x:=.inLoop c) rfl (fun _ _=>.inl (by simp)) harr⟩
   | ret=>exact⟨_,a₁,w₁,hq,.pass (x:=.inLoop c) rfl (fun _ _=>.inl (by simp)) harr⟩
   | panic ch=>exact⟨_,a₁,w₁,hq,.pass (x:=.inLoop c) rfl (fun _ _=>.inl (by simp)) harr⟩
   | outgrown=>exact⟨_,a₁,w₁,hq,.pass (x:=.inLoop c) rfl (fun _ _=>.inl (by simp)) harr⟩
 obtain⟨e,a',w',hq,harr⟩:=key _ a w rfl h₀
 exact⟨e,a',w',hq,.of_steps (.one step_loop) harr⟩
theorem wpB_recv {id:Nat} {o:Oper} {l:List Oper} (hk:b.kind≠.early) (hg:o.guard=none) {c:Nat} {z:Value} (hr:(execOp a.eval o).run P w=.ok (.comm #[rcase c z] true (.recv true)) w)
  {cap s r:Nat} {buf:Array Value} {closed tm:Bool} (hc:w.heap[c]?=some (.chan cap buf closed s r tm)) (hb:0<buf.size)
  (h:wpList P (o::l).toArray Q l (a.put o.dst (.tuple #[buf.getD 0 undef,.bool true])) (w.setChan c cap (buf.extract 1 buf.size) closed s (r+1) tm)) :
  wpB P b (Code.region id (o::l).toArray false) Q a w:=by
 intro k cs
 have hw:Region.wanted o (yielded (o::l).toArray a.tmps)=true:=by unfold Region.wanted;rw[hg]
 have h1:=stepG_comm (main:=true) (cs:=cs) (k:=k) (b:=b) (ops:=(o::l).toArray) (i:=0) (rest:=List.range' 1 l.length) rfl hw hk hr
 have h2:step P (oneG (G (b.at a (.inRegion (o::l).toArray (0::List.range' 1 l.length)::k)) cs) w)=.next (oneG ((G (b.at a (.inRegion (o::l).toArray (0::List.range' 1 l.length)::k)) cs).finishComm P #[rcase c z] (.recv true) 0 (buf.getD 0 undef) true) (w.setChan c cap (buf.extract 1 buf.size) closed s (r+1) tm)) :=
  own_lone rfl (.inr (.inl ⟨_,c,z,true,w,_,cap,buf,closed,s,r,tm,h1,hc,hb,rfl,rfl,rfl⟩))
 have h3:(G (b.at a (.inRegion (o::l).toArray (0::List.range' 1 l.length)::k)) cs).finishComm P #[rcase c z] (.recv true) 0 (buf.getD 0 undef) true=G (b.at (a.put o.dst (.tuple #[buf.getD 0 undef,.bool true])) (.inRegion (o::l).toArray (List.range' 1 l.length)::k)) cs:=by
  unfold Goroutine.finishComm
  simp only[G,commResult]
  rw[Frame.finish_at]
  rfl
 rw[h3] at h2
 have h4:=wpOps_eq_wpList (P:=P) (ops:=(o::l).toArray) (Q:=Q) l 1 (fun j=>by simp[Nat.add_comm 1 j])
 rw[<- h4] at h
 obtain⟨e,a',w',hq,harr⟩:=wp_ops _ _ _ h b k cs
 refine⟨e,a',w',hq,.of_steps (Steps.head step_region (Steps.one (m₁:=lone (b.at (a.put o.dst (.tuple #[buf.getD 0 undef,.bool true])) (.inRegion (o::l).toArray (List.range' 1 l.length)::k)) cs (w.setChan c cap (buf.extract 1 buf.size) closed s (r+1) tm)) ?_)) harr⟩
 have hrange:List.range (o::l).toArray.size=0::List.range' 1 l.length:=by
  rw[List.range_eq_range']
  simp[List.range'_succ]
 rw[hrange]
 exact h2
theorem wpB_recv0 {id:Nat} {o:Oper} {l:List Oper} (hk:b.kind≠.early) (hg:o.guard=none) {c:Nat} {z:Value} (hr:(execOp a.eval o).run P w=.ok (.comm #[rcase c z] true (.recv true)) w)
  {cap s r:Nat} {tm:Bool} (hc:w.heap[c]?=some (.chan cap #[] true s r tm))
  (h:wpList P (o::l).toArray Q l (a.put o.dst (.tuple #[z,.bool false])) w) :
  wpB P b (Code.region id (o::l).toArray false) Q a w:=by
 intro k cs
 have hw:Region.wanted o (yielded (o::l).toArray a.tmps)=true:=by unfold Region.wanted;rw[hg]
 have h1:=stepG_comm (main:=true) (cs:=cs) (k:=k) (b:=b) (ops:=(o::l).toArray) (i:=0) (rest:=List.range' 1 l.length) rfl hw hk hr
 have h2:step P (oneG (G (b.at a (.inRegion (o::l).toArray (0::List.range' 1 l.length)::k)) cs) w)=.next (oneG ((G (b.at a (.inRegion (o::l).toArray (0::List.range' 1 l.length)::k)) cs).finishComm P #[rcase c z] (.recv true) 0 z false) w) :=
  own_lone rfl (.inr (.inr ⟨_,c,z,true,w,_,cap,s,r,tm,h1,hc,rfl,rfl,rfl⟩))
 have h3:(G (b.at a (.inRegion (o::l).toArray (0::List.range' 1 l.length)::k)) cs).finishComm P #[rcase c z] (.recv true) 0 z false=G (b.at (a.put o.dst (.tuple #[z,.bool false])) (.inRegion (o::l).toArray (List.range' 1 l.length)::k)) cs:=by
  unfold Goroutine.finishComm
  simp only[G,commResult]
  rw[Frame.finish_at]
  rfl
 rw[h3] at h2
 have h4:=wpOps_eq_wpList (P:=P) (ops:=(o::l).toArray) (Q:=Q) l 1 (fun j=>by simp[Nat.add_comm 1 j])
 rw[<- h4] at h
 obtain⟨e,a',w',hq,harr⟩:=wp_ops _ _ _ h b k cs
 refine⟨e,a',w',hq,.of_steps (Steps.head step_region (Steps.one (m₁:=lone (b.at (a.put o.dst (.tuple #[z,.bool false])) (.inRegion (o::l).toArray (List.range' 1 l.length)::k)) cs w) ?_)) harr⟩
 have hrange:List.range (o::l).toArray.size=0::List.range' 1 l.length:=by
  rw[List.range_eq_range']
  simp[List.range'_succ]
 rw[hrange]
 exact h2
theorem hasEndB_seq {fi:Bool} {f:FuncId} {F:Array Value->World->Prop} {T:Array Value} {v:World} {x y:Code} (h:wpB P (base f) (Code.seq x y) (EndQ fi F) ⟨T,[]⟩ v):HasEnd P fi f F (G ((base f).at ⟨T,[]⟩ [.code x,.code y]) []) v:=by
 obtain⟨e,a,w',hq,ha⟩:=h [] []
 obtain⟨k,fr',w',hk,he,hf,hF⟩:=hasEnd_of (m:=G ((base f).at ⟨T,[]⟩ [.code (.seq x y)]) []) hq ha rfl
 cases k with
 | zero =>
  simp only[runN,Stepped.next.injEq,oneG,G,Machine.mk.injEq,Array.mk.injEq,List.cons.injEq,Goroutine.mk.injEq] at hk
  obtain⟨_,⟨⟨rfl,_⟩,_⟩,_⟩:=hk
  cases fi with
  | false=>cases he.2
  | true=>cases he
 | succ k =>
  have e:step P (oneG (G ((base f).at ⟨T,[]⟩ [.code (.seq x y)]) []) v)=.next (oneG (G ((base f).at ⟨T,[]⟩ [.code x,.code y]) []) v):=step_seq
  simp only[runN,e] at hk
  exact⟨k,fr',w',hk,he,hf,hF⟩
end
end Go.Proofs.YtkeapmmochpcfaaGreat.Nf
namespace Go.Proofs.YtkeapmmochpcfaaGreat.Nf
open Go Go.Conc
def Stand (P:Program) (m0:Machine) (B:Nat->Prop) (g:Goroutine) (v:World):Prop:=∃ w,Here P m0 B g w∧Pz B w (on v w.tape w.drawn)
section
variable {K : Rul} {P : Program} {m0 : Machine} {B : Nat → Prop} {f : FuncId} {T : Array Value} {v : World} {F : Array Value → World → Prop} {b : Frame} {a : Act} {k : List Item} {cs : List Frame}
theorem stand_start (g:Goroutine) (w:World):Stand P (solo g w) (fun _=>False) g w:=⟨w,here_start g w,Pz.refl w⟩
theorem stand_pieceM (H:Good K P) (q0:Quiets P) (hin:P.inits.idxOf? f=none) (hs:∀ i,K.fs f i=false) {td td':List Item} {r:Code} {bs:List Frame} (hx:extL r td=td') (ht:∀ x∈td,okItem K P f x) (he:Ends false td) (hF:∀ x w t d,F x w->F x (on w t d))
  (h:Stand P m0 B (G ((base f).at ⟨T,[]⟩ td') bs) v) (hC:∀ t d,HasEnd P false f F (G ((base f).at ⟨T,[]⟩ td) []) (on v t d)) :
  ∃ T' v',Stand P m0 B (G ((base f).at ⟨T',[]⟩ [.code r]) bs) v'∧F T' v':=by
 obtain⟨w,h,hz⟩:=h
 obtain⟨T',w',v',h1,h2,h3,_⟩:=here_pieceM H q0 hin hs hx ht he hF h hz hC
 exact⟨T',v',⟨w',h1,h3⟩,h2⟩
theorem stand_pieceL (H:Good K P) (q0:Quiets P) (hin:P.inits.idxOf? f=none) (hs:∀ i,K.fs f i=false) {td:List Item} {bs:List Frame} (ht:∀ x∈td,okItem K P f x) (he:Ends true td) (hF:∀ x w t d,F x w->F x (on w t d))
  (h:Stand P m0 B (G ((base f).at ⟨T,[]⟩ td) bs) v) (hC:∀ t d,HasEnd P true f F (G ((base f).at ⟨T,[]⟩ td) []) (on v t d)) :
  ∃ T' l v',Stand P m0 B (G (outF f T' l) bs) v'∧F T' v':=by
 obtain⟨w,h,hz⟩:=h
 obtain⟨T',l,w',v',h1,h2,h3,_⟩:=here_pieceL H q0 hin hs ht he hF h hz hC
 exact⟨T',l,v',⟨w',h1,h3⟩,h2⟩
theorem stand_ret {fn:Func} {l:List Item} {c:Frame} {val:Value} (hf:P.funcs[f]?=some fn) (h:Stand P m0 B (G (outF f T l) (c::cs)) v) (hr:(results fn T).run P v=.ok val v):Stand P m0 B (G (c.finish val) cs) v:=by
 obtain⟨w,h,hz⟩:=h
 obtain⟨w',h1,h2,_⟩:=here_ret hf h hz hr
 exact⟨w',h1,h2⟩
theorem stand_call (H:Good K P) (q0:Quiets P) {fn:Func} {body:Code} {args:Array Value} {c:Frame} {R:Value->World->Prop} (hR:∀ x w t d,R x w->R x (on w t d))
  (hf:P.funcs[f]?=some fn) (hb:fn.body=some body) (hsp:spine true body=true) (hk:K.fn f=true) (ha:∀ i,K.fs f i=false)
  (h:Stand P m0 B (G (Frame.enter P f args .normal) (c::cs)) v) (hC:∀ t d,Calls P f args (on v t d) fun e w'=>∃ val,e=.returned val∧R val w') :
  ∃ val v',Stand P m0 B (G (c.finish val) cs) v'∧R val v':=by
 obtain⟨w,h,hz⟩:=h
 obtain⟨val,w',v',h1,h2,h3,_⟩:=here_call H q0 hR hf hb hsp hk (fun i hi=>by rw[ha i] at hi;cases hi) h hz hC
 exact⟨val,v',⟨w',h1,h3⟩,h2⟩
theorem stand_c {g g':Goroutine} (h:Stand P m0 B g v) (hg:g.status=.running) (hg':g'.status=.running) (e:∀ w,stepG P true g w=.go g' w #[]):Stand P m0 B g' v:=by
 obtain⟨w,h,hz⟩:=h
 obtain⟨g2,w',hh,rfl,hz'⟩:=here_goes (Stop:=fun g2 w'=>g2=g'∧Pz B w' (on v w'.tape w'.drawn)) (fun g w h=>by rw[h.1];exact hg') (n:=1) h (Goes.step hg (fun w1 ⟨d,e1⟩=>by
  subst e1
  rw[e,goes_go]
  refine⟨⟨Nat.le_refl _,fun e he=>by simp at he⟩,fun w3 ⟨d3,e3⟩=>?_⟩
  subst e3
  exact⟨rfl,hz.on w.tape d3⟩))
 exact⟨w',hh,hz'⟩
theorem stand_seq {x y:Code} (h:Stand P m0 B (G (b.at a (.code (.seq x y)::k)) cs) v):Stand P m0 B (G (b.at a (.code x::.code y::k)) cs) v:=stand_c h rfl rfl (fun _=>stepG_seq)
theorem stand_skip (h:Stand P m0 B (G (b.at a (.code .skip::k)) cs) v):Stand P m0 B (G (b.at a k) cs) v:=stand_c h rfl rfl (fun _=>stepG_skip)
theorem stand_cond {c:Operand} {x y:Code} {t:Bool} (hc:a.eval c=.bool t) (h:Stand P m0 B (G (b.at a (.code (.cond c x y)::k)) cs) v):Stand P m0 B (G (b.at a (.code (if t then x else y)::k)) cs) v:=stand_c h rfl rfl (fun _=>stepG_cond hc)
theorem stand_region {id:Nat} {ops:Array Oper} (h:Stand P m0 B (G (b.at a (.code (.region id ops false)::k)) cs) v):Stand P m0 B (G (b.at a (.inRegion ops (List.range ops.size)::k)) cs) v:=stand_c h rfl rfl (fun _=>stepG_region)
theorem stand_region_end {ops:Array Oper} (h:Stand P m0 B (G (b.at a (.inRegion ops []::k)) cs) v):Stand P m0 B (G (b.at a k) cs) v:=stand_c h rfl rfl (fun _=>stepG_region_end)
theorem stand_goret {f:FuncId} {a:Act} (ha:a.defers=[]) (h:Stand P m0 B (G ((base f).at a (.code .ret::k)) cs) v):Stand P m0 B (G (outF f a.tmps (.code .ret::k)) cs) v:=by
 refine stand_c h rfl rfl (fun _=>?_)
 obtain⟨T,D⟩:=a
 dsimp only at ha
 subst ha
 simp[G,stepG,stepG.exec,Frame.at,outF]
theorem stand_enter {ops:Array Oper} {i:Nat} {rest:List Nat} {o:Oper} {fn:Func} {c:Code} {args:Array Operand} {ats:Array TypeId} (ho:ops[i]?=some o) (hw:Region.wanted o (yielded ops a.tmps)=true) (hk:b.kind≠.early)
  (hop : o.op = .call { callee := .value (.func f), args, argTypes := ats }) (hf : P.funcs[f]? = some fn) (hname : (fn.name == "runtime.NumGoroutine") = false) (hb : fn.body = some c)
  (h:Stand P m0 B (G (b.at a (.inRegion ops (i::rest)::k)) cs) v):Stand P m0 B (G (Frame.enter P f (args.map a.eval) .normal) (b.at a (.inRegion ops (i::rest)::k)::cs)) v:=by
 have hb':fn.body.isNone=false:=by rw[hb];rfl
 refine stand_c h rfl rfl (fun w=>?_)
 rw[stepG_enter ho hw hk (run_call_body hop hf hname hb')]
 have:listed P b.fn a o w=#[]:=by unfold listed;rw[events_call_body hop hf hname hb'];exact seen_none P _
 rw[this]
theorem stand_oper (H:Good K P) (hs:∀ i,K.fs b.fn i=false) {ops:Array Oper} {i:Nat} {rest:List Nat} {o:Oper} (ho:ops[i]?=some o) (hw:Region.wanted o (yielded ops a.tmps)=true) (hk:b.kind≠.early) (hop:opB K P b.fn o=true) {x:Next} {val:Value} {v':World}
  (hx:x=.value val∨x=.skip∧val=undef) (hr:∀ t d,(execOp a.eval o).run P (on v t d)=.ok x (on v' t d)) (h:Stand P m0 B (G (b.at a (.inRegion ops (i::rest)::k)) cs) v):Stand P m0 B (G (b.at (a.put o.dst val) (.inRegion ops rest::k)) cs) v':=by
 obtain⟨w,h,hz⟩:=h
 have hgood:=good_execOp (K:=K) (P:=P) H.fn (f:=b.fn) (ρ:=a.eval) (fun t ht=>by rw[hs t] at ht;cases ht) (fun g=>rfl) hop
 obtain⟨g2,w',hh,rfl,hz'⟩:=here_goes (Stop:=fun g2 w'=>g2=G (b.at (a.put o.dst val) (.inRegion ops rest::k)) cs∧Pz B w' (on v' w'.tape w'.drawn)) (fun g w h=>by rw[h.1];rfl) (n:=1) h (Goes.step rfl (fun w1 ⟨d,e1⟩=>by
  subst e1
  have hz1:Pz B (w.at d) (on v w.tape d):=hz.on w.tape d
  have hs:=hgood.1.sim B (w.at d) (on v w.tape d) #[] #[] hz1
  have ev:((execOp a.eval o).runT P (on v w.tape d) #[]).1=.ok x (on v' w.tape d):=(Sem.runT_fst P _ _ #[]).trans (hr w.tape d)
  unfold Fin at hs
  rw[ev] at hs
  dsimp only at hs
  obtain⟨w2,u,e2,hz2,hn,hu⟩:=hs
  rw[Array.empty_append] at e2
  have hrun:(execOp a.eval o).run P (w.at d)=.ok x w2:=by rw[<- Sem.runT_fst P _ _ #[],e2]
  have hev:(execOp a.eval o).events P (w.at d) #[]=u:=by unfold Sem.events;rw[e2]
  have hst:stepG P true (G (b.at a (.inRegion ops (i::rest)::k)) cs) (w.at d)=.go (G (b.at (a.put o.dst val) (.inRegion ops rest::k)) cs) w2 (listed P b.fn a o (w.at d)):=by
   rcases hx with rfl | ⟨rfl,rfl⟩
   ·
    exact stepG_value ho hw hk hrun
   ·
    exact stepG_none ho hw hk hrun
  rw[hst,goes_go]
  unfold listed
  rw[hev]
  refine⟨⟨hn,fun e he=>evP_ok (seen_ok hu e he)⟩,fun w3 ⟨d3,e3⟩=>?_⟩
  subst e3
  refine⟨rfl,?_⟩
  have:=hz2.on w2.tape d3
  exact this))
 exact⟨w',hh,hz'⟩
theorem stand_end {Post:Value->World->Prop} {fn:Func} {l:List Item} {val:Value} (hf:P.funcs[f]?=some fn) (hin:P.inits.idxOf? f=none) (h:Stand P m0 B (G (outF f T l) []) v) (hr:(results fn T).run P v=.ok val v) (hpost:∀ w',Pz B w' (on v w'.tape w'.drawn)->Post val w') :
  ∃ M last o w' t',runNT P (M+1) m0 #[]=(.ended o w',t')∧runN P M m0=.next last∧step P last=.ended o w'∧Conc.Good P Post last o w' t':=by
 obtain⟨w,h,hz⟩:=h
 exact here_end hf hin h hz hr hpost
def cutN:Nat->Code->Code
 | n+1,.seq a b=>.seq a (cutN n b)
 | 0,_=>.skip
 | _,c=>c
def restN:Nat->Code->Code
 | n+1,.seq _ b=>restN n b
 | _,c=>c
theorem finish_mid {ops:Array Oper} {i:Nat} {rest:List Nat} {val:Value} {o:Oper} (ho:ops[i]?=some o):(b.at a (.inRegion ops (i::rest)::k)).finish val=b.at (a.put o.dst val) (.inRegion ops rest::k):=by
 rw[Frame.finish_at,ho];rfl
end
end Go.Proofs.YtkeapmmochpcfaaGreat.Nf
namespace Go.Proofs.YtkeapmmochpcfaaGreat.Nf
open Go
theorem struct_bare {info:TypeId->Option TypeInfo} {fs:Array Field} {i:TypeInfo} (h:Made.reckonStruct info fs=some i):i.methods=#[]:=by
 unfold Made.reckonStruct at h
 obtain⟨x,_,h⟩:=Option.bind_eq_some_iff.1 h
 dsimp only at h
 split at h<;>(cases h;rfl)
theorem reckon_bare {info:TypeId->Option TypeInfo} {d:TypeDesc} {i:TypeInfo} (h:Made.reckon info d=some i):i.methods=#[]:=by
 unfold Made.reckon at h
 cases d with
 | pointer e =>
  obtain⟨x,_,h⟩:=Option.bind_eq_some_iff.1 h
  split at h
  ·
   cases h
  ·
   split at h
   ·
    cases h
   ·
    obtain⟨y,_,h⟩:=Option.bind_eq_some_iff.1 h
    cases h;rfl
  ·
   obtain⟨y,_,h⟩:=Option.bind_eq_some_iff.1 h
   cases h;rfl
 | slice e =>
  obtain⟨x,_,h⟩:=Option.bind_eq_some_iff.1 h
  obtain⟨y,_,h⟩:=Option.bind_eq_some_iff.1 h
  cases h;rfl
 | map k e =>
  obtain⟨x,_,h⟩:=Option.bind_eq_some_iff.1 h
  obtain⟨y,_,h⟩:=Option.bind_eq_some_iff.1 h
  obtain⟨z,_,h⟩:=Option.bind_eq_some_iff.1 h
  obtain⟨u,_,h⟩:=Option.bind_eq_some_iff.1 h
  cases h;rfl
 | chan dir e =>
  obtain⟨x,_,h⟩:=Option.bind_eq_some_iff.1 h
  obtain⟨y,_,h⟩:=Option.bind_eq_some_iff.1 h
  cases h;rfl
 | func ps rs v =>
  obtain⟨x,_,h⟩:=Option.bind_eq_some_iff.1 h
  cases h;rfl
 | array n e =>
  obtain⟨x,_,h⟩:=Option.bind_eq_some_iff.1 h
  dsimp only at h
  obtain⟨y,_,h⟩:=Option.bind_eq_some_iff.1 h
  cases h;rfl
 | struct fs=>exact struct_bare h
 | _=>cases h
theorem infoAt_bare {T:Tables}:∀ (f:Nat) {t:TypeId} {i:TypeInfo},¬ t<T.types.size->Made.infoAt T f t=some i->i.methods=#[]
 | 0,t,i,ht,h=>by cases h
 | f+1,t,i,ht,h=>by
  unfold Made.infoAt at h
  rw[if_neg ht] at h
  obtain⟨d,_,h⟩:=Option.bind_eq_some_iff.1 h
  exact reckon_bare h
theorem info_bare {P:Program} {t:TypeId} {i:TypeInfo} (ht:¬ t<P.types.size) (h:P.info? t=some i):i.methods=#[]:=by
 have h':Tables.info? P.toTables t=some i:=h
 unfold Tables.info? at h'
 rw[if_neg ht] at h'
 exact infoAt_bare _ ht h'
def methB (K:Rul) (free:FuncId->Bool) (P:Program):Bool :=
 P.types.all fun i=>i.methods.all fun m=>!K.nm m.name||match m.func with
  | some (g,_)=>K.fn g&&free g
  | none=>false
theorem meth_of {K:Rul} {free:FuncId->Bool} {P:Program} (hf:∀ g,free g=true->∀ s,K.fs g s=false) (h:methB K free P=true):∀ t i m,P.info? t=some i->m∈i.methods->K.nm m.name=true->∃ g b,m.func=some (g,b)∧K.fn g=true∧∀ s,K.fs g s=false:=by
 intro t i m hi hm hn
 by_cases ht:t<P.types.size
 ·
  have h':Tables.info? P.toTables t=some i:=hi
  unfold Tables.info? at h'
  rw[if_pos ht] at h'
  unfold methB at h
  rw[Array.all_eq_true_iff_forall_mem] at h
  have h1:=h i (Array.mem_of_getElem? h')
  rw[Array.all_eq_true_iff_forall_mem] at h1
  have h2:=h1 m hm
  rw[hn] at h2
  simp only[Bool.not_true,Bool.false_or] at h2
  split at h2
  ·
   rename_i g b hg
   rw[Bool.and_eq_true] at h2
   exact⟨g,b,hg,h2.1,hf g h2.2⟩
  ·
   cases h2
 ·
  rw[info_bare ht hi] at hm
  simp at hm
theorem ready_of {P:Program} (h:P.funcs.all (fun f=>(f.body.map readies).all (·.isEmpty))=true) (g:Nat):P.stepOf g=none:=by
 unfold Program.stepOf
 rw[Array.findIdx?_eq_none_iff]
 intro f hf
 rw[Array.all_eq_true_iff_forall_mem] at h
 have h1:=h f hf
 cases hb:f.body with
 | none=>rfl
 | some c =>
  rw[hb] at h1
  have h2:(readies c).isEmpty=true:=h1
  have h3:readies c=[]:=List.isEmpty_iff.1 h2
  show (readies c).contains g=false
  rw[h3];rfl
theorem fine_read {P:Program} (t:Extern.Atomic.T) (a:Addr):fine P (Extern.Atomic.read t a):=by
 unfold Extern.Atomic.read
 refine fine_bind (fine_load _ _) (fun v=>?_)
 split
 ·
  split
  ·
   exact fine_pure _
  ·
   exact fine_unsup _
 ·
  exact fine_pure _
 ·
  exact fine_pure _
 ·
  exact fine_unsup _
theorem fine_swapT {P:Program} (t:Extern.Atomic.T) (args:Array Value):fine P (Extern.Atomic.swapT t args):=by
 unfold Extern.Atomic.swapT
 obtain⟨l⟩:=args
 match l with
 | [a,b]=>exact fine_bind (fine_asAddr _) (fun a=>fine_bind (fine_read _ _) (fun v=>fine_bind (fine_store _ _ _) (fun _=>fine_pure _)))
 | []=>exact fine_stuck _
 | [_]=>exact fine_stuck _
 | _::_::_::_=>exact fine_stuck _
end Go.Proofs.YtkeapmmochpcfaaGreat.Nf
namespace Go.Proofs.YtkeapmmochpcfaaGreat.Nf
open Go Go.Conc
open Go.ConcN (sumTo upd sumTo_upd upd_ne upd_same)
def DM (w w':World) (es:Array Event):Prop:=es=#[] 
section
variable {P : Program} {Shun : Loc → Prop} {Stop : Goroutine → World → Prop} {B : Nat}
theorem walk_mute (hS:∀ g w,Stop g w->g.status=.running):∀ (n M:Nat) (gs:Array Goroutine) (g:Goroutine) (w:World) (sl:Option (Nat × Nat)) (t:Trace) (q:Nat->Nat),sumTo gs.size q<=M->gs[0]?=some g->Leavers P t gs q->Pst Shun B t->Goes P true AtRel DM Stop n g w ->
  ∃ (k:Nat) (gs':Array Goroutine) (g':Goroutine) (w':World) (sl':Option (Nat × Nat)) (t':Trace) (q':Nat->Nat),runNT P k (crowd gs w sl) t=(.next (crowd gs' w' sl'),t')∧gs'.size=gs.size∧gs'[0]?=some g'∧Stop g' w'∧Leavers P t' gs' q'∧Pst Shun B t':=by
 intro n
 induction n with
 | zero=>exact fun M gs g w sl t q _ h0 hL hP h=>⟨0,gs,g,w,sl,t,q,rfl,rfl,h0,h w ⟨w.drawn,rfl⟩,hL,hP⟩
 | succ n ihn =>
  intro M
  induction M using Nat.strongRecOn with
  | _ M ihM =>
   intro gs g w sl t q hM h0 hL hP h
   have hgr:g.status=.running:=Goes.running hS w ⟨w.drawn,rfl⟩ h
   rcases h with hstop | ⟨_,hstep⟩
   ·
    exact⟨0,gs,g,w,sl,t,q,rfl,rfl,h0,hstop w ⟨w.drawn,rfl⟩,hL,hP⟩
   ·
    have haw:∀ z∈gs,awake z:=by
     intro z hz
     obtain⟨k,hk⟩:=Array.mem_iff_getElem?.1 hz
     rcases Nat.eq_zero_or_pos k with rfl | hpos
     ·
      rw[h0] at hk;cases hk
      exact awake_of (.inl hgr)
     ·
      exact awake_of ((hL.old k z hpos hk).status.imp id .inr)
    obtain⟨i,y,d,sl',hi,hrun,hst⟩:=crowd_pick (P:=P) (w:=w) (sl:=sl) haw ⟨0,g,h0,hgr⟩
    rcases Nat.eq_zero_or_pos i with rfl | hpos
    ·
     rw[h0] at hi;cases hi
     have h1:=hstep (w.at d) ⟨d,rfl⟩
     cases hs:stepG P true g (w.at d) with
     | go g' w' es =>
      rw[hs] at h1
      obtain⟨hd,hg'⟩:=h1
      have hrT:=runT_crowd_go (P:=P) (sl:=sl') (i:=0) h0 (by simpa using hs)
      have hop:∀ op∈MemOp.ofEvents 0 g.frame.fn g.frame.place es,op.g=0:=fun op hop=>by obtain⟨e,_,rfl⟩:=Go.Conc.mem_ofEvents hop;rfl
      have hlt:0<gs.size:=(Array.getElem?_eq_some_iff.1 h0).1
      have hsz:((gs.map (woken P g g' w')).setIfInBounds 0 g').size=gs.size:=by simp
      have hL':Leavers P (t++MemOp.ofEvents 0 g.frame.fn g.frame.place es) ((gs.map (woken P g g' w')).setIfInBounds 0 g') q:=by
       refine⟨fun k z hk hz=>?_,fun k hk=>?_⟩
       ·
        rw[Array.getElem?_setIfInBounds_ne (by omega),Array.getElem?_map] at hz
        obtain⟨z',hz',rfl⟩:=Option.map_eq_some_iff.1 hz
        have hk':=hL.old k z' hk hz'
        rw[woken_quitsD hk',Deaf_other t (by omega) _ hop]
        exact hk'
       ·
        rw[hsz] at hk
        rw[Deaf_other t (by omega) _ hop]
        exact hL.above k hk
      obtain⟨k,gs',g2,w2,sl2,t2,q2,e,r1,r2,r3,r4,r5⟩:=ihn _ _ g' w' sl' _ q (Nat.le_refl _) (by simp[hlt]) hL' (by rw[show es=#[] from hd];simpa [MemOp.ofEvents] using hP) hg'
      refine⟨k+1,gs',g2,w2,sl2,t2,q2,?_,r1.trans hsz,r2,r3,r4,r5⟩
      simp only[runNT,hst,hrT]
      exact e
     | _=>rw[hs] at h1;exact h1.elim
    ·
     obtain⟨gs1,ops,q1,hr,hsz,h01,hL1,hP1,hlt⟩:=leaver_step (w:=w.at d) (sl:=sl') hpos hi hrun h0 hgr hL hP
     have h':Goes P true AtRel DM Stop (n+1) g (w.at d):=.inr ⟨hgr,fun w₁ ⟨d',e⟩=>hstep w₁ ⟨d',by rw[e];rfl⟩⟩
     obtain⟨k,gs',g2,w2,sl2,t2,q2,e,r1,r2,r3,r4,r5⟩:=ihM (sumTo gs1.size q1) (by omega) gs1 g (w.at d) sl' (t++ops) q1 (Nat.le_refl _) h01 hL1 hP1 h'
     refine⟨k+1,gs',g2,w2,sl2,t2,q2,?_,r1.trans hsz,r2,r3,r4,r5⟩
     simp only[runNT,hst,hr]
     exact e
end
end Go.Proofs.YtkeapmmochpcfaaGreat.Nf
namespace Go.Proofs.YtkeapmmochpcfaaGreat.Nf
open Go Go.Conc Go.ConcN
open Go.ConcR (KK wgBlock WgAt stA smA rd wr mk DC0)
section
variable (P : Program) (R : World → World → Prop) (ty : TypeId) (Wg : Nat)
def Says (m:Mark) (Nx:Goroutine->World->Prop) (g:Goroutine) (w:World):Prop :=
 g.status=.running∧∃ g',stepG P true g w=.go g' w #[mk m]∧∃ n,Goes P true R DC0 Nx n g' w
def More (N1 N2:Goroutine->World->Prop) (g:Goroutine) (w:World):Prop :=
 g.status=.running∧∀ v:Nat,v<2147483647->WgAt ty Wg w (v*KK) 0 ->
  ∃ g',stepG P true g w=.go g' (w.setCell (stA Wg) (.int .u64 ((v+1)*KK))) #[rd (stA Wg),wr (stA Wg)] ∧
   (v=0->∃ n,Goes P true R DC0 N1 n g' (w.setCell (stA Wg) (.int .u64 ((v+1)*KK)))) ∧
   (v≠0->∃ n,Goes P true R DC0 N2 n g' (w.setCell (stA Wg) (.int .u64 ((v+1)*KK))))
def Adding (Nx:Goroutine->World->Prop):Goroutine->World->Prop :=
 Says P R .disable (More P R ty Wg (Says P R (.read (smA Wg)) (Says P R .enable Nx)) (Says P R .enable Nx))
def Outs (Nx:Goroutine->World->Prop):Goroutine->World->Prop:=Says P R .enable (Says P R (.acquire (stA Wg)) Nx)
def Again (Nx:Goroutine->World->Prop) (g:Goroutine) (w:World):Prop :=
 g.status=.running∧(WgAt ty Wg w 0 0->∃ g',stepG P true g w=.go g' w #[rd (stA Wg)]∧∃ n,Goes P true R DC0 (Outs P R Wg Nx) n g' w)
def Sema (Nx:Goroutine->World->Prop) (g:Goroutine) (w:World):Prop :=
 g.status=.running∧g.offers=none ∧
  ((∃ st,WgAt ty Wg w st 0)->stepG P true g w=.go { g with status:=.blocked } w #[]) ∧
  (WgAt ty Wg w 0 1->∃ g',stepG P true g w=.go g' (w.setCell (smA Wg) (.int .u32 0)) (semEvents (smA Wg))∧∃ n,Goes P true R DC0 (Again P R ty Wg Nx) n g' (w.setCell (smA Wg) (.int .u32 0)))
def Swap (vs:Nat) (Hd Nx:Goroutine->World->Prop) (g:Goroutine) (w:World):Prop :=
 g.status=.running∧∀ v:Nat,v<2147483648->WgAt ty Wg w (v*KK) 0 ->
  (v=vs->∃ g',stepG P true g w=.go g' (w.setCell (stA Wg) (.int .u64 (v*KK+1))) #[rd (stA Wg),wr (stA Wg)] ∧
   ∃ n,Goes P true R DC0 (Says P R (.write (smA Wg)) (Sema P R ty Wg Nx)) n g' (w.setCell (stA Wg) (.int .u64 (v*KK+1)))) ∧
  (v≠vs->∃ g',stepG P true g w=.go g' w #[rd (stA Wg)]∧∃ n,Goes P true R DC0 Hd n g' w)
def Looks (Hd Nx:Goroutine->World->Prop) (g:Goroutine) (w:World):Prop :=
 g.status=.running∧∀ v:Nat,v<2147483648->WgAt ty Wg w (v*KK) 0->∃ g',stepG P true g w=.go g' w #[rd (stA Wg)] ∧
  (v=0->∃ n,Goes P true R DC0 (Outs P R Wg Nx) n g' w)∧(v≠0->∃ n,Goes P true R DC0 (Swap P R ty Wg v Hd Nx) n g' w)
end
theorem goes_le {P:Program} {main:Bool} {R:World->World->Prop} {D:World->World->Array Event->Prop} {Stop:Goroutine->World->Prop} {n:Nat} {g:Goroutine} {w:World} (h:Goes P main R D Stop n g w):∀ {n':Nat},n<=n'->Goes P main R D Stop n' g w:=by
 intro n' hn
 induction hn with
 | refl=>exact h
 | step _ ih=>exact ih.more
end Go.Proofs.YtkeapmmochpcfaaGreat.Nf
