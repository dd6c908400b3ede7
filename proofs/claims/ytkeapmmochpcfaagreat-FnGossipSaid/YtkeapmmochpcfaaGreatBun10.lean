/- Goroutines: QFz10. -/
import Derived.Test.YtkeapmmochpcfaaGreatBun9
import Derived.Conc.Listed
set_option maxRecDepth 100000
set_option maxHeartbeats 32000000
set_option linter.unusedVariables false
set_option linter.unusedSectionVars false
namespace Go.Proofs.YtkeapmmochpcfaaGreat.Nf
open Go
structure Rul where
 fn:FuncId->Bool
 nm:String->Bool
 fs:FuncId->Nat->Bool
 fv:FuncId->Bool
def okS (K:Rul) (v:Value):Prop:=v=undef∨∃ g,K.fv g=true∧v=.func (.func g) #[] #[]
def okBB:Builtin->Bool
 | .append | .cap | .copy | .len=>true
 | _=>false
def argsB (K:Rul) (f g:FuncId) (args:Array Operand):Bool :=
 (List.range args.size).all fun i=>!(K.fs g i)||match args[i]? with
  | some (.func h)=>K.fv h
  | some (.tmp s)=>K.fs f s
  | _=>false
def callB (K:Rul) (f:FuncId) (c:Call):Bool :=
 match c.callee with
 | .builtin b=>okBB b
 | .invoke _ s=>K.nm s
 | .value (.func g)=>K.fn g&&argsB K f g c.args
 | .value (.tmp t)=>K.fs f t
 | _=>false
def convB (P:Program) (src dst:TypeId):Bool :=
 match P.underlying src,P.underlying dst with
 | some (.int _),some (.int _)=>true
 | some (.slice e),some .string=>match P.underlying e with
  | some (.int .u8)=>true
  | _=>false
 | _,_=>false
def opB (K:Rul) (P:Program) (f:FuncId) (o:Oper):Bool :=
 (match o.dst with
  | some d=>!(K.fs f d)||match o.op with
   | .move (.tmp s) | .assign (.tmp s)=>K.fs f s
   | _=>false
  | none=>true) &&
 match o.op with
 | .move _ | .assign _ | .pick _ _ _ | .alloc _ | .box _ _ | .build _ _ | .buildSlice _ _ _ | .load _ _ | .store _ _ _ | .nilCheck _ | .binOp _ _ _ _ _ | .unOp _ _ _ | .makeInterface _ _ | .makeSlice _ _ _ | .slice _ _ _ _ _ | .fieldAddr _ _ _ | .field _ _ _ | .indexAddr _ _ _ | .index _ _ _ | .typeAssert _ _ _ _ | .extract _ _ | .recv _ _ _=>true
 | .convert s d _=>convB P s d
 | .call c=>callB K f c
 | _=>false
structure FnOk (K:Rul) (P:Program):Prop where
 call : ∀ g fn, K.fn g = true → P.funcs[g]? = some fn → (fn.name == "runtime.NumGoroutine") = false ∧
  (fn.body.isNone=false∨(Extern.findNext fn=none∧∀ e,Extern.find fn=some e->∀ args,fine P (e args)))
 meth:∀ t i m,P.info? t=some i->m∈i.methods->K.nm m.name=true->∃ g b,m.func=some (g,b)∧K.fn g=true∧∀ s,K.fs g s=false
 value:∀ g,K.fv g=true->K.fn g=true∧∀ s,K.fs g s=false
def okN (K:Rul) (f:FuncId) (dst:Option Tmp):Next->Prop
 | .value v=>∀ d,dst=some d->K.fs f d=true->okS K v
 | .skip=>True
 | .enter g args=>(∀ d,dst=some d->K.fs f d=false)∧K.fn g=true∧∀ i,K.fs g i=true->∀ h:i<args.size,okS K args[i]
 | .comm cases b sh=>(∀ d,dst=some d->K.fs f d=false)∧∃ v z cm,cases=#[{ chan:=v,send:=none,zero:=z }]∧b=true∧sh=.recv cm
 | _=>False
section
variable {K : Rul} {P : Program}
theorem convB_ok {s d:TypeId} (h:convB P s d=true):okConv P s d:=by
 unfold convB at h
 split at h
 ·
  exact .inl ⟨_,_,‹_›,‹_›⟩
 ·
  split at h
  ·
   exact .inr ⟨_,‹_›,‹_›,‹_›⟩
  ·
   cases h
 ·
  cases h
def good (P:Program) (Q:Next->Prop) (s:Sem Next):Prop:=fine P s∧gives P Q s
theorem good_value {Q:Next->Prop} {s:Sem Value} (h:fine P s) (hq:∀ v,Q (.value v)):good P Q (do pure (Next.value (<- s))):=⟨fine_bind h (fun _=>fine_pure _),gives_then (fun v=>gives_pure (hq v))⟩
theorem good_skip {Q:Next->Prop} {s:Sem Unit} (h:fine P s) (hq:Q .skip):good P Q (do s;pure Next.skip):=⟨fine_bind h (fun _=>fine_pure _),gives_then (fun v=>gives_pure hq)⟩
theorem good_pure {Q:Next->Prop} {x:Next} (h:Q x):good P Q (pure x):=⟨fine_pure _,gives_pure h⟩
theorem good_halt {Q:Next->Prop} {h:Halt} (hh:okH P h):good P Q (.halt h):=⟨fine_halt hh,gives_halt _⟩
theorem good_panic {Q:Next->Prop} (e:RuntimeError):good P Q (runtimePanic e):=⟨fine_runtimePanic e,gives_panic e⟩
theorem good_then {α:Type} {Q:Next->Prop} {s:Sem α} {k:α->Sem Next} (h:fine P s) (hk:∀ a,good P Q (k a)):good P Q (s >>= k):=⟨fine_bind h (fun a=>(hk a).1),gives_then (fun a=>(hk a).2)⟩
theorem good_prog {Q:Next->Prop} {k:Program->Sem Next} (h:good P Q (k P)):good P Q (program >>= k):=⟨fine_prog h.1,gives_bind (R:=fun p=>p=P) (fun w es a w' es' e=>by cases e;rfl) (fun p hp=>by subst hp;exact h.2)⟩
theorem fine_bind' {α β:Type} {R:α->Prop} {s:Sem α} {f:α->Sem β} (hs:fine P s) (hg:gives P R s) (hf:∀ a,R a->fine P (f a)):fine P (s >>= f):=by
 classical
 by_cases hne:∃ a,R a
 ·
  obtain⟨a0,h0⟩:=hne
  refine fine_of_run (s':=s >>= fun a=>if R a then f a else f a0) (fun w es=>?_) (fine_bind hs (fun a=>?_))
  ·
   rw[runT_bind,runT_bind]
   cases hr:s.runT P w es with
   | mk r es1 =>
    cases r with
    | halt x w1=>rfl
    | ok a w1=>dsimp only;rw[if_pos (hg w es a w1 es1 hr)]
  ·
   split
   ·
    exact hf a ‹_›
   ·
    exact hf a0 h0
 ·
  have e : ∀ w es, (s >>= f).runT P w es = (s >>= fun _ => stuck "").runT P w es := by
   intro w es
   rw[runT_bind,runT_bind]
   cases hr:s.runT P w es with
   | mk r es1 =>
    cases r with
    | halt x w1=>rfl
    | ok a w1=>exact absurd ⟨a,hg w es a w1 es1 hr⟩ hne
  exact fine_of_run e (fine_bind hs (fun _=>fine_stuck _))
theorem good_callFunc (F:FnOk K P) {f:FuncId} {dst:Option Tmp} (hd:∀ d,dst=some d->K.fs f d=false) {g:FuncId} (hg:K.fn g=true) {args:Array Value} (ha:∀ i,K.fs g i=true->∀ h:i<args.size,okS K args[i]):good P (okN K f dst) (callFunc g args):=by
 have hv:∀ v,okN K f dst (.value v):=fun v d e h=>by rw[hd d e] at h;cases h
 unfold callFunc
 refine good_prog ?_
 cases hf:P.funcs[g]? with
 | none=>exact good_halt trivial
 | some fn =>
  obtain⟨h1,h2⟩:=F.call g fn hg hf
  dsimp only
  rw[h1]
  simp only[Bool.false_eq_true,if_false]
  by_cases hb:fn.body.isNone=true
  ·
   rw[if_pos hb]
   rcases h2 with h2 | ⟨h2,h3⟩
   ·
    rw[h2] at hb;cases hb
   ·
    rw[h2]
    refine good_then (fine_mark trivial) (fun _=>?_)
    dsimp only
    cases he:Extern.find fn with
    | some e=>exact good_value (h3 e he args) hv
    | none =>
     dsimp only
     split
     ·
      exact good_pure (hv _)
     ·
      exact good_halt trivial
  ·
   rw[if_neg hb]
   exact good_pure ⟨hd,hg,ha⟩
theorem gives_method (F:FnOk K P):∀ (fuel:Nat) (t:TypeId) (v:Value) (name:String),K.nm name=true->fine P (method fuel t v name)∧gives P (fun x=>K.fn x.1=true∧∀ s,K.fs x.1 s=false) (method fuel t v name)
 | 0,t,v,name,hn=>by unfold method;exact⟨fine_unsup _,gives_halt _⟩
 | fuel+1,t,v,name,hn=>by
  unfold method
  have key:∀ i,P.info? t=some i->fine P (typeInfo t):=fun _ _=>fine_typeInfo t
  cases hi:P.info? t with
  | none =>
   have e : ∀ (β : Type) (k : TypeInfo → Sem β) w es, (typeInfo t >>= k).runT P w es = (.halt (.stuck "no such type") w, es) := by
    intro β k w es
    rw[runT_bind]
    unfold typeInfo
    rw[runT_bind,show program.runT P w es=(.ok P w,es) from rfl]
    dsimp only
    rw[hi]
    rfl
   exact ⟨fine_of_run (s' := .halt (.stuck "no such type")) (fun w es => e _ _ w es) (fine_halt trivial), fun w es a w' es' h => by rw [e] at h; cases h⟩
  | some i =>
   have e:∀ (β:Type) (k:TypeInfo->Sem β) w es,(typeInfo t >>= k).runT P w es=(k i).runT P w es:=by
    intro β k w es
    rw[runT_bind]
    unfold typeInfo
    rw[runT_bind,show program.runT P w es=(.ok P w,es) from rfl]
    dsimp only
    rw[hi]
    rfl
   have goal:∀ (k:TypeInfo->Sem (FuncId × Value)),(fine P (k i)∧gives P (fun x=>K.fn x.1=true∧∀ s,K.fs x.1 s=false) (k i))->fine P (typeInfo t >>= k)∧gives P (fun x=>K.fn x.1=true∧∀ s,K.fs x.1 s=false) (typeInfo t >>= k) :=
    fun k h=>⟨fine_of_run (fun w es=>e _ k w es) h.1,fun w es a w' es' h'=>h.2 w es a w' es' (by rw[<- e _ k];exact h')⟩
   refine goal _ ?_
   cases hm:i.methods.find? (·.name==name) with
   | none=>exact⟨fine_stuck _,gives_halt _⟩
   | some m =>
    have hnm:m.name=name:=by simpa using Array.find?_some hm
    obtain⟨g,b,hf,hg,hs⟩:=F.meth t i m hi (Array.mem_of_find?_eq_some hm) (by rw[hnm];exact hn)
    dsimp only
    rw[hf]
    dsimp only
    exact⟨fine_bind (fine_follow _ _ _) (fun _=>fine_bind (fine_receiverAt _ _ _ _) (fun _=>fine_pure _)),gives_then (fun _=>gives_then (fun _=>gives_pure ⟨hg,hs⟩))⟩
theorem good_callMethod (F:FnOk K P) {f:FuncId} {dst:Option Tmp} (hd:∀ d,dst=some d->K.fs f d=false) (v:Value) {name:String} (hn:K.nm name=true) (args:Array Value):good P (okN K f dst) (callMethod v name args):=by
 unfold callMethod
 split
 ·
  refine good_then fine_program (fun p=>?_)
  have h:=gives_method (P:=P) F (p.types.size+Made.depth) ‹TypeId› ‹Value› name hn
  refine⟨fine_bind' h.1 h.2 (fun x hx=>(good_callFunc F hd hx.1 (fun i hi=>by rw[hx.2 i] at hi;cases hi)).1),gives_bind h.2 (fun x hx=>(good_callFunc F hd hx.1 (fun i hi=>by rw[hx.2 i] at hi;cases hi)).2)⟩
 ·
  exact good_panic _
 ·
  exact good_halt trivial
theorem good_invoke (F:FnOk K P) {f:FuncId} {dst:Option Tmp} (hd:∀ d,dst=some d->K.fs f d=false) (d:Deferred) (h:match d.target with
  | .nil=>True
  | .builtin b _ _ _=>okBB b=true
  | .fn (.func g) cap=>cap=#[]∧K.fn g=true∧∀ i,K.fs g i=true->∀ h:i<d.args.size,okS K d.args[i]
  | .fn (.method name) _=>K.nm name=true
  | _=>False):good P (okN K f dst) (invoke d.target d.args):=by
 have hv:∀ v,okN K f dst (.value v):=fun v d e h=>by rw[hd d e] at h;cases h
 obtain⟨target,args⟩:=d
 dsimp only at h ⊢
 unfold invoke
 cases target with
 | nil=>exact good_panic _
 | builtin b ts t cs =>
  cases b<;>first
   | exact good_value (fine_append ts t args) hv
   | exact good_value (fine_cap ts t args) hv
   | exact good_value (fine_copy ts t args) hv
   | exact good_value (fine_len ts t args) hv
   | cases h
 | fn g cap =>
  cases g with
  | func g =>
   obtain⟨rfl,hg,ha⟩:=h
   simp only[Array.append_empty]
   exact good_callFunc F hd hg ha
  | method name =>
   dsimp only
   split
   ·
    exact good_callMethod F hd _ h _
   ·
    exact good_halt trivial
  | _=>exact h.elim
 | _=>exact h.elim
end
end Go.Proofs.YtkeapmmochpcfaaGreat.Nf
namespace Go.Proofs.YtkeapmmochpcfaaGreat.Nf
open Go
section
variable {K : Rul} {P : Program}
theorem argsB_ok {f g:FuncId} {args:Array Operand} {ρ:Operand->Value} (hρ:∀ t,K.fs f t=true->okS K (ρ (.tmp t))) (hf:∀ g,ρ (.func g)=.func (.func g) #[] #[]) (h:argsB K f g args=true):∀ i,K.fs g i=true->∀ hi:i<(args.map ρ).size,okS K (args.map ρ)[i]:=by
 intro i hs hi
 have hi':i<args.size:=by simpa using hi
 unfold argsB at h
 rw[List.all_eq_true] at h
 have:=h i (by simpa using hi')
 rw[hs,Array.getElem?_eq_getElem hi'] at this
 simp only[Bool.not_true,Bool.false_or] at this
 rw[Array.getElem_map]
 cases ha:args[i] with
 | func x=>rw[ha] at this;rw[hf];exact .inr ⟨x,this,rfl⟩
 | tmp t=>rw[ha] at this;exact hρ t this
 | _=>rw[ha] at this;cases this
theorem good_call (F:FnOk K P) {f:FuncId} {dst:Option Tmp} (hd:∀ d,dst=some d->K.fs f d=false) {ρ:Operand->Value} (hρ:∀ t,K.fs f t=true->okS K (ρ (.tmp t))) (hf:∀ g,ρ (.func g)=.func (.func g) #[] #[]) {c:Call} (hc:callB K f c=true) (ty:TypeId):good P (okN K f dst) (do let d <- resolve ρ c ty;invoke d.target d.args):=by
 obtain⟨callee,args,ats⟩:=c
 unfold resolve
 unfold callB at hc
 cases callee with
 | builtin b=>exact good_invoke F hd { target:=.builtin b _ _ _,args:=_ } hc
 | invoke x s=>exact good_invoke F hd { target:=.fn (.method s) #[],args:=_ } hc
 | value x =>
  dsimp only at hc ⊢
  cases x with
  | func g =>
   simp only[Bool.and_eq_true] at hc
   rw[hf g]
   refine good_invoke F hd { target:=.fn (.func g) #[],args:=#[]++args.map ρ } ⟨rfl,hc.1,?_⟩
   simp only[Array.empty_append]
   exact argsB_ok hρ hf hc.2
  | tmp t =>
   rcases hρ t hc with h | ⟨g,hg,h⟩
   ·
    rw[h];exact good_halt trivial
   ·
    rw[h]
    refine good_invoke F hd { target:=.fn (.func g) #[],args:=#[]++args.map ρ } ⟨rfl,(F.value g hg).1,fun i hi=>?_⟩
    rw[(F.value g hg).2 i] at hi
    cases hi
  | const v=>cases hc
  | global g=>cases hc
theorem good_execOp (F:FnOk K P) {f:FuncId} {ρ:Operand->Value} (hρ:∀ t,K.fs f t=true->okS K (ρ (.tmp t))) (hf:∀ g,ρ (.func g)=.func (.func g) #[] #[]) {o:Oper} (ho:opB K P f o=true):good P (okN K f o.dst) (execOp ρ o):=by
 obtain⟨dst,op,ty,pos,after,guard⟩:=o
 unfold opB at ho
 rw[Bool.and_eq_true] at ho
 obtain⟨h1,h2⟩:=ho
 dsimp only at h1 h2 ⊢
 have hd:∀ d,dst=some d->K.fs f d=false∨(∃ s,op=.move (.tmp s)∧K.fs f s=true)∨∃ s,op=.assign (.tmp s)∧K.fs f s=true:=by
  rintro d rfl
  dsimp only at h1
  cases hk:K.fs f d with
  | false=>exact .inl rfl
  | true =>
   rw[hk] at h1
   simp only[Bool.not_true,Bool.false_or] at h1
   split at h1
   ·
    exact .inr (.inl ⟨_,rfl,h1⟩)
   ·
    exact .inr (.inr ⟨_,rfl,h1⟩)
   ·
    cases h1
 have hm:∀ x,op=.move x∨op=.assign x->okN K f dst (.value (ρ x)):=by
  intro x hx d e hk
  rcases hd d e with h | ⟨s,h,hs⟩ | ⟨s,h,hs⟩
  ·
   rw[h] at hk;cases hk
  ·
   rcases hx with hx | hx
   ·
    rw[hx] at h;cases h;exact hρ s hs
   ·
    rw[hx] at h;cases h
  ·
   rcases hx with hx | hx
   ·
    rw[hx] at h;cases h
   ·
    rw[hx] at h;cases h;exact hρ s hs
 have hn:(∀ x,op≠.move x)->(∀ x,op≠.assign x)->∀ d,dst=some d->K.fs f d=false:=by
  intro h3 h4 d e
  rcases hd d e with h | ⟨s,h,_⟩ | ⟨s,h,_⟩
  ·
   exact h
  ·
   exact absurd h (h3 _)
  ·
   exact absurd h (h4 _)
 have hv:(∀ x,op≠.move x)->(∀ x,op≠.assign x)->∀ v,okN K f dst (.value v):=fun h3 h4 v d e hk=>by rw[hn h3 h4 d e] at hk;cases hk
 unfold execOp
 dsimp only
 cases op with
 | move x=>exact good_pure (hm x (.inl rfl))
 | assign x=>exact good_pure (hm x (.inr rfl))
 | pick c a b=>exact good_then (fine_asBool _) (fun z=>good_pure (hv (by simp) (by simp) _))
 | alloc t=>exact good_value (fine_alloc _ _ _) (hv (by simp) (by simp))
 | box t x=>exact good_value (fine_box _ _) (hv (by simp) (by simp))
 | build t parts=>exact good_value (fine_build _ _) (hv (by simp) (by simp))
 | buildSlice t l parts=>exact good_value (fine_buildSlice _ _ _) (hv (by simp) (by simp))
 | load t a=>exact good_value (fine_loadAt _ _) (hv (by simp) (by simp))
 | store t a x=>exact good_skip (fine_storeAt _ _ _) trivial
 | nilCheck x =>
  have hv':=hv (by simp) (by simp)
  dsimp only
  split
  ·
   exact good_panic _
  ·
   exact good_panic _
  ·
   exact good_panic _
  ·
   split
   ·
    exact good_panic _
   ·
    refine good_then fine_program (fun p=>good_then (fine_nilAhead _ _ _ _) (fun z=>?_))
    split
    ·
     exact good_then (fine_unsup _) (fun _=>good_pure (hv' _))
    ·
     exact good_pure (hv' _)
   ·
    exact good_pure (hv' _)
  ·
   exact good_pure (hv' _)
 | binOp op t x y u=>exact good_value (fine_bind (fine_eqGuard _ _ _ _ _ _) (fun _=>fine_binOp _ _ _ _)) (hv (by simp) (by simp))
 | unOp op t x=>exact good_value (fine_unary _ _) (hv (by simp) (by simp))
 | convert src dst x=>exact good_value (fine_convert (convB_ok h2) _) (hv (by simp) (by simp))
 | makeInterface t x=>exact good_value (fine_makeInterface _ _) (hv (by simp) (by simp))
 | makeSlice t l c=>exact good_value (fine_makeSlice _ _ _) (hv (by simp) (by simp))
 | slice t x lo hi mx=>exact good_value (fine_sliceAt _ _ _ _ _) (hv (by simp) (by simp))
 | fieldAddr t x i=>exact good_value (fine_fieldAt _ _ _) (hv (by simp) (by simp))
 | field t x i=>exact good_value (fine_field _ _ _) (hv (by simp) (by simp))
 | indexAddr t x i=>exact good_value (fine_indexAt _ _ _) (hv (by simp) (by simp))
 | index t x i=>exact good_value (fine_index _ _ _) (hv (by simp) (by simp))
 | typeAssert x a b c=>exact good_value (fine_typeAssert _ _ _ _) (hv (by simp) (by simp))
 | extract x i=>exact good_value (fine_extract _ _) (hv (by simp) (by simp))
 | call c=>exact good_call F (hn (by simp) (by simp)) hρ hf h2 ty
 | recv t ch b =>
  refine good_then (fine_underlying _) (fun d=>?_)
  split
  ·
   exact good_then (fine_zeroValue _) (fun z=>good_pure ⟨hn (by simp) (by simp),_,_,_,rfl,rfl,rfl⟩)
  ·
   exact good_halt trivial
 | _=>cases h2
end
end Go.Proofs.YtkeapmmochpcfaaGreat.Nf
namespace Go.Proofs.YtkeapmmochpcfaaGreat.Nf
open Go
def codeB (K:Rul) (P:Program) (f:FuncId):Code->Bool
 | .region _ ops _=>ops.all (opB K P f)
 | .seq a b=>codeB K P f a&&codeB K P f b
 | .cond _ a b=>codeB K P f a&&codeB K P f b
 | .block _ b=>codeB K P f b
 | .loop b=>codeB K P f b
 | .scope b=>codeB K P f b
 | .rangeFunc _ _ _ _=>false
 | _=>true
def okItem (K:Rul) (P:Program) (f:FuncId):Item->Prop
 | .code c=>codeB K P f c=true
 | .inBlock _=>True
 | .inLoop b=>codeB K P f b=true
 | .inScope b=>codeB K P f b=true
 | .inRegion ops l=>∀ i∈l,∀ o,ops[i]?=some o->opB K P f o=true
 | _=>False
structure OkF (K:Rul) (P:Program) (fr:Frame):Prop where
 slots:∀ i,K.fs fr.fn i=true->∀ h:i<fr.tmps.size,okS K fr.tmps[i]
 todo:∀ x∈fr.todo,okItem K P fr.fn x
 defers:fr.defers=[]
 kind:fr.kind=.normal
 round:fr.roundOf=none
 init:P.inits.idxOf? fr.fn=none
def Waits (K:Rul) (fr:Frame):Prop:=∃ ops i rest k,fr.todo=.inRegion ops (i::rest)::k∧∀ o d,ops[i]?=some o->o.dst=some d->K.fs fr.fn d=false
def ext (r:Code):Code->Code
 | .seq a b=>.seq a (ext r b)
 | .skip=>r
 | c=>c
def spine (fi:Bool):Code->Bool
 | .seq _ b=>spine fi b
 | .skip=>!fi
 | .ret=>fi
 | _=>false
def extL (r:Code):List Item->List Item
 | []=>[]
 | [.code c]=>[.code (ext r c)]
 | x::k=>x::extL r k
def Ends (fi:Bool) (l:List Item):Prop:=∃ k c,l=k++[.code c]∧spine fi c=true
def ovF (r:Code) (fr:Frame):Frame:={ fr with todo:=extL r fr.todo }
def rf (r:Code) (fr:Frame):List Frame->Frame
 | []=>ovF r fr
 | _::_=>fr
def rc (r:Code) (base:List Frame):List Frame->List Frame
 | []=>base
 | a::cs=>rf r a cs::rc r base cs
def over (g:Goroutine) (r:Code) (base:List Frame):Goroutine:={ g with frame:=rf r g.frame g.callers,callers:=rc r base g.callers }
def AtEnd (g:Goroutine):Prop:=g.callers=[]∧g.frame.mode=.run∧g.frame.todo=[.code .skip]
def Bot (fi:Bool):Frame->List Frame->Prop
 | fr,[]=>Ends fi fr.todo
 | _,a::cs=>Bot fi a cs
structure JB (K:Rul) (P:Program) (fi:Bool) (g:Goroutine):Prop where
 run:g.status=.running
 alive:g.dying=none
 offers:g.offers=none
 top:OkF K P g.frame
 mode:g.frame.mode=.run∨g.frame.mode=.returning
 below:∀ c∈g.callers,OkF K P c∧c.mode=.run∧Waits K c
 bot:Bot fi g.frame g.callers
structure Lost (P:Program) (g:Goroutine):Prop where
 run:g.status=.running
 alive:g.dying=none
 top:∃ t x,t∈rtTs P∧g.frame.mode=.panicking [{ v:=.iface t x,recovered:=false }]
 defers:g.frame.defers=[]
 below:∀ c∈g.callers,c.defers=[]∧c.mode=.run
structure Good (K:Rul) (P:Program):Prop where
 code : ∀ f, K.fn f = true → codeB K P f (((P.funcs[f]?).bind (·.body)).getD (.refuse "unsupported: a function without a Go body is entered")) = true
 init:∀ f,K.fn f=true->P.inits.idxOf? f=none
 fn:FnOk K P
 ready:∀ g,P.stepOf g=none
 ahead:P.follows .staticDataAhead=true
def gW:GStep->World
 | .go _ w _=>w
 | .comm _ _ _ _ w _=>w
 | .ended _ w _=>w
 | _=>default
def gOn (t:Tp) (d:Nat):GStep->GStep
 | .go g w es=>.go g (on w t d) es
 | .comm g cs b s w es=>.comm g cs b s (on w t d) es
 | .ended o w es=>.ended o (on w t d) es
 | x=>x
def DrewG (f:World->GStep) (w:World) (c:Nat):Prop :=
 (gW (f w)).drawn=w.drawn+c∧(gW (f w)).tape=w.tape∧∀ t d,(∀ i,i<c->t (d+i)=w.tape (w.drawn+i))->f (on w t d)=gOn t (d+c) (f w)
def OutF (K:Rul) (P:Program) (fi:Bool):GStep->Prop
 | .go g w es=>JB K P fi g∨Lost P g
 | .comm g cases b sh w es=>JB K P fi g∧Waits K g.frame∧g.frame.mode=.run∧∃ v z cm,cases=#[{ chan:=v,send:=none,zero:=z }]∧b=true∧sh=.recv cm
 | .ended _ _ _=>True
 | _=>False
def SimG (P:Program) (r:Code) (base:List Frame) (B:Nat->Prop) (n:Nat) (x:GStep):GStep->Prop
 | .go g v _=>Lost P g∨∃ w u,x=.go (over g r base) w u∧Pz B w v∧n<=w.heap.size∧∀ e∈u,okEv B w.heap.size e
 | .comm g cs b sh v _=>∃ w u,x=.comm (over g r base) cs b sh w u∧Pz B w v∧n<=w.heap.size∧∀ e∈u,okEv B w.heap.size e
 | _=>True
structure Step2 (K:Rul) (P:Program) (fi:Bool) (g:Goroutine):Prop where
 out:∀ w,OutF K P fi (stepG P true g w)
 drew:∀ w,∃ c,DrewG (fun w=>stepG P true g w) w c
 sim:∀ r base B w v,Pz B w v->SimG P r base B w.heap.size (stepG P true (over g r base) w) (stepG P true g v)
section
variable {K : Rul} {P : Program} {fi : Bool}
theorem step2_to {g g':Goroutine} (e0:∀ w,stepG P true g w=.go g' w #[]) (e:∀ r base w,stepG P true (over g r base) w=.go (over g' r base) w #[]) (h:JB K P fi g'):Step2 K P fi g :=
 ⟨fun w=>by rw[e0];exact .inl h,fun w=>⟨0,by dsimp only;rw[e0];rfl,by dsimp only;rw[e0];rfl,fun t d _=>by dsimp only;rw[e0,e0];rfl⟩,fun r base B w v hp=>by rw[e0,e];exact .inr ⟨w,#[],rfl,hp,Nat.le_refl _,by simp⟩⟩
theorem step2_end {g:Goroutine} {o:Outcome} (e:∀ w,stepG P true g w=.ended o w #[]):Step2 K P fi g :=
 ⟨fun w=>by rw[e];trivial,fun w=>⟨0,by dsimp only;rw[e];rfl,by dsimp only;rw[e];rfl,fun t d _=>by dsimp only;rw[e,e];rfl⟩,fun r base B w v hp=>by rw[e v];trivial⟩
theorem extL_cons {r:Code} {x:Item} {k:List Item} (h:k≠[]):extL r (x::k)=x::extL r k:=by
 cases k with
 | nil=>exact absurd rfl h
 | cons y k=>cases x<;>rfl
theorem extL_item {r:Code} {x:Item} {k:List Item} (h:∀ c,x≠.code c):extL r (x::k)=x::extL r k:=by
 cases x<;>first | rfl | (cases k<;>rfl) | exact absurd rfl (h _)
theorem Ends.ne {l:List Item} (h:Ends fi l):l≠[]:=by
 obtain⟨k,c,rfl,_⟩:=h
 simp
theorem Ends.tail {x:Item} {k:List Item} (h:Ends fi (x::k)) (hk:k≠[]):Ends fi k:=by
 obtain⟨l,c,e,hs⟩:=h
 cases l with
 | nil=>simp at e;exact absurd e.2 hk
 | cons y l =>
  simp only[List.cons_append,List.cons.injEq] at e
  exact⟨l,c,e.2,hs⟩
theorem Ends.item {x:Item} {k:List Item} (h:Ends fi (x::k)) (hx:∀ c,x≠.code c):k≠[]:=by
 rintro rfl
 obtain⟨l,c,e,hs⟩:=h
 cases l with
 | nil=>simp at e;exact hx _ e
 | cons y l=>simp at e
theorem Ends.cons {x:Item} {k:List Item} (h:Ends fi k):Ends fi (x::k):=by
 obtain⟨l,c,rfl,hs⟩:=h
 exact⟨x::l,c,rfl,hs⟩
theorem extL_append {r:Code} {k:List Item} (h:k≠[]):∀ new:List Item,extL r (new++k)=new++extL r k
 | []=>rfl
 | x::new=>by
  rw[List.cons_append,extL_cons (by simp[h]),extL_append h new]
  rfl
theorem Ends.append {k:List Item} (h:Ends fi k):∀ new:List Item,Ends fi (new++k)
 | []=>h
 | x::new=>(Ends.append h new).cons
theorem Ends.last {c:Code} (h:Ends fi [.code c]):spine fi c=true:=by
 obtain⟨l,d,e,hs⟩:=h
 cases l with
 | nil=>simp at e;subst e;exact hs
 | cons y l=>simp at e
theorem exitTo_ext {r : Code} {id : Nat} : ∀ {k : List Item}, Ends fi k → exitTo id (extL r k) = (exitTo id k).map (extL r) ∧ ∀ k', exitTo id k = some k' → Ends fi k'
  | [], h => absurd rfl h.ne
  | x :: k, h => by
    by_cases hk : k = []
    · subst hk
      obtain ⟨l, c, e, hs⟩ := h
      cases l with
      | nil => simp at e; subst e; exact ⟨rfl, fun k' hk' => by cases hk'⟩
      | cons y l => simp at e
    · have ht := h.tail hk
      have ih := exitTo_ext (r := r) (id := id) ht
      rw [extL_cons hk]
      cases x <;> simp only [exitTo] <;> first
        | exact ih
        | (split
           · exact ⟨rfl, fun k' hk' => by cases hk'; exact ht⟩
           · exact ih)
theorem gotoIn_ext {r : Code} {l : Nat} : ∀ {k : List Item}, Ends fi k → gotoIn l (extL r k) = (gotoIn l k).map (extL r) ∧ ∀ k', gotoIn l k = some k' → Ends fi k'
  | [], h => absurd rfl h.ne
  | x :: k, h => by
    by_cases hk : k = []
    · subst hk
      obtain ⟨l', c, e, hs⟩ := h
      cases l' with
      | nil => simp at e; subst e; exact ⟨rfl, fun k' hk' => by cases hk'⟩
      | cons y l => simp at e
    · have ht := h.tail hk
      have ih := gotoIn_ext (r := r) (l := l) ht
      rw [extL_cons hk]
      cases x <;> simp only [gotoIn] <;> first
        | exact ih
        | (split
           · refine ⟨?_, fun k' hk' => ?_⟩
             · simp only [Option.map_some]
               rw [extL_cons (by simp), extL_cons hk]
             · cases hk'
               exact ht.cons.cons
           · exact ih)
theorem finish_mode (fr:Frame) (v:Value):(fr.finish v).mode=fr.mode:=by unfold Frame.finish;split<;>rfl
theorem OkF.finish {fr:Frame} (h:OkF K P fr) {ops:Array Oper} {i:Nat} {rest:List Nat} {k:List Item} (ht:fr.todo=.inRegion ops (i::rest)::k) {v:Value} (hv:∀ o d,ops[i]?=some o->o.dst=some d->K.fs fr.fn d=true->okS K v):OkF K P (fr.finish v):=by
 obtain⟨fn,tmps,todo,defers,mode,kind,round⟩:=fr
 dsimp only at ht hv
 subst ht
 have htd:=h.todo
 dsimp only at htd
 have hin:∀ x∈(.inRegion ops rest::k:List Item),okItem K P fn x:=by
  intro x hx
  rcases List.mem_cons.1 hx with rfl | hx
  ·
   exact fun j hj o ho=>htd (.inRegion ops (i::rest)) (List.mem_cons_self ..) j (List.mem_cons_of_mem _ hj) o ho
  ·
   exact htd x (List.mem_cons_of_mem _ hx)
 unfold Frame.finish
 dsimp only
 refine⟨?_,hin,h.defers,h.kind,h.round,h.init⟩
 intro j hj hlt
 dsimp only at hj hlt ⊢
 split at hlt
 ·
  rename_i d hd
  by_cases e:d=j
  ·
   subst e
   rw[Array.getElem_setIfInBounds_self]
   obtain⟨o,ho,hod⟩:=Option.bind_eq_some_iff.1 hd
   exact hv o d ho hod hj
  ·
   rw[Array.getElem_setIfInBounds_ne (h:=e)]
   exact h.slots j hj (by simpa using hlt)
 ·
  exact h.slots j hj hlt
theorem exitTo_ok {f : FuncId} {id : Nat} : ∀ {k k' : List Item}, (∀ x ∈ k, okItem K P f x) → exitTo id k = some k' → ∀ x ∈ k', okItem K P f x
  | [], k', h, e => by cases e
  | x :: k, k', h, e => by
    have ht : ∀ y ∈ k, okItem K P f y := fun y hy => h y (List.mem_cons_of_mem _ hy)
    cases x <;> simp only [exitTo] at e <;> first
      | (split at e
         · cases e; exact ht
         · exact exitTo_ok ht e)
      | exact exitTo_ok ht e
theorem findLabel_ok {f:FuncId} {l:Nat}:∀ {c r:Code},codeB K P f c=true->findLabel c l=some r->codeB K P f r=true
 | .seq a b,r,h,e=>by
  simp only[codeB,Bool.and_eq_true] at h
  simp only[findLabel] at e
  split at e
  ·
   rename_i x hx
   cases e
   simp only[codeB,Bool.and_eq_true]
   exact⟨findLabel_ok h.1 hx,h.2⟩
  ·
   exact findLabel_ok h.2 e
 | .label l',r,h,e=>by
  simp only[findLabel] at e
  split at e
  ·
   cases e;rfl
  ·
   cases e
 | .skip,r,h,e=>by simp[findLabel] at e
 | .region ..,r,h,e=>by simp[findLabel] at e
 | .cond ..,r,h,e=>by simp[findLabel] at e
 | .block ..,r,h,e=>by simp[findLabel] at e
 | .loop ..,r,h,e=>by simp[findLabel] at e
 | .rangeFunc ..,r,h,e=>by simp[findLabel] at e
 | .exit ..,r,h,e=>by simp[findLabel] at e
 | .scope ..,r,h,e=>by simp[findLabel] at e
 | .goto ..,r,h,e=>by simp[findLabel] at e
 | .ret,r,h,e=>by simp[findLabel] at e
 | .refuse _,r,h,e=>by simp[findLabel] at e
theorem gotoIn_ok {f : FuncId} {l : Nat} : ∀ {k k' : List Item}, (∀ x ∈ k, okItem K P f x) → gotoIn l k = some k' → ∀ x ∈ k', okItem K P f x
  | [], k', h, e => by cases e
  | x :: k, k', h, e => by
    have ht : ∀ y ∈ k, okItem K P f y := fun y hy => h y (List.mem_cons_of_mem _ hy)
    have hh := h x (List.mem_cons_self ..)
    cases x <;> simp only [gotoIn] at e <;> first
      | exact gotoIn_ok ht e
      | (split at e
         · rename_i r hr
           cases e
           intro y hy
           simp only [List.mem_cons] at hy
           rcases hy with rfl | rfl | hy
           · exact findLabel_ok (l := l) hh hr
           · exact hh
           · exact ht y hy
         · exact gotoIn_ok ht e)
theorem eval_slot {fr:Frame} (h:OkF K P fr):∀ t,K.fs fr.fn t=true->okS K (fr.eval (.tmp t)):=by
 intro t ht
 show okS K (fr.tmps.getD t undef)
 by_cases hl:t<fr.tmps.size
 ·
  rw[Array.getD_eq_getD_getElem?,Array.getElem?_eq_getElem hl];exact h.slots t ht hl
 ·
  rw[Array.getD_eq_getD_getElem?,Array.getElem?_eq_none (Nat.le_of_not_lt hl)];exact .inl rfl
theorem enter_okF (G:Good K P) {f:FuncId} (hf:K.fn f=true) {args:Array Value} (ha:∀ i,K.fs f i=true->∀ h:i<args.size,okS K args[i]):OkF K P (Frame.enter P f args .normal):=by
 refine⟨?_,?_,rfl,rfl,rfl,G.init f hf⟩
 ·
  intro i hi hlt
  simp only[Frame.enter] at hlt ⊢
  rw[Array.getElem_append]
  split
  ·
   exact ha i hi _
  ·
   exact .inl (by simp)
 ·
  intro x hx
  simp only[Frame.enter,List.mem_cons,List.not_mem_nil,or_false] at hx
  subst hx
  exact G.code f hf
end
end Go.Proofs.YtkeapmmochpcfaaGreat.Nf
namespace Go.Proofs.YtkeapmmochpcfaaGreat.Nf
open Go
def post (P:Program) (fr:Frame) (cs:List Frame):Result Next × Array Event->GStep
 | (.ok (.value v) w,es)=>.go { frame:=fr.finish v,callers:=cs,status:=.running,dying:=none } w (seen P fr.fn es)
 | (.ok .skip w,es)=>.go { frame:=fr.finish undef,callers:=cs,status:=.running,dying:=none } w (seen P fr.fn es)
 | (.ok (.enter f args) w,es)=>.go { frame:=Frame.enter P f args .normal,callers:=fr::cs,status:=.running,dying:=none } w (seen P fr.fn es)
 | (.ok (.comm c b sh) w,es)=>.comm { frame:=fr,callers:=cs,status:=.running,dying:=none } c b sh w (seen P fr.fn es)
 | (.halt (.panic v) w,es)=>.go { frame:=fr.raise [{ v,recovered:=false }],callers:=cs,status:=.running,dying:=none } w (seen P fr.fn es)
 | (.halt (.stuck y) w,es)=>.ended (.stuck y (fr.pos P)) w (seen P fr.fn es)
 | (.halt (.unsupported (.initOrder g)) w,es)=>.ended (.unsupported (.initOrder g) (fr.pos P)) w (seen P fr.fn #[])
 | (.halt (.unsupported u) w,es)=>.ended (.unsupported u (fr.pos P)) w (seen P fr.fn es)
 | (.ok _ w, es) => .ended (.stuck "" "") w es
 | (.halt _ w, es) => .ended (.stuck "" "") w es
def okR (K:Rul) (P:Program) (f:FuncId) (dst:Option Tmp):Result Next->Prop
 | .ok x _=>okN K f dst x
 | .halt h _=>okH P h
section
variable {K : Rul} {P : Program} {fi : Bool} {fr : Frame} {cs : List Frame}
theorem apply_post (G:Good K P) (hk:fr.kind=.normal) {ops:Array Oper} {l:List Nat} {k:List Item} (ht:fr.todo=.inRegion ops l::k) {dst:Option Tmp} {s:Sem Next} {w:World} (h:okR K P fr.fn dst (s.runT P w #[]).1):stepG.apply P true fr cs none s w=post P fr cs (s.runT P w #[]):=by
 have hkk:(fr.kind==CallKind.early)=false:=by rw[hk];rfl
 unfold stepG.apply
 cases hr:s.runT P w #[] with
 | mk r es =>
  rw[hr] at h
  simp only[↓reduceIte,hkk,Bool.false_eq_true]
  cases r with
  | ok x w' =>
   cases x<;>first
    | exact h.elim
    | (simp only[ht,GStep.after,post,Array.append_empty])
  | halt x w' =>
   cases x with
   | panic v=>simp only[GStep.after,post,Array.append_empty]
   | stuck y=>simp only[GStep.after,post,Array.append_empty]
   | unsupported u =>
    cases u with
    | initOrder g =>
     have he:early P fr cs none g w'=.ended (.unsupported (.initOrder g) (fr.pos P)) w':=by
      unfold early
      simp only[G.ahead,Bool.not_true,Bool.false_eq_true,if_false,G.ready]
     simp only[he,GStep.after,post,Array.append_empty]
    | _=>simp only[GStep.after,post,Array.append_empty]
   | _=>exact h.elim
theorem post_on (t:Tp) (d:Nat):∀ r:Result Next × Array Event,post P fr cs (rOn t d r.1,r.2)=gOn t d (post P fr cs r)
 | (.ok x w,es)=>by cases x<;>rfl
 | (.halt x w,es)=>by
  cases x with
  | unsupported u=>cases u<;>rfl
  | _=>rfl
theorem post_w:∀ r:Result Next × Array Event,gW (post P fr cs r)=rW r.1
 | (.ok x w,es)=>by cases x<;>rfl
 | (.halt x w,es)=>by
  cases x with
  | unsupported u=>cases u<;>rfl
  | _=>rfl
theorem Pz.refl (w:World):Pz (fun _=>False) w w:=⟨fun _ _=>rfl,fun _ h=>h.elim,rfl,rfl,rfl,⟨rfl,rfl⟩⟩
theorem okR_of {f:FuncId} {dst:Option Tmp} {s:Sem Next} (hs:good P (okN K f dst) s) (w:World):okR K P f dst (s.runT P w #[]).1:=by
 have h:=hs.1.sim _ w w #[] #[] (Pz.refl w)
 cases hr:s.runT P w #[] with
 | mk r es =>
  rw[hr] at h
  cases r with
  | ok x w'=>exact hs.2 w #[] x w' es hr
  | halt x w'=>exact h
theorem seen_ok {B:Nat->Prop} {n:Nat} {fn:FuncId} {es:Array Event} (h:∀ e∈es,okEv B n e):∀ e∈seen P fn es,okEv B n e:=fun e he=>h e (Go.Conc.mem_seen he)
theorem finish_todo {ops:Array Oper} {i:Nat} {rest:List Nat} {k:List Item} (ht:fr.todo=.inRegion ops (i::rest)::k) (v:Value):(fr.finish v).todo=.inRegion ops rest::k:=by
 obtain⟨fn,tmps,todo,defers,mode,kind,round⟩:=fr
 dsimp only at ht
 subst ht
 rfl
theorem rf_finish {r:Code} {ops:Array Oper} {i:Nat} {rest:List Nat} {k:List Item} (ht:fr.todo=.inRegion ops (i::rest)::k) (v:Value):(rf r fr cs).finish v=rf r (fr.finish v) cs:=by
 cases cs with
 | cons a cs=>rfl
 | nil =>
  obtain⟨fn,tmps,todo,defers,mode,kind,round⟩:=fr
  dsimp only at ht
  subst ht
  show (ovF r _).finish v=ovF r _
  unfold ovF
  dsimp only
  rw[extL_item (by simp)]
  unfold Frame.finish
  dsimp only
  rw[extL_item (by simp)]
theorem bot_finish {ops:Array Oper} {i:Nat} {rest:List Nat} {k:List Item} (ht:fr.todo=.inRegion ops (i::rest)::k) (hm:fr.mode=.run) (h:Bot fi fr cs) (v:Value):Bot fi (fr.finish v) cs:=by
 cases cs with
 | cons a cs=>exact h
 | nil =>
  have he:Ends fi fr.todo:=h
  rw[ht] at he
  show Ends fi (fr.finish v).todo
  rw[finish_todo ht]
  exact (he.tail (he.item (by simp))).cons
theorem apply_two (G:Good K P) (hJ:JB K P fi { frame:=fr,callers:=cs,status:=.running,dying:=none }) (hm:fr.mode=.run) {ops:Array Oper} {i:Nat} {rest:List Nat} {k:List Item} (ht:fr.todo=.inRegion ops (i::rest)::k) {o:Oper} (ho:ops[i]?=some o) {s:Sem Next} (hs:good P (okN K fr.fn o.dst) s)
  (hstep:∀ (fr':Frame) (k':List Item) cs w,fr'={ fr with todo:=.inRegion ops (i::rest)::k' }->stepG P true { frame:=fr',callers:=cs,status:=.running,dying:=none } w=stepG.apply P true fr' cs none s w):Step2 K P fi { frame:=fr,callers:=cs,status:=.running,dying:=none }:=by
 have hk:fr.kind=.normal:=hJ.top.kind
 have htop:OkF K P fr:=hJ.top
 have hb:∀ c∈cs,OkF K P c∧c.mode=.run∧Waits K c:=hJ.below
 have hbot:Bot fi fr cs:=hJ.bot
 have e:∀ w,stepG P true { frame:=fr,callers:=cs,status:=.running,dying:=none } w=post P fr cs (s.runT P w #[]):=fun w=>by
  rw[hstep fr k cs w (by rw[<- ht])]
  exact apply_post G hk ht (okR_of hs w)
 have er:∀ r base w,stepG P true (over { frame:=fr,callers:=cs,status:=.running,dying:=none } r base) w=post P (rf r fr cs) (rc r base cs) (s.runT P w #[]):=fun r base w=>by
  have hrf:∃ k',rf r fr cs={ fr with todo:=.inRegion ops (i::rest)::k' }:=by
   cases cs with
   | nil=>exact⟨extL r k,by show ovF r fr=_;unfold ovF;rw[ht,extL_item (by simp)]⟩
   | cons a cs=>exact⟨k,by show fr=_;rw[<- ht]⟩
  obtain⟨k',hk'⟩:=hrf
  show stepG P true { frame:=rf r fr cs,callers:=rc r base cs,status:=.running,dying:=none } w=_
  rw[hstep (rf r fr cs) k' (rc r base cs) w hk']
  refine apply_post (K:=K) (dst:=o.dst) G (by rw[hk'];exact hk) (l:=i::rest) (k:=k') (by rw[hk']) ?_
  have:(rf r fr cs).fn=fr.fn:=by rw[hk']
  rw[this]
  exact okR_of hs w
 have hfn:∀ r,(rf r fr cs).fn=fr.fn:=fun r=>by cases cs<;>rfl
 have hfin:∀ v,(∀ d,o.dst=some d->K.fs fr.fn d=true->okS K v)->JB K P fi { frame:=fr.finish v,callers:=cs,status:=.running,dying:=none }:=fun v hv =>
  ⟨rfl,rfl,rfl,htop.finish ht (fun o' d ho' hd hf=>by rw[ho] at ho';cases ho';exact hv d hd hf),.inl ((finish_mode _ _).trans hm),hb,bot_finish ht hm hbot v⟩
 have hw:(∀ d,o.dst=some d->K.fs fr.fn d=false)->Waits K fr:=fun h=>⟨ops,i,rest,k,ht,fun o' d ho' hd=>by rw[ho] at ho';cases ho';exact h d hd⟩
 refine⟨fun w=>?_,fun w=>?_,fun r base B w v hp=>?_⟩
 ·
  rw[e]
  have hr:=okR_of hs w
  cases hx:s.runT P w #[] with
  | mk r es =>
   rw[hx] at hr
   cases r with
   | ok x w' =>
    cases x with
    | value v=>exact .inl (hfin v hr)
    | skip=>exact .inl (hfin undef (fun _ _ _=>.inl rfl))
    | enter f args =>
     have hbb:∀ c∈fr::cs,OkF K P c∧c.mode=.run∧Waits K c:=by
      intro c hc
      rcases List.mem_cons.1 hc with rfl | hc
      ·
       exact⟨htop,hm,hw hr.1⟩
      ·
       exact hb c hc
     exact .inl ⟨rfl,rfl,rfl,enter_okF G hr.2.1 hr.2.2,.inl rfl,hbb,hbot⟩
    | comm c b sh=>exact⟨⟨rfl,rfl,rfl,htop,.inl hm,hb,hbot⟩,hw hr.1,hm,hr.2⟩
    | _=>exact hr.elim
   | halt x w' =>
    cases x with
    | panic v =>
     refine .inr ⟨rfl,rfl,?_,?_,fun c hc=>⟨(hb c hc).1.defers,(hb c hc).2.1⟩⟩
     ·
      obtain⟨t,x,rfl,ht'⟩:=hr
      unfold Frame.raise;rw[hm];exact⟨t,x,ht',rfl⟩
     ·
      unfold Frame.raise;rw[hm];exact htop.defers
    | stuck y=>trivial
    | unsupported u=>cases u<;>trivial
    | _=>exact hr.elim
 ·
  obtain⟨c,h1,h2,h3⟩:=hs.1.drew w #[]
  dsimp only at h1 h2 h3
  refine⟨c,?_,?_,fun t d htt=>?_⟩
  ·
   dsimp only;rw[e,post_w];exact h1
  ·
   dsimp only;rw[e,post_w];exact h2
  ·
   dsimp only;rw[e,e,h3 t d htt,post_on]
 ·
  rw[e,er]
  have h:=hs.1.sim B w v #[] #[] hp
  cases hv:s.runT P v #[] with
  | mk q es =>
   rw[hv] at h
   cases q with
   | ok x v' =>
    obtain⟨w',u,hx,hp',hn,hu⟩:=h
    rw[hx,Array.empty_append]
    have hu':=seen_ok (P:=P) (fn:=(rf r fr cs).fn) hu
    cases x with
    | value z=>exact .inr ⟨w',_,by show GStep.go { frame:=(rf r fr cs).finish z,callers:=_,status:=_,dying:=_ } _ _=_;rw[rf_finish ht];rfl,hp',hn,hu'⟩
    | skip=>exact .inr ⟨w',_,by show GStep.go { frame:=(rf r fr cs).finish undef,callers:=_,status:=_,dying:=_ } _ _=_;rw[rf_finish ht];rfl,hp',hn,hu'⟩
    | enter f args=>exact .inr ⟨w',_,rfl,hp',hn,hu'⟩
    | comm c b sh=>exact⟨w',_,rfl,hp',hn,hu'⟩
    | _=>trivial
   | halt x v' =>
    cases x with
    | panic z =>
     have hr:okH P (.panic z):=h
     refine .inl ⟨rfl,rfl,?_,?_,fun c hc=>⟨(hb c hc).1.defers,(hb c hc).2.1⟩⟩
     ·
      obtain⟨t,x,rfl,ht'⟩:=hr
      unfold Frame.raise;rw[hm];exact⟨t,x,ht',rfl⟩
     ·
      unfold Frame.raise;rw[hm];exact htop.defers
    | unsupported u=>cases u<;>trivial
    | _=>trivial
end
end Go.Proofs.YtkeapmmochpcfaaGreat.Nf
namespace Go.Proofs.YtkeapmmochpcfaaGreat.Nf
open Go
section
variable {K : Rul} {P : Program} {fi : Bool}
theorem fine_results {fn:Func} (tmps:Array Value):fine P (results fn tmps):=by
 unfold results
 refine fine_bind (fine_mapM (fun r=>?_) _) (fun vs=>fine_pure _)
 cases r with
 | tmp t=>exact fine_pure _
 | cell a t=>exact fine_bind (fine_asAddr _) (fun x=>fine_loadVar _ _)
theorem waits_finish {c:Frame} (h:OkF K P c) (hw:Waits K c) (v:Value):OkF K P (c.finish v):=by
 obtain⟨ops,i,rest,k,ht,hd⟩:=hw
 exact h.finish ht (fun o d ho hod hf=>by rw[hd o d ho hod] at hf;cases hf)
theorem bot_todo {fr:Frame} {cs:List Frame} (h:Bot fi fr cs) {l:List Item} (hl:cs=[]->Ends fi l):Bot fi { fr with todo:=l } cs:=by
 cases cs with
 | nil=>exact hl rfl
 | cons a cs=>exact h
theorem ctl {fr:Frame} {cs:List Frame} (hJ:JB K P fi { frame:=fr,callers:=cs,status:=.running,dying:=none }) (hm:fr.mode=.run) {x:Item} {k:List Item} (ht:fr.todo=x::k) (new:List Item) (hx:cs=[]->k≠[]) (hok:∀ y∈new,okItem K P fr.fn y)
  (e:∀ (k':List Item) (cs':List Frame) w,stepG P true { frame:={ fr with todo:=x::k' },callers:=cs',status:=.running,dying:=none } w=.go { frame:={ fr with todo:=new++k' },callers:=cs',status:=.running,dying:=none } w #[]):Step2 K P fi { frame:=fr,callers:=cs,status:=.running,dying:=none }:=by
 have hf:fr={ fr with todo:=x::k }:=by rw[<- ht]
 refine step2_to (g':={ frame:={ fr with todo:=new++k },callers:=cs,status:=.running,dying:=none }) (fun w=>?_) (fun r base w=>?_) ⟨rfl,rfl,rfl,⟨hJ.top.slots,?_,hJ.top.defers,hJ.top.kind,hJ.top.round,hJ.top.init⟩,.inl hm,hJ.below,bot_todo hJ.bot (fun hc=>?_)⟩
 ·
  have:=e k cs w
  rw[<- hf] at this
  exact this
 ·
  cases cs with
  | cons a cs =>
   have:=e k (rc r base (a::cs)) w
   rw[<- hf] at this
   exact this
  | nil =>
   have:=e (extL r k) base w
   rw[<- extL_append (hx rfl),<- extL_cons (hx rfl),<- ht] at this
   exact this
 ·
  intro y hy
  rcases List.mem_append.1 hy with hy | hy
  ·
   exact hok y hy
  ·
   exact hJ.top.todo y (by show y∈fr.todo;rw[ht];exact List.mem_cons_of_mem _ hy)
 ·
  subst hc
  have he:Ends fi fr.todo:=hJ.bot
  rw[ht] at he
  exact (he.tail (hx rfl)).append new
theorem ctlR {fr:Frame} {cs:List Frame} (hJ:JB K P fi { frame:=fr,callers:=cs,status:=.running,dying:=none }) (hm:fr.mode=.run) {x:Item} {k:List Item} (ht:fr.todo=x::k) (hx:cs=[]->k≠[])
  (e:∀ (k':List Item) (cs':List Frame) w,stepG P true { frame:={ fr with todo:=x::k' },callers:=cs',status:=.running,dying:=none } w=.go { frame:={ fr with todo:=x::k',mode:=.returning },callers:=cs',status:=.running,dying:=none } w #[]):Step2 K P fi { frame:=fr,callers:=cs,status:=.running,dying:=none }:=by
 have hf:fr={ fr with todo:=x::k }:=by rw[<- ht]
 refine step2_to (g':={ frame:={ fr with mode:=.returning },callers:=cs,status:=.running,dying:=none }) (fun w=>?_) (fun r base w=>?_) ⟨rfl,rfl,rfl,⟨hJ.top.slots,hJ.top.todo,hJ.top.defers,hJ.top.kind,hJ.top.round,hJ.top.init⟩,.inr rfl,hJ.below,?_⟩
 ·
  have:=e k cs w
  rw[<- ht] at this
  exact this
 ·
  cases cs with
  | cons a cs =>
   have:=e k (rc r base (a::cs)) w
   rw[<- ht] at this
   exact this
  | nil =>
   have:=e (extL r k) base w
   rw[<- extL_cons (hx rfl),<- ht] at this
   exact this
 ·
  have hbt:=hJ.bot
  cases cs with
  | cons a cs=>exact hbt
  | nil=>exact hbt
theorem stepG_two (G:Good K P) {g:Goroutine} (hJ:JB K P fi g) (hA:¬ AtEnd g):Step2 K P fi g:=by
 obtain⟨fr,cs,st,dy,off⟩:=g
 obtain⟨h1,h2,h3,htop,hmode,hb,hbot⟩:=hJ
 dsimp only at h1 h2 h3 htop hmode hb hbot
 subst h1 h2 h3
 have hJ:JB K P fi { frame:=fr,callers:=cs,status:=.running,dying:=none }:=⟨rfl,rfl,rfl,htop,hmode,hb,hbot⟩
 rcases hmode with hm | hm
 ·
  have hro:=htop.round
  have htd:=htop.todo
  cases htodo:fr.todo with
  | nil =>
   cases hcs:cs with
   | nil =>
    subst hcs
    have he:Ends fi fr.todo:=hbot
    exact absurd htodo he.ne
   | cons a cs' =>
    subst hcs
    refine step2_to (g':={ frame:={ fr with mode:=.returning },callers:=a::cs',status:=.running,dying:=none }) (fun w=>by simp[stepG,stepG.exec,hm,htodo,hro]) (fun r base w=>?_) ⟨rfl,rfl,rfl,⟨htop.slots,htop.todo,htop.defers,htop.kind,htop.round,htop.init⟩,.inr rfl,hb,hbot⟩
    show stepG P true { frame:=fr,callers:=rc r base (a::cs'),status:=.running,dying:=none } w=.go { frame:={ fr with mode:=.returning },callers:=rc r base (a::cs'),status:=.running,dying:=none } w #[]
    simp[stepG,stepG.exec,hm,htodo,hro]
  | cons x k =>
   rw[htodo] at htd
   have hk:∀ y∈k,okItem K P fr.fn y:=fun y hy=>htd y (List.mem_cons_of_mem _ hy)
   have hx:=htd x (List.mem_cons_self ..)
   have hE:cs=[]->Ends fi (x::k):=fun hc=>by subst hc;have he:Ends fi fr.todo:=hbot;rw[htodo] at he;exact he
   have hni:(∀ c,x≠.code c)->cs=[]->k≠[]:=fun h hc=>(hE hc).item h
   have hnc:∀ c,x=.code c->spine fi c=false->cs=[]->k≠[]:=by
    rintro c rfl hs hc rfl
    have:=(hE hc).last
    rw[hs] at this
    cases this
   cases x with
   | code c =>
    cases c with
    | ret =>
     by_cases hkn:cs=[]->k≠[]
     ·
      exact ctlR hJ hm htodo hkn (fun k' cs' w=>by simp[stepG,stepG.exec,hm,hro])
     ·
      have hc:cs=[]:=Classical.byContradiction fun h=>hkn fun h'=>absurd h' h
      have hk0:k=[]:=Classical.byContradiction fun h=>hkn fun _=>h
      subst hc hk0
      refine step2_to (g':={ frame:={ fr with mode:=.returning },callers:=[],status:=.running,dying:=none }) (fun w=>by simp[stepG,stepG.exec,hm,htodo,hro]) (fun r base w=>?_) ⟨rfl,rfl,rfl,⟨htop.slots,htop.todo,htop.defers,htop.kind,htop.round,htop.init⟩,.inr rfl,hb,hbot⟩
      have e1:extL r fr.todo=[.code .ret]:=by rw[htodo];rfl
      show stepG P true { frame:=ovF r fr,callers:=base,status:=.running,dying:=none } w=.go { frame:=ovF r { fr with mode:=.returning },callers:=base,status:=.running,dying:=none } w #[]
      unfold ovF
      dsimp only
      rw[e1]
      simp[stepG,stepG.exec,hm,hro]
    | skip =>
     refine ctl hJ hm htodo [] (fun hc=>?_) (by simp) (fun k' cs' w=>by simp[stepG,stepG.exec,hm])
     rintro rfl
     exact hA ⟨hc,hm,htodo⟩
    | label l=>exact ctl hJ hm htodo [] (hnc _ rfl rfl) (by simp) (fun k' cs' w=>by simp[stepG,stepG.exec,hm])
    | seq a b =>
     have hx':codeB K P fr.fn a=true∧codeB K P fr.fn b=true:=by
      simpa only[okItem,codeB,Bool.and_eq_true] using hx
     have hok:∀ y∈([.code a,.code b]:List Item),okItem K P fr.fn y:=by
      intro y hy
      simp only[List.mem_cons,List.not_mem_nil,or_false] at hy
      rcases hy with rfl | rfl
      ·
       exact hx'.1
      ·
       exact hx'.2
     by_cases hkn:cs=[]->k≠[]
     ·
      exact ctl hJ hm htodo [.code a,.code b] hkn hok (fun k' cs' w=>by simp[stepG,stepG.exec,hm])
     ·
      have hc:cs=[]:=Classical.byContradiction fun h=>hkn fun h'=>absurd h' h
      have hk0:k=[]:=Classical.byContradiction fun h=>hkn fun _=>h
      subst hc hk0
      have hsp:spine fi b=true:=(hE rfl).last
      refine step2_to (g':={ frame:={ fr with todo:=[.code a,.code b] },callers:=[],status:=.running,dying:=none }) (fun w=>by simp[stepG,stepG.exec,hm,htodo]) (fun r base w=>?_) ⟨rfl,rfl,rfl,⟨htop.slots,hok,htop.defers,htop.kind,htop.round,htop.init⟩,.inl hm,hb,⟨[.code a],b,rfl,hsp⟩⟩
      have e1:(ovF r fr).todo=[.code (.seq a (ext r b))]:=by show extL r fr.todo=_;rw[htodo];rfl
      show stepG P true { frame:=ovF r fr,callers:=base,status:=.running,dying:=none } w=_
      have e2:ovF r fr={ fr with todo:=[.code (.seq a (ext r b))] }:=by unfold ovF at e1 ⊢;dsimp only at e1;rw[e1]
      rw[e2]
      simp[stepG,stepG.exec,hm,over,rf,rc,ovF,extL]
    | cond c a b =>
     have hx':codeB K P fr.fn a=true∧codeB K P fr.fn b=true:=by
      simpa only[okItem,codeB,Bool.and_eq_true] using hx
     cases hc:fr.eval c with
     | bool z =>
      have hev:∀ td md rd,({ fn:=fr.fn,tmps:=fr.tmps,todo:=td,defers:=fr.defers,mode:=md,kind:=fr.kind,roundOf:=rd }:Frame).eval c=.bool z:=fun _ _ _=>by rw[<- hc];cases c<;>rfl
      refine ctl hJ hm htodo [.code (if z then a else b)] (hnc _ rfl rfl) ?_ (fun k' cs' w=>by simp[stepG,stepG.exec,hm,hev])
      intro y hy
      simp only[List.mem_cons,List.not_mem_nil,or_false] at hy
      subst hy
      cases z
      ·
       exact hx'.2
      ·
       exact hx'.1
     | _=>exact step2_end (fun w=>by simp[stepG,stepG.exec,hm,htodo,hc];rfl)
    | block id b =>
     refine ctl hJ hm htodo [.code b,.inBlock id] (hnc _ rfl rfl) ?_ (fun k' cs' w=>by simp[stepG,stepG.exec,hm])
     intro y hy
     simp only[List.mem_cons,List.not_mem_nil,or_false] at hy
     rcases hy with rfl | rfl
     ·
      exact hx
     ·
      trivial
    | loop b =>
     refine ctl hJ hm htodo [.code b,.inLoop b] (hnc _ rfl rfl) ?_ (fun k' cs' w=>by simp[stepG,stepG.exec,hm])
     intro y hy
     simp only[List.mem_cons,List.not_mem_nil,or_false] at hy
     rcases hy with rfl | rfl
     ·
      exact hx
     ·
      exact hx
    | scope b =>
     refine ctl hJ hm htodo [.code b,.inScope b] (hnc _ rfl rfl) ?_ (fun k' cs' w=>by simp[stepG,stepG.exec,hm])
     intro y hy
     simp only[List.mem_cons,List.not_mem_nil,or_false] at hy
     rcases hy with rfl | rfl
     ·
      exact hx
     ·
      exact hx
    | exit id =>
     cases he:exitTo id k with
     | some k' =>
      refine step2_to (g':={ frame:={ fr with todo:=k' },callers:=cs,status:=.running,dying:=none }) (fun w=>by simp[stepG,stepG.exec,hm,htodo,he]) (fun r base w=>?_) ⟨rfl,rfl,rfl,⟨htop.slots,exitTo_ok hk he,htop.defers,htop.kind,htop.round,htop.init⟩,.inl hm,hb,bot_todo hbot (fun hc=>(exitTo_ext (r:=.skip) ((hE hc).tail (hnc _ rfl rfl hc))).2 k' he)⟩
      cases cs with
      | cons a cs=>show stepG P true { frame:=fr,callers:=rc r base (a::cs),status:=.running,dying:=none } w=.go { frame:={ fr with todo:=k' },callers:=rc r base (a::cs),status:=.running,dying:=none } w #[];simp[stepG,stepG.exec,hm,htodo,he]
      | nil =>
       have hkn:=hnc _ rfl rfl rfl
       have e1:ovF r fr={ fr with todo:=.code (.exit id)::extL r k }:=by unfold ovF;rw[htodo,extL_cons hkn]
       have e2:=(exitTo_ext (r:=r) (id:=id) ((hE rfl).tail hkn)).1
       rw[he] at e2
       show stepG P true { frame:=ovF r fr,callers:=base,status:=.running,dying:=none } w=.go { frame:=ovF r { fr with todo:=k' },callers:=base,status:=.running,dying:=none } w #[]
       rw[e1]
       simp only[Option.map_some] at e2
       simp[stepG,stepG.exec,hm,e2,ovF]
     | none=>exact step2_end (fun w=>by simp[stepG,stepG.exec,hm,htodo,he,hro];rfl)
    | goto l =>
     cases he:gotoIn l k with
     | some k' =>
      refine step2_to (g':={ frame:={ fr with todo:=k' },callers:=cs,status:=.running,dying:=none }) (fun w=>by simp[stepG,stepG.exec,hm,htodo,he]) (fun r base w=>?_) ⟨rfl,rfl,rfl,⟨htop.slots,gotoIn_ok hk he,htop.defers,htop.kind,htop.round,htop.init⟩,.inl hm,hb,bot_todo hbot (fun hc=>(gotoIn_ext (r:=.skip) ((hE hc).tail (hnc _ rfl rfl hc))).2 k' he)⟩
      cases cs with
      | cons a cs=>show stepG P true { frame:=fr,callers:=rc r base (a::cs),status:=.running,dying:=none } w=.go { frame:={ fr with todo:=k' },callers:=rc r base (a::cs),status:=.running,dying:=none } w #[];simp[stepG,stepG.exec,hm,htodo,he]
      | nil =>
       have hkn:=hnc _ rfl rfl rfl
       have e1:ovF r fr={ fr with todo:=.code (.goto l)::extL r k }:=by unfold ovF;rw[htodo,extL_cons hkn]
       have e2:=(gotoIn_ext (r:=r) (l:=l) ((hE rfl).tail hkn)).1
       rw[he] at e2
       show stepG P true { frame:=ovF r fr,callers:=base,status:=.running,dying:=none } w=.go { frame:=ovF r { fr with todo:=k' },callers:=base,status:=.running,dying:=none } w #[]
       rw[e1]
       simp only[Option.map_some] at e2
       simp[stepG,stepG.exec,hm,e2,ovF]
     | none=>exact step2_end (fun w=>by simp[stepG,stepG.exec,hm,htodo,he,hro];rfl)
    | rangeFunc a b c d=>cases hx
    | refuse r=>exact step2_end (fun w=>by simp[stepG,stepG.exec,hm,htodo];rfl)
    | region id ops draw =>
     have hx:ops.all (opB K P fr.fn)=true:=hx
     rw[Array.all_eq_true_iff_forall_mem] at hx
     have hin:∀ l,∀ y∈([.inRegion ops l]:List Item),okItem K P fr.fn y:=by
      intro l y hy
      simp only[List.mem_cons,List.not_mem_nil,or_false] at hy
      subst hy
      exact fun i _ o ho=>hx o (Array.mem_of_getElem? ho)
     have hkn:=hnc _ rfl rfl
     cases draw with
     | false=>exact ctl hJ hm htodo [.inRegion ops (List.range ops.size)] hkn (hin _) (fun k' cs' w=>by simp[stepG,stepG.exec,hm])
     | true =>
      have key':∀ (k':List Item) (cs:List Frame) (w:World),stepG P true { frame:={ fr with todo:=.code (.region id ops true)::k' },callers:=cs,status:=.running,dying:=none } w=.go { frame:={ fr with todo:=.inRegion ops (Region.schedule (P.follows .mixedOrders) ops (w.tape w.drawn (.order fr.fn id)))::k' },callers:=cs,status:=.running,dying:=none } { w with drawn:=w.drawn+1 } #[]:=by
       intro k' cs w
       simp[stepG,stepG.exec,hm,choose,Sem.run,Question.forced,Question.cut]
      have key:∀ w,stepG P true { frame:=fr,callers:=cs,status:=.running,dying:=none } w=.go { frame:={ fr with todo:=.inRegion ops (Region.schedule (P.follows .mixedOrders) ops (w.tape w.drawn (.order fr.fn id)))::k },callers:=cs,status:=.running,dying:=none } { w with drawn:=w.drawn+1 } #[]:=by
       intro w
       have:=key' k cs w
       rw[<- htodo] at this
       exact this
      refine⟨fun w=>?_,fun w=>⟨1,?_,?_,?_⟩,fun r base B w v hp=>?_⟩
      ·
       rw[key]
       refine .inl ⟨rfl,rfl,rfl,⟨htop.slots,?_,htop.defers,htop.kind,htop.round,htop.init⟩,.inl hm,hb,bot_todo hbot (fun hc=>((hE hc).tail (hkn hc)).cons)⟩
       intro y hy
       rcases List.mem_cons.1 hy with rfl | hy
       ·
        exact hin _ _ (List.mem_cons_self ..)
       ·
        exact hk y hy
      ·
       dsimp only;rw[key];rfl
      ·
       dsimp only;rw[key];rfl
      ·
       intro t d ht
       dsimp only
       rw[key,key]
       have h0:=ht 0 (by omega)
       show _=GStep.go _ _ _
       have e:(on w t d).tape (on w t d).drawn=w.tape w.drawn:=h0
       rw[e]
       rfl
      ·
       rw[key,hp.tape,hp.drawn]
       refine .inr ⟨{ w with drawn:=w.drawn+1 },#[],?_,⟨hp.heap,hp.bad,hp.size,rfl,rfl,hp.sys⟩,Nat.le_refl _,by simp⟩
       cases cs with
       | cons a cs =>
        have:=key' k (rc r base (a::cs)) w
        rw[<- htodo] at this
        exact this
       | nil =>
        have:=key' (extL r k) base w
        rw[<- extL_cons (hkn rfl),<- htodo] at this
        show stepG P true { frame:=ovF r fr,callers:=base,status:=.running,dying:=none } w=GStep.go { frame:=ovF r { fr with todo:=_::k },callers:=base,status:=.running,dying:=none } _ _
        unfold ovF
        dsimp only
        rw[extL_cons (hkn rfl)]
        exact this
   | inBlock id=>exact ctl hJ hm htodo [] (hni (by simp)) (by simp) (fun k' cs' w=>by simp[stepG,stepG.exec,hm])
   | inScope b=>exact ctl hJ hm htodo [] (hni (by simp)) (by simp) (fun k' cs' w=>by simp[stepG,stepG.exec,hm])
   | inLoop b =>
    refine ctl hJ hm htodo [.code b,.inLoop b] (hni (by simp)) ?_ (fun k' cs' w=>by simp[stepG,stepG.exec,hm])
    intro y hy
    simp only[List.mem_cons,List.not_mem_nil,or_false] at hy
    rcases hy with rfl | rfl
    ·
     exact hx
    ·
     exact hx
   | inRegion ops l =>
    cases l with
    | nil=>exact ctl hJ hm htodo [] (hni (by simp)) (by simp) (fun k' cs' w=>by simp[stepG,stepG.exec,hm])
    | cons i rest =>
     cases hwn:((ops[i]?).map (Region.wanted · (yielded ops fr.tmps))).getD false with
     | false =>
      refine step2_to (g':={ frame:=fr.finish undef,callers:=cs,status:=.running,dying:=none }) (fun w=>by simp[stepG,stepG.exec,hm,htodo,hwn]) (fun r base w=>?_) ⟨rfl,rfl,rfl,htop.finish htodo (fun _ _ _ _ _=>.inl rfl),.inl ((finish_mode _ _).trans hm),hb,bot_finish htodo hm hbot undef⟩
      show stepG P true { frame:=rf r fr cs,callers:=rc r base cs,status:=.running,dying:=none } w=.go { frame:=rf r (fr.finish undef) cs,callers:=rc r base cs,status:=.running,dying:=none } w #[]
      rw[<- rf_finish htodo]
      cases cs with
      | cons a cs=>simp[stepG,stepG.exec,rf,hm,htodo,hwn]
      | nil =>
       have e1:ovF r fr={ fr with todo:=.inRegion ops (i::rest)::extL r k }:=by unfold ovF;rw[htodo,extL_item (by simp)]
       simp only[rf,e1]
       simp[stepG,stepG.exec,hm,hwn]
     | true =>
      cases ho:ops[i]? with
      | none=>rw[ho] at hwn;cases hwn
      | some o =>
       have hok:opB K P fr.fn o=true:=hx i (List.mem_cons_self ..) o ho
       have hop:=good_execOp G.fn (f:=fr.fn) (ρ:=fr.eval) (eval_slot htop) (fun g=>rfl) hok
       refine apply_two G hJ hm htodo ho hop (fun fr' k' cs w e=>?_)
       subst e
       rw[ho] at hwn
       have hwn':Region.wanted o (yielded ops fr.tmps)=true:=hwn
       have hev:∀ td md rd,({ fn:=fr.fn,tmps:=fr.tmps,todo:=td,defers:=fr.defers,mode:=md,kind:=fr.kind,roundOf:=rd }:Frame).eval=fr.eval:=fun _ _ _=>funext fun z=>by cases z<;>rfl
       simp[stepG,stepG.exec,stepG.oper,Frame.oper?,hm,ho,hwn',hro,hev]
   | _=>exact hx.elim
 ·
  have hd:=htop.defers
  have hkd:=htop.kind
  have hin:=htop.init
  -- what it comes to,by what the results came to
  let ret:List Item->List Frame->Result Value × Array Event->GStep:=fun l cs r=>match r with
   | (.ok v w,es)=>match cs with
    | []=>.ended (.done v) w (seen P fr.fn es)
    | a::rest=>.go { frame:=a.finish v,callers:=rest,status:=.running,dying:=none } w (seen P fr.fn es)
   | (.halt (.stuck y) w,es)=>.ended (.stuck y (Frame.pos P { fr with todo:=l })) w (seen P fr.fn es)
   | (.halt _ w, es) => .ended (.stuck "return: the result variables cannot be read" (Frame.pos P { fr with todo := l })) w (seen P fr.fn es)
  have main:∀ (s:Sem Value),fine P s->(∀ (l:List Item) cs w,stepG P true { frame:={ fr with todo:=l },callers:=cs,status:=.running,dying:=none } w=ret l cs (s.runT P w #[]))->Step2 K P fi { frame:=fr,callers:=cs,status:=.running,dying:=none }:=by
   intro s hs e'
   have e:∀ w,stepG P true { frame:=fr,callers:=cs,status:=.running,dying:=none } w=ret fr.todo cs (s.runT P w #[]):=fun w=>e' fr.todo cs w
   have er:∀ r base w,stepG P true { frame:=rf r fr cs,callers:=rc r base cs,status:=.running,dying:=none } w=ret (rf r fr cs).todo (rc r base cs) (s.runT P w #[]):=by
    intro r base w
    cases cs with
    | nil=>exact e' (extL r fr.todo) base w
    | cons a cs=>exact e' fr.todo _ w
   have hon:∀ t d (r:Result Value × Array Event),ret fr.todo cs (rOn t d r.1,r.2)=gOn t d (ret fr.todo cs r):=by
    rintro t d ⟨r,es⟩
    cases r with
    | ok v w=>cases cs<;>rfl
    | halt x w=>cases x<;>rfl
   have hgw:∀ r:Result Value × Array Event,gW (ret fr.todo cs r)=rW r.1:=by
    rintro⟨r,es⟩
    cases r with
    | ok v w=>cases cs<;>rfl
    | halt x w=>cases x<;>rfl
   refine⟨fun w=>?_,fun w=>?_,fun r base B w v hp=>?_⟩
   ·
    rw[e]
    cases hr:s.runT P w #[] with
    | mk r es =>
     cases r with
     | ok v w' =>
      cases cs with
      | nil=>trivial
      | cons a rest =>
       obtain⟨ha1,ha2,ha3⟩:=hb a (List.mem_cons_self ..)
       refine .inl ⟨rfl,rfl,rfl,waits_finish ha1 ha3 v,.inl ((finish_mode _ _).trans ha2),fun x hx=>hb x (List.mem_cons_of_mem _ hx),?_⟩
       obtain⟨ops,i,rs,k,hta,_⟩:=ha3
       exact bot_finish hta ha2 hbot v
     | halt x w'=>cases x<;>trivial
   ·
    obtain⟨c,h1,h2,h3⟩:=hs.drew w #[]
    dsimp only at h1 h2 h3
    refine⟨c,?_,?_,fun t d htt=>?_⟩
    ·
     dsimp only;rw[e,hgw];exact h1
    ·
     dsimp only;rw[e,hgw];exact h2
    ·
     dsimp only;rw[e,e,h3 t d htt,hon]
   ·
    rw[e,show stepG P true (over { frame:=fr,callers:=cs,status:=.running,dying:=none } r base) w=_ from er r base w]
    have h:=hs.sim B w v #[] #[] hp
    cases hv:s.runT P v #[] with
    | mk r es =>
     rw[hv] at h
     cases r with
     | ok x v' =>
      obtain⟨w',u,hx,hp',hn,hu⟩:=h
      rw[hx,Array.empty_append]
      have hu':=seen_ok (P:=P) (fn:=fr.fn) hu
      cases cs with
      | nil=>trivial
      | cons a rest =>
       obtain⟨_,ha2,ha3⟩:=hb a (List.mem_cons_self ..)
       obtain⟨ops,i,rs,k,hta,_⟩:=ha3
       refine .inr ⟨w',_,?_,hp',hn,hu'⟩
       show GStep.go { frame:=(rf r a rest).finish x,callers:=rc r base rest,status:=.running,dying:=none } w' _=_
       rw[rf_finish hta]
       rfl
     | halt x v'=>cases x<;>trivial
  cases hf:P.funcs[fr.fn]? with
  | none =>
   refine main (pure (fr.tmps.getD 0 undef)) (fine_pure _) (fun l cs w=>?_)
   have e:stepG P true { frame:={ fr with todo:=l },callers:=cs,status:=.running,dying:=none } w=GStep.after #[] (doReturn P true { fr with todo:=l } cs none (fr.tmps.getD 0 undef) w):=by
    have ea:∀ s:GStep,GStep.after #[] s=s:=by intro s;cases s<;>simp[GStep.after]
    rw[ea]
    simp[stepG,unwind,hm,hd,hf]
   rw[e]
   have es0:seen P fr.fn #[]=#[]:=by simp[seen]
   cases cs with
   | nil=>simp[doReturn,hkd,hin,GStep.after,ret,pure,es0]
   | cons a rest=>simp[doReturn,hkd,GStep.after,ret,pure,es0]
  | some fn =>
   refine main (results fn fr.tmps) (fine_results _) (fun l cs w=>?_)
   cases hr:(results fn fr.tmps).runT P w #[] with
   | mk r es =>
    cases r with
    | ok v w' =>
     have key:stepG P true { frame:={ fr with todo:=l },callers:=cs,status:=.running,dying:=none } w=GStep.after (seen P fr.fn es) (doReturn P true { fr with todo:=l } cs none v w'):=by
      unfold stepG unwind
      simp only[hm,hd,hf,hr]
     rw[key]
     cases cs with
     | nil=>simp[doReturn,hkd,hin,GStep.after,ret]
     | cons a rest=>simp[doReturn,hkd,GStep.after,ret]
    | halt x w' =>
     unfold stepG unwind
     cases x<;>simp only[hm,hd,hf,hr,GStep.after,Array.append_empty,ret]
end
end Go.Proofs.YtkeapmmochpcfaaGreat.Nf
