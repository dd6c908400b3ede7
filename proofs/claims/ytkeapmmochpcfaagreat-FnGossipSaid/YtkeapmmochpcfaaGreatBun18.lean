/- What a region's slots hold once they have come up: values known ahead; steps of one operation, in company. -/
import Derived.Test.YtkeapmmochpcfaaGreatBun17
import Derived.Test.YtkeapmmochpcfaaGreatBun13
import Derived.DyingErrors
import Derived.KernelRfl
import Derived.Test.YtkeapmmochpcfaaGreatChecked
set_option maxRecDepth 100000
set_option maxHeartbeats 32000000
set_option linter.unusedVariables false
namespace Go.Proofs.YtkeapmmochpcfaaGreat.Nf
open Go Go.Conc
open Rg (upd depB)
structure Kn (n N:Nat) (D:Nat->Nat) (V:Nat->Option Value) (Bk:List (Nat × Value)) (L:Nat->Bool) (a:Act):Prop where
 df:a.defers=[]
 sz:a.tmps.size=N
 kn:∀ i x,i<n->L i=true->V i=some x->a.tmps[D i]?=some x
 bs:∀ p∈Bk,a.tmps[p.1]?=some p.2
theorem put_tmps {a:Act} {d:Nat} {x:Value}:(a.put (some d) x).tmps=a.tmps.setIfInBounds d x:=rfl
theorem put_same {a:Act} {d:Nat} {x:Value} (h:d<a.tmps.size):(a.put (some d) x).tmps[d]?=some x:=by
 rw[put_tmps,Array.getElem?_setIfInBounds]
 simp[h]
theorem put_ne {a:Act} {d t:Nat} {x:Value} (h:t≠d):(a.put (some d) x).tmps[t]?=a.tmps[t]?:=by
 rw[put_tmps,Array.getElem?_setIfInBounds]
 rw[if_neg (fun e:d=t=>h e.symm)]
theorem upd_ne {L:Nat->Bool} {i j:Nat} (h:j≠i):upd L i j=L j:=by unfold upd;rw[if_neg h]
theorem upd_at (L:Nat->Bool) (i:Nat):upd L i i=true:=by unfold upd;rw[if_pos rfl]
theorem Kn.put {n N:Nat} {D:Nat->Nat} {V:Nat->Option Value} {Bk:List (Nat × Value)} {L:Nat->Bool} {a:Act} (h:Kn n N D V Bk L a) {i:Nat} {val:Value} (hN:D i<N) (inj:∀ j,j<n->D j=D i->j=i) (hb:(Bk.all fun p=>p.1 != D i)=true) (hv:∀ x,V i=some x->val=x):Kn n N D V Bk (upd L i) (a.put (some (D i)) val):=by
 refine⟨h.df,by rw[put_tmps,Array.size_setIfInBounds];exact h.sz,fun j x hj hL hx=>?_,fun p hp=>?_⟩
 ·
  by_cases e:j=i
  ·
   subst e
   rw[put_same (by rw[h.sz];exact hN),hv x hx]
  ·
   rw[put_ne (fun q=>e (inj j hj q))]
   exact h.kn j x hj (by rw[upd_ne e] at hL;exact hL) hx
 ·
  have q:=List.all_eq_true.1 hb p hp
  rw[put_ne (fun e=>by simp[e] at q)]
  exact h.bs p hp
theorem Kn.init {n N : Nat} {D : Nat → Nat} {V : Nat → Option Value} {Bk : List (Nat × Value)} {a : Act} (hd : a.defers = []) (hs : a.tmps.size = N) (hb : ∀ p ∈ Bk, a.tmps[p.1]? = some p.2) : Kn n N D V Bk (fun i => decide (n ≤ i)) a :=
  ⟨hd, hs, fun i x hi hL _ => by have : n ≤ i := by simpa using hL
                                 omega, hb⟩
theorem dep_at {ops:Array Oper} {i j:Nat} {L:Nat->Bool} (hD:∀ o,ops[i]?=some o->∀ e∈o.after,Region.binds .any e=true->L e.on=true) (h:((ops[i]?).map fun o=>o.after.any fun e=>e.on==j&&Region.binds .any e).getD false=true):L j=true:=by
 cases ho:ops[i]? with
 | none=>rw[ho] at h;simp at h
 | some o =>
  rw[ho] at h
  simp only[Option.map_some,Option.getD_some] at h
  rw[Array.any_eq_true'] at h
  obtain⟨e,he,h2⟩:=h
  rw[Bool.and_eq_true] at h2
  have e1:e.on=j:=by simpa using h2.1
  rw[<- e1]
  exact hD o ho e he h2.2
theorem wanted_none {o:Oper} {ys:Nat->Option Bool} (h:o.guard=none):Region.wanted o ys=true:=by simp[Region.wanted,h]
theorem wanted_of {ops:Array Oper} {o og:Oper} {T:Array Value} {j d:Nat} {b:Bool} (hg:o.guard=some (j,b)) (ho:ops[j]?=some og) (hd:og.dst=some d) (hT:T[d]?=some (.bool b)):Region.wanted o (yielded ops T)=true:=by
 simp[Region.wanted,hg,yielded,ho,hd,hT]
theorem eval_tmp {a:Act} {t:Nat} {x:Value} (h:a.tmps[t]?=some x):a.eval (.tmp t)=x:=by
 simp[Act.eval,Array.getD_eq_getD_getElem?,h]
section
variable {K : Rul} {P : Program} {m0 : Machine} {B : Nat → Prop} {v : World} {b : Frame} {a : Act} {k : List Item} {cs : List Frame} {ops : Array Oper}
theorem stand_inorder {id:Nat} (hd:depB ops=true) {I:(Nat->Bool)->Act->World->(Nat->Prop)->Prop} (hs:∀ i,i<ops.size->Hands P m0 b k cs ops I i) (h0:I (fun i=>decide (ops.size<=i)) a v B)
  (h:Stand P m0 B (G (b.at a (.code (.region id ops false)::k)) cs) v):∃ a' v' B' L',Stand P m0 B' (G (b.at a' k) cs) v'∧I L' a' v' B'∧∀ i,L' i=true:=by
 have h:=stand_region h
 have key:∀ (m j:Nat) (L:Nat->Bool) (a:Act) (v:World) (B:Nat->Prop),j+m=ops.size->(∀ i,L i=true↔i<j∨ops.size<=i)->I L a v B->Stand P m0 B (G (b.at a (.inRegion ops (List.range' j m)::k)) cs) v->∃ a' v' B' L',Stand P m0 B' (G (b.at a' (.inRegion ops []::k)) cs) v'∧I L' a' v' B'∧∀ i,L' i=true:=by
  intro m
  induction m with
  | zero =>
   intro j L a v B hj hL hI h
   exact⟨a,v,B,L,h,hI,fun i=>(hL i).2 (by omega)⟩
  | succ m ih =>
   intro j L a v B hj hL hI h
   rw[List.range'_succ] at h
   obtain⟨a',v',B',h',hI'⟩:=hs j (by omega) L a v B _ hI (by
    cases e:L j with
    | false=>rfl
    | true=>have:=(hL j).1 e;omega) (fun o ho e he hb=>(hL _).2 (.inl (Go.Proofs.YtkeapmmochpcfaaGreat.Rg.dep_of hd ho he hb))) h
   refine ih (j+1) (upd L j) a' v' B' (by omega) (fun i=>?_) hI' h'
   unfold upd
   by_cases q:i=j
   ·
    subst q
    rw[if_pos rfl]
    exact⟨fun _=>.inl (by omega),fun _=>rfl⟩
   ·
    rw[if_neg q,hL i]
    omega
 obtain⟨a',v',B',L',h',hI,hL⟩:=key ops.size 0 _ a v B (by omega) (fun i=>by simp) h0 (by rw[<- List.range_eq_range'];exact h)
 exact⟨a',v',B',L',stand_region_end h',hI,hL⟩
end
section
variable {Z : Type} {K : Rul} {P : Program} {m0 : Machine} {b : Frame} {k : List Item} {cs : List Frame} {ops : Array Oper} {n N : Nat} {D : Nat → Nat} {V : Z → Nat → Option Value} {Bk : List (Nat × Value)} {X : Z → (Nat → Bool) → World → (Nat → Prop) → Prop}
def Deps (ops:Array Oper) (i:Nat) (L:Nat->Bool):Prop:=∀ o,ops[i]?=some o->∀ e∈o.after,Region.binds .any e=true->L e.on=true
def Ki (n N:Nat) (D:Nat->Nat) (V:Z->Nat->Option Value) (Bk:List (Nat × Value)) (X:Z->(Nat->Bool)->World->(Nat->Prop)->Prop) (L:Nat->Bool) (a:Act) (v:World) (B:Nat->Prop):Prop:=∃ z,Kn n N D (V z) Bk L a∧X z L v B
theorem hands_pure (H:Good K P) (hs:∀ i,K.fs b.fn i=false) {i:Nat} {o:Oper} (ho:ops[i]?=some o) (hd:o.dst=some (D i)) (hN:D i<N) (inj:∀ j,j<n->D j=D i->j=i) (hb:(Bk.all fun p=>p.1 != D i)=true) {x:Z->Value} (hV:∀ z,V z i=some (x z)) (hk:b.kind≠.early) (hop:opB K P b.fn o=true)
  (hX:∀ z L v B,X z L v B->Deps ops i L->X z (upd L i) v B)
  (hw:∀ z L a,Kn n N D (V z) Bk L a->Deps ops i L->Region.wanted o (yielded ops a.tmps)=true)
  (hr:∀ z L a v B,Kn n N D (V z) Bk L a->X z L v B->Deps ops i L->∀ t d,(execOp a.eval o).run P (on v t d)=.ok (.value (x z)) (on v t d)):Hands P m0 b k cs ops (Ki n N D V Bk X) i:=by
 rintro L a v B rest ⟨z,hI,hx⟩ hL hD h
 refine⟨_,v,B,stand_oper H hs ho (hw z L a hI hD) hk hop (.inl rfl) (hr z L a v B hI hx hD) h,z,?_,hX z L v B hx hD⟩
 rw[hd]
 exact hI.put hN inj hb (fun y hy=>by rw[hV z] at hy;exact Option.some.inj hy)
theorem hands_call (H:Good K P) (q0:Quiets P) {i:Nat} {o:Oper} (ho:ops[i]?=some o) (hd:o.dst=some (D i)) (hN:D i<N) (inj:∀ j,j<n->D j=D i->j=i) (hb:(Bk.all fun p=>p.1 != D i)=true) (hk:b.kind≠.early) {f:FuncId} {fn:Func} {body:Code} {args:Array Operand} {ats:Array TypeId}
  (hop : o.op = .call { callee := .value (.func f), args, argTypes := ats }) (hf : P.funcs[f]? = some fn) (hname : (fn.name == "runtime.NumGoroutine") = false) (hbd : fn.body = some body) (hsp : spine true body = true) (hkf : K.fn f = true) (ha : ∀ i, K.fs f i = false)
  {R:Z->World->Value->World->Prop} (hR:∀ z v x w t d,R z v x w->R z v x (on w t d))
  (hz:∀ z L v B x v',X z L v B->Deps ops i L->L i=false->R z v x v'->∃ z',V z' i=some x∧(∀ j y,L j=true->V z' j=some y->V z j=some y)∧X z' (upd L i) v' B)
  (hw:∀ z L a,Kn n N D (V z) Bk L a->Deps ops i L->Region.wanted o (yielded ops a.tmps)=true)
  (hC:∀ z L a v B,Kn n N D (V z) Bk L a->X z L v B->Deps ops i L->∀ t d,Calls P f (args.map a.eval) (on v t d) fun e w'=>∃ x,e=.returned x∧R z v x w'):Hands P m0 b k cs ops (Ki n N D V Bk X) i:=by
 rintro L a v B rest ⟨z,hI,hx⟩ hL hD h
 obtain⟨x,v',h2,hr⟩:=stand_call H q0 (R:=R z v) (fun x w t d=>hR z v x w t d) hf hbd hsp hkf ha (stand_enter ho (hw z L a hI hD) hk hop hf hname hbd h) (hC z L a v B hI hx hD)
 rw[finish_mid ho,hd] at h2
 obtain⟨z',h3,h4,h5⟩:=hz z L v B x v' hx hD hL hr
 refine⟨_,v',B,h2,z',?_,h5⟩
 have hI':Kn n N D (V z') Bk L a:=⟨hI.df,hI.sz,fun j y hj hL hy=>hI.kn j y hj hL (h4 j y hL hy),hI.bs⟩
 exact hI'.put hN inj hb (fun y hy=>by rw[h3] at hy;exact Option.some.inj hy)
end
def Xc {Z:Type} (v0:World) (B0:Nat->Prop) (U:Z->(Nat->Bool)->World->Prop):Z->(Nat->Bool)->World->(Nat->Prop)->Prop:=fun z L v B=>Bel v0.heap.size v0 v∧(∀ b,B b->B0 b∨v0.heap.size<=b)∧U z L v
section
variable {Z : Type} {K : Rul} {P : Program} {m0 : Machine} {b : Frame} {k : List Item} {cs : List Frame} {ops : Array Oper} {n N : Nat} {D : Nat → Nat} {V : Z → Nat → Option Value} {Bk : List (Nat × Value)} {v0 : World} {B0 : Nat → Prop} {U : Z → (Nat → Bool) → World → Prop}
theorem from_below {v w':World} {t:Tp} {d:Nat} (h:RowKit.Below (on v t d).heap.size (on v t d) w'):Bel v.heap.size v w':=⟨h.os,h.output,h.size,h.block⟩
theorem hands_plain (H:Good K P) (q0:Quiets P) {i:Nat} {o:Oper} (ho:ops[i]?=some o) (hd:o.dst=some (D i)) (hN:D i<N) (inj:∀ j,j<n->D j=D i->j=i) (hb:(Bk.all fun p=>p.1 != D i)=true) (hk:b.kind≠.early) {f:FuncId} {fn:Func} {body:Code} {args:Array Operand} {ats:Array TypeId}
  (hop : o.op = .call { callee := .value (.func f), args, argTypes := ats }) (hf : P.funcs[f]? = some fn) (hname : (fn.name == "runtime.NumGoroutine") = false) (hbd : fn.body = some body) (hsp : spine true body = true) (hkf : K.fn f = true) (ha : ∀ i, K.fs f i = false)
  {x:Z->Value} (hV:∀ z,V z i=some (x z)) (hU:∀ z L v v',U z L v->Bel v.heap.size v v'->U z (upd L i) v')
  (hw:∀ z L a,Kn n N D (V z) Bk L a->Deps ops i L->Region.wanted o (yielded ops a.tmps)=true)
  (hC:∀ z L a v,Kn n N D (V z) Bk L a->Bel v0.heap.size v0 v->U z L v->Deps ops i L->∀ t d,Calls P f (args.map a.eval) (on v t d) fun e w'=>e=.returned (x z)∧RowKit.Below (on v t d).heap.size (on v t d) w'):Hands P m0 b k cs ops (Ki n N D V Bk (Xc v0 B0 U)) i :=
 hands_call H q0 ho hd hN inj hb hk hop hf hname hbd hsp hkf ha (R:=fun z v y w=>y=x z∧Bel v.heap.size v w) (fun z v y w t d h=>⟨h.1,h.2.on v.tape t v.drawn d⟩)
  (fun z L v B y v' hx hD hL hr=>⟨z,by rw[hV z,hr.1],fun j y _ h=>h,hx.1.trans (hr.2.mono hx.1.size),hx.2.1,hU z L v v' hx.2.2 hr.2⟩) hw
  (fun z L a v B hk hx hD t d=>(hC z L a v hk hx.1 hx.2.2 hD t d).mono (fun e w' h=>⟨_,h.1,rfl,from_below h.2⟩))
theorem hands_op (H:Good K P) (hs:∀ i,K.fs b.fn i=false) {i:Nat} {o:Oper} (ho:ops[i]?=some o) (hd:o.dst=some (D i)) (hN:D i<N) (inj:∀ j,j<n->D j=D i->j=i) (hb:(Bk.all fun p=>p.1 != D i)=true) {x:Z->Value} (hV:∀ z,V z i=some (x z)) (hk:b.kind≠.early) (hop:opB K P b.fn o=true)
  (hU:∀ z L v,U z L v->Deps ops i L->U z (upd L i) v)
  (hw:∀ z L a,Kn n N D (V z) Bk L a->Deps ops i L->Region.wanted o (yielded ops a.tmps)=true)
  (hr:∀ z L a v,Kn n N D (V z) Bk L a->Bel v0.heap.size v0 v->U z L v->Deps ops i L->∀ t d,(execOp a.eval o).run P (on v t d)=.ok (.value (x z)) (on v t d)):Hands P m0 b k cs ops (Ki n N D V Bk (Xc v0 B0 U)) i :=
 hands_pure H hs ho hd hN inj hb hV hk hop (fun z L v B hx hD=>⟨hx.1,hx.2.1,hU z L v hx.2.2 hD⟩) hw (fun z L a v B hk hx hD t d=>hr z L a v hk hx.1 hx.2.2 hD t d)
end
def Uc {Z:Type} (c:Nat) (dl:List Nat) (Q:Z->World->Prop) (z:Z) (L:Nat->Bool) (v:World):Prop:=(L c=true->Q z v)∧∀ j∈dl,L j=true->L c=true
theorem Uc.put {Z:Type} {c i:Nat} {dl:List Nat} {Q:Z->World->Prop} {z:Z} {L:Nat->Bool} {v:World} (h:Uc c dl Q z L v) (hi:i≠c) (hj:i∈dl->L c=true):Uc c dl Q z (upd L i) v :=
 ⟨fun q=>h.1 (by rw[upd_ne (fun e=>hi e.symm)] at q;exact q),fun j hd q=>by
  rw[upd_ne (fun e=>hi e.symm)]
  by_cases e:j=i
  ·
   subst e;exact hj hd
  ·
   rw[upd_ne e] at q;exact h.2 j hd q⟩
theorem Uc.bel {Z:Type} {c:Nat} {dl:List Nat} {Q:Z->World->Prop} {z:Z} {L:Nat->Bool} {v v':World} (h:Uc c dl Q z L v) (hQ:Q z v->Q z v'):Uc c dl Q z L v':=⟨fun q=>hQ (h.1 q),h.2⟩
theorem Uc.brought {Z:Type} {c:Nat} {dl:List Nat} {Q:Z->World->Prop} {z':Z} {L:Nat->Bool} {v':World} (hQ:Q z' v'):Uc c dl Q z' (upd L c) v':=⟨fun _=>hQ,fun _ _ _=>upd_at L c⟩
theorem Uc.init {Z : Type} {n c : Nat} {dl : List Nat} {Q : Z → World → Prop} {z : Z} {v : World} (hc : c < n) (hd : ∀ j ∈ dl, j < n) : Uc c dl Q z (fun i => decide (n ≤ i)) v :=
  ⟨fun q => by have : n ≤ c := by simpa using q
               omega, fun j hj q => by have := hd j hj
                                       have : n ≤ j := by simpa using q
                                       omega⟩
section
variable {P : Program} {a : Act} {w : World} {o : Oper}
theorem ev_move {x:Operand} {u:Value} (hop:o.op=.move x) (hx:a.eval x=u):(execOp a.eval o).run P w=.ok (.value u) w:=by
 unfold execOp
 simp only[hop,hx]
 simp[go_sem]
theorem ev_assign {x:Operand} {u:Value} (hop:o.op=.assign x) (hx:a.eval x=u):(execOp a.eval o).run P w=.ok (.value u) w:=by
 unfold execOp
 simp only[hop,hx]
 simp[go_sem]
theorem ev_pick {x y z:Operand} {u:Value} {t:Bool} (hop:o.op=.pick x y z) (hx:a.eval x=.bool t) (hy:a.eval (if t then y else z)=u):(execOp a.eval o).run P w=.ok (.value u) w:=by
 unfold execOp
 simp only[hop,hx]
 cases t<;>simp_all [go_sem]
theorem ev_extract {x:Operand} {i:Nat} {vs:Array Value} {u:Value} (hop:o.op=.extract x i) (hx:a.eval x=.tuple vs) (hu:vs[i]?=some u):(execOp a.eval o).run P w=.ok (.value u) w:=by
 unfold execOp
 simp only[hop,hx]
 simp[go_sem,hu]
end
end Go.Proofs.YtkeapmmochpcfaaGreat.Nf
namespace Go.Proofs.YtkeapmmochpcfaaGreat.Sd
open Go Go.Proofs.YtkeapmmochpcfaaGreat.Nf
def fnL:List Nat:=[5,6,7,9,10,11,12,13,14,15,16,17,18,19,20,21,22,23,24,25,26,27,28,29,31,32,33,34,35,36,37,38,39,40,41,42,43,44,45,46,47,48,49,50,51,52,53,54,55,59,60,61,62,63,64,65,66,67,68,69,70,71,72,73,74,75,76,77,97,98,99,100,101,102,103,104,105,106,107,108,109,115,116,130,133,134,135,136,137,138,139]
def slB (i:Nat):Bool:=i==2||i==24||i==40
def K:Rul where
 fn:=fun g=>fnL.contains g
 nm := fun s => s == "Len" || s == "Less" || s == "Swap" || s == "Push" || s == "Pop"
 fs:=fun f i=>f==69&&slB i
 fv:=fun g=>g==70
set_option maxRecDepth 100000
theorem code_all : fnL.all (fun f => codeB K Tryz.prog f (((Tryz.prog.funcs[f]?).bind (·.body)).getD (.refuse "unsupported: a function without a Go body is entered"))) = true := by kernel_rfl
theorem fn_mem {f:Nat} (h:K.fn f=true):f∈fnL:=List.contains_iff_mem.1 h
theorem init_all:fnL.all (fun f=>(Tryz.prog.inits.idxOf? f).isNone)=true:=by kernel_rfl
theorem name_all : fnL.all (fun f => ((Tryz.prog.funcs[f]?).all fun fn => !(fn.name == "runtime.NumGoroutine"))) = true := by kernel_rfl
theorem body_all:fnL.all (fun f=>f==72||f==130||f==139||((Tryz.prog.funcs[f]?).all fun fn=>!fn.body.isNone))=true:=by kernel_rfl
theorem ready_all:Tryz.prog.funcs.all (fun f=>(f.body.map readies).all (·.isEmpty))=true:=by kernel_rfl
theorem ahead_all:Tryz.prog.follows .staticDataAhead=true:=by kernel_rfl
theorem meth_all:methB K (fun g=>!(g==69)) Tryz.prog=true:=by kernel_rfl
theorem extern_all : ∀ f, f = 72 ∨ f = 130 ∨ f = 139 → ∀ fn, Tryz.prog.funcs[f]? = some fn → Extern.findNext fn = none ∧ ∀ e, Extern.find fn = some e → ∀ args, fine Tryz.prog (e args) := by
  rintro f (rfl | rfl | rfl) fn hf
  · have e1 : Tryz.prog.funcs[72]? = some Tryz.f72 := Tryz.func72
    rw [e1] at hf
    cases hf
    refine ⟨by have : (Extern.findNext Tryz.f72).isNone = true := by kernel_rfl
               simpa using this, fun e he args => ?_⟩
    have : Extern.find Tryz.f72 = some (Extern.SlicesOverlaps.overlaps Tryz.f72.params Tryz.f72.resultTypes) := by rfl
    rw [this] at he
    cases he
    exact fine_overlaps _ _ _
  · have e1 : Tryz.prog.funcs[130]? = some Tryz.f130 := Tryz.func130
    rw [e1] at hf
    cases hf
    refine ⟨by have : (Extern.findNext Tryz.f130).isNone = true := by kernel_rfl
               simpa using this, fun e he args => ?_⟩
    have : (Extern.find Tryz.f130).isNone = true := by kernel_rfl
    rw [he] at this
    cases this
  · have e1 : Tryz.prog.funcs[139]? = some Tryz.f139 := Tryz.func139
    rw [e1] at hf
    cases hf
    refine ⟨by have : (Extern.findNext Tryz.f139).isNone = true := by kernel_rfl
               simpa using this, fun e he args => ?_⟩
    have : Extern.find Tryz.f139 = some (Extern.Atomic.swapT (.int .u64)) := by rfl
    rw [this] at he
    cases he
    exact fine_swapT _ _
theorem good:Nf.Good K Tryz.prog where
 code:=fun f hf=>List.all_eq_true.1 code_all f (fn_mem hf)
 init:=fun f hf=>by simpa using List.all_eq_true.1 init_all f (fn_mem hf)
 fn:={
  call:=fun g fn hg hf=>by
   have h1:=List.all_eq_true.1 name_all g (fn_mem hg)
   have h2:=List.all_eq_true.1 body_all g (fn_mem hg)
   rw[hf] at h1 h2
   refine⟨by simpa using h1,?_⟩
   simp only[Bool.or_eq_true,beq_iff_eq] at h2
   rcases h2 with ((h2 | h2) | h2) | h2
   ·
    exact .inr (extern_all g (.inl h2) fn hf)
   ·
    exact .inr (extern_all g (.inr (.inl h2)) fn hf)
   ·
    exact .inr (extern_all g (.inr (.inr h2)) fn hf)
   ·
    exact .inl (by simpa using h2)
  meth:=meth_of (fun g hg s=>by
   have:(g==69)=false:=by simpa using hg
   show (g==69&&slB s)=false
   rw[this];rfl) meth_all
  value:=fun g hg=>by
   have e:g=70:=by simpa [K] using hg
   subst e
   exact⟨by kernel_rfl,fun s=>rfl⟩ }
 ready:=ready_of ready_all
 ahead:=ahead_all
end Go.Proofs.YtkeapmmochpcfaaGreat.Sd
