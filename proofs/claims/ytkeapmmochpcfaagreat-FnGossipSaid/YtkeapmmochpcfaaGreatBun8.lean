/- Goroutines: QFz. -/
import GoSem.Step
import Derived.Laws.Sem
set_option maxRecDepth 100000
set_option maxHeartbeats 32000000
set_option linter.unusedVariables false
set_option linter.unusedSectionVars false
namespace Go.Proofs.YtkeapmmochpcfaaGreat.Nf
open Go
abbrev Tp:=Nat->Question->Nat
def on (w:World) (t:Tp) (d:Nat):World:={ w with tape:=t,drawn:=d }
def rOn {α:Type} (t:Tp) (d:Nat):Result α->Result α
 | .ok a w=>.ok a (on w t d)
 | .halt h w=>.halt h (on w t d)
def rW {α:Type}:Result α->World
 | .ok _ w=>w
 | .halt _ w=>w
def Drew {α:Type} (f:World->Result α × Array Event) (w:World) (c:Nat):Prop :=
 (rW (f w).1).drawn=w.drawn+c∧(rW (f w).1).tape=w.tape ∧
  ∀ t d,(∀ i,i<c->t (d+i)=w.tape (w.drawn+i))->f (on w t d)=(rOn t (d+c) (f w).1,(f w).2)
def rtTs (P:Program):List TypeId:=[P.rt.boundsError,P.rt.errorString,P.rt.plainError,P.rt.typeAssertionError,P.rt.panicNilError,P.rt.unhashableTypeError]
def okH (P:Program):Halt->Prop
 | .panic v=>∃ t x,v=.iface t x∧t∈rtTs P
 | .stuck _=>True
 | .unsupported _=>True
 | _=>False
def okM:Mark->Prop
 | .noRoom=>True
 | .extern _=>True
 | _=>False
def poison:Obj:=.coro none
structure Pz (B:Nat->Prop) (w v:World):Prop where
 heap:∀ r,¬ B r->v.heap[r]?=w.heap[r]?
 bad:∀ r,B r->v.heap[r]?=some poison∧∃ c e,w.heap[r]?=some (.cells c e (0,0))∧0<c.size
 size:v.heap.size=w.heap.size
 tape:v.tape=w.tape
 drawn:v.drawn=w.drawn
 sys:v.os=w.os∧v.output=w.output
def okEv (B:Nat->Prop) (n:Nat) (e:Event):Prop :=
 match e.loc with
 | .cell a=>¬ B a.block∧a.block<n
 | .obj r=>¬ B r∧r<n
 | .mark m=>okM m
 | _=>False
def Fin {α:Type} (B:Nat->Prop) (P:Program) (n:Nat) (es:Array Event) (x y:Result α × Array Event):Prop :=
 match y.1 with
 | .ok a v'=>∃ w' u,x=(.ok a w',es++u)∧Pz B w' v'∧n<=w'.heap.size∧∀ e∈u,okEv B w'.heap.size e
 | .halt h _=>okH P h
structure fine {α:Type} (P:Program) (s:Sem α):Prop where
 sim:∀ B w v es ev,Pz B w v->Fin B P w.heap.size es (s.runT P w es) (s.runT P v ev)
 drew:∀ w es,∃ c,Drew (fun w=>s.runT P w es) w c
section
variable {α β : Type} {P : Program} {B : Nat → Prop}
theorem okEv_mono {n m:Nat} (h:n<=m) {e:Event} (he:okEv B n e):okEv B m e:=by
 unfold okEv at he ⊢
 split at he<;>simp_all<;>omega
theorem runT_bind (P:Program) (s:Sem α) (f:α->Sem β):∀ w es,(s >>= f).runT P w es=match s.runT P w es with
  | (.ok a w',es')=>(f a).runT P w' es'
  | (.halt h w',es')=>(.halt h w',es'):=by
 induction s with
 | pure a=>intro w es;rfl
 | load m a k ih =>
  intro w es
  show Sem.runT P (.load m a fun v=>(k v).bind f) w es=_
  simp only[Sem.runT]
  cases w.cell? a with
  | some v=>exact ih v _ _
  | none =>
   cases w.farLoad P a (m == .atomic) with
   | ok x=>exact ih _ _ _
   | error e=>rfl
 | store m a v k ih =>
  intro w es
  show Sem.runT P (.store m a v (k.bind f)) w es=_
  have key:(match w.cell? a with
   | some _ => if w.frozen? a then (.halt (.unsupported (.unsafePointer "a write to bytes that a string shares")) w, es) else (k.bind f).runT P (w.setCell a v) (es.push ⟨.cell a, true, m == .atomic⟩)
   | none=>match w.farStore P a v (m == .atomic) with
    | .ok (w,touched)=>(k.bind f).runT P w (es++touched.toArray.map (⟨.cell ·,true,m == .atomic⟩))
    | .error h=>(.halt h w,es))=match (match w.cell? a with
   | some _ => if w.frozen? a then (.halt (.unsupported (.unsafePointer "a write to bytes that a string shares")) w, es) else k.runT P (w.setCell a v) (es.push ⟨.cell a, true, m == .atomic⟩)
   | none=>match w.farStore P a v (m == .atomic) with
    | .ok (w,touched)=>k.runT P w (es++touched.toArray.map (⟨.cell ·,true,m == .atomic⟩))
    | .error h=>(.halt h w,es):Result α × Array Event) with
  | (.ok a w',es')=>(f a).runT P w' es'
  | (.halt h w',es')=>(.halt h w',es'):=by
   cases w.cell? a with
   | some x =>
    dsimp only
    split
    ·
     rfl
    ·
     exact ih _ _
   | none =>
    cases w.farStore P a v (m == .atomic) with
    | ok x=>exact ih _ _
    | error e=>rfl
  cases v<;>first | exact key | rfl
 | new o k ih=>intro w es;exact ih _ _ _
 | shape r k ih=>intro w es;exact ih _ _ _
 | freeze a m k ih=>intro w es;exact ih _ _
 | frozen a k ih=>intro w es;exact ih _ _ _
 | getObj r k ih =>
  intro w es
  show Sem.runT P (.getObj r fun o=>(k o).bind f) w es=_
  simp only[Sem.runT]
  cases w.heap[r]? with
  | none=>rfl
  | some o=>cases o<;>first | rfl | exact ih _ _ _
 | setObj r o k ih =>
  intro w es
  show Sem.runT P (.setObj r o (k.bind f)) w es=_
  simp only[Sem.runT]
  cases w.heap[r]? with
  | none=>rfl
  | some o=>cases o<;>first | rfl | exact ih _ _
 | choose q k ih =>
  intro w es
  show Sem.runT P (.choose q fun n=>(k n).bind f) w es=_
  simp only[Sem.runT]
  split
  ·
   exact ih _ _ _
  ·
   exact ih _ _ _
 | sys c k ih=>intro w es;exact ih _ _ _
 | program k ih=>intro w es;exact ih _ _ _
 | mark m k ih=>intro w es;exact ih _ _
 | halt h=>intro w es;rfl
theorem fine_bind {s:Sem α} {f:α->Sem β} (hs:fine P s) (hf:∀ a,fine P (f a)):fine P (s >>= f):=by
 refine⟨fun B w v es ev hp=>?_,fun w es=>?_⟩
 ·
  have h1:=hs.sim B w v es ev hp
  rw[runT_bind,runT_bind]
  cases hy:s.runT P v ev with
  | mk r ev' =>
   rw[hy] at h1
   cases r with
   | halt h v'=>exact h1
   | ok a v' =>
    obtain⟨w',u,hx,hp',hn,hu⟩:=h1
    rw[hx]
    have h2:=(hf a).sim B w' v' (es++u) ev' hp'
    dsimp only
    unfold Fin at h2 ⊢
    cases hz:((f a).runT P v' ev').1 with
    | halt h v''=>rw[hz] at h2;exact h2
    | ok b v'' =>
     rw[hz] at h2
     obtain⟨w'',u2,hx2,hp2,hn2,hu2⟩:=h2
     refine⟨w'',u++u2,by rw[hx2,Array.append_assoc],hp2,by omega,fun e he=>?_⟩
     rcases Array.mem_append.1 he with he | he
     ·
      exact okEv_mono hn2 (hu e he)
     ·
      exact hu2 e he
 ·
  obtain⟨c1,a1,a2,a3⟩:=hs.drew w es
  dsimp only at a1 a2 a3
  cases hy:s.runT P w es with
  | mk r es' =>
   rw[hy] at a1 a2 a3
   cases r with
   | halt h w' =>
    refine⟨c1,?_,?_,fun t d ht=>?_⟩
    ·
     dsimp only;rw[runT_bind,hy];exact a1
    ·
     dsimp only;rw[runT_bind,hy];exact a2
    ·
     dsimp only;rw[runT_bind,a3 t d ht,runT_bind,hy];rfl
   | ok a w' =>
    obtain⟨c2,b1,b2,b3⟩:=(hf a).drew w' es'
    dsimp only at b1 b2 b3
    have a1':w'.drawn=w.drawn+c1:=a1
    have a2':w'.tape=w.tape:=a2
    refine⟨c1+c2,?_,?_,fun t d ht=>?_⟩
    ·
     dsimp only;rw[runT_bind,hy];dsimp only;rw[b1,a1'];omega
    ·
     dsimp only;rw[runT_bind,hy];dsimp only;rw[b2,a2']
    ·
     dsimp only;rw[runT_bind,a3 t d (fun i hi=>ht i (by omega)),runT_bind,hy]
     dsimp only[rOn]
     rw[b3 t (d+c1) (fun i hi=>by rw[a2',a1'];have:=ht (c1+i) (by omega);rw[<- Nat.add_assoc,<- Nat.add_assoc] at this;exact this),show d+(c1+c2)=d+c1+c2 by omega]
     rfl
theorem fine_map {s:Sem α} {f:α->β} (hs:fine P s):fine P (f <$> s):=fine_bind hs (fun a=>⟨fun B w v es ev hp=>⟨w,#[],by simp[Sem.runT],hp,Nat.le_refl _,by simp⟩,fun w es=>⟨0,rfl,rfl,fun t d _=>rfl⟩⟩)
theorem fine_pure (a:α):fine P (pure a):=⟨fun B w v es ev hp=>⟨w,#[],by simp[Sem.runT,pure],hp,Nat.le_refl _,by simp⟩,fun w es=>⟨0,rfl,rfl,fun t d _=>rfl⟩⟩
theorem fine_halt {h:Halt} (hh:okH P h):fine P (.halt h:Sem α):=⟨fun B w v es ev hp=>hh,fun w es=>⟨0,rfl,rfl,fun t d _=>rfl⟩⟩
theorem fine_stuck (s:String):fine P (stuck s:Sem α):=fine_halt trivial
theorem fine_unsup (u:Unsupported):fine P (unsupported u:Sem α):=fine_halt trivial
theorem fine_program:fine P program:=⟨fun B w v es ev hp=>⟨w,#[],by simp[Sem.runT,program],hp,Nat.le_refl _,by simp⟩,fun w es=>⟨0,rfl,rfl,fun t d _=>rfl⟩⟩
theorem fine_prog {f:Program->Sem α} (h:fine P (f P)):fine P (program >>= f):=by
 refine⟨fun B w v es ev hp=>h.sim B w v es ev hp,fun w es=>h.drew w es⟩
theorem fine_mark {m:Mark} (h:okM m):fine P (mark m):=⟨fun B w v es ev hp=>⟨w,#[⟨.mark m,false,true⟩],by simp[Sem.runT,mark],hp,Nat.le_refl _,by simpa [okEv] using h⟩,fun w es=>⟨0,rfl,rfl,fun t d _=>rfl⟩⟩
theorem fine_choose (q:Question):fine P (choose q):=by
 refine⟨fun B w v es ev hp=>?_,fun w es=>?_⟩
 ·
  unfold choose
  simp only[Sem.runT]
  split
  ·
   exact⟨w,#[],by simp,hp,Nat.le_refl _,by simp⟩
  ·
   exact⟨{ w with drawn:=w.drawn+1 },#[],by simp[hp.tape,hp.drawn],⟨hp.heap,hp.bad,hp.size,hp.tape,by simp[hp.drawn],hp.sys⟩,Nat.le_refl _,by simp⟩
 ·
  by_cases hq:q.forced=true
  ·
   exact⟨0,by simp[choose,Sem.runT,hq,rW],by simp[choose,Sem.runT,hq,rW],fun t d _=>by simp[choose,Sem.runT,hq,rOn]⟩
  ·
   refine⟨1,by simp[choose,Sem.runT,hq,rW],by simp[choose,Sem.runT,hq,rW],fun t d ht=>?_⟩
   have:=ht 0 (by omega)
   simp only[Nat.add_zero] at this
   simp[choose,Sem.runT,hq,rOn,on,this]
theorem fine_ite {c:Prop} [Decidable c] {s t:Sem α} (h1:c->fine P s) (h2:¬ c->fine P t):fine P (if c then s else t):=by
 split
 ·
  exact h1 ‹_›
 ·
  exact h2 ‹_›
end
end Go.Proofs.YtkeapmmochpcfaaGreat.Nf
namespace Go.Proofs.YtkeapmmochpcfaaGreat.Nf
open Go
section
variable {α : Type} {P : Program} {B : Nat → Prop} {w v : World}
theorem lt_of_get {r:Nat} {o:Obj} (h:w.heap[r]?=some o):r<w.heap.size:=(Array.getElem?_eq_some_iff.1 h).1
theorem Pz.push (h:Pz B w v) (o:Obj) (hB:∀ r,B r->r<w.heap.size):Pz B { w with heap:=w.heap.push o } { v with heap:=v.heap.push o }:=by
 refine⟨fun r hr=>?_,fun r hr=>?_,by simp[h.size],h.tape,h.drawn,h.sys⟩
 ·
  simp only[Array.getElem?_push,h.size,h.heap r hr]
 ·
  have:=hB r hr
  simp only[Array.getElem?_push,h.size]
  rw[if_neg (by omega),if_neg (by omega)]
  exact h.bad r hr
theorem Pz.lt (h:Pz B w v) {r:Nat} (hr:B r):r<w.heap.size:=by
 obtain⟨_,c,e,hc,_⟩:=h.bad r hr
 exact lt_of_get hc
theorem Pz.setCell (h:Pz B w v) {a:Addr} (ha:¬ B a.block) (x:Value):Pz B (w.setCell a x) (v.setCell a x):=by
 refine⟨fun r hr=>?_,fun r hr=>?_,by simp[World.setCell,h.size],h.tape,h.drawn,h.sys⟩
 ·
  simp only[World.setCell,Array.getElem?_modify,h.heap r hr]
 ·
  have hne:a.block≠r:=fun e=>ha (e ▸ hr)
  simp only[World.setCell,Array.getElem?_modify,if_neg hne]
  exact h.bad r hr
theorem Pz.set (h:Pz B w v) {r:Nat} (hr:¬ B r) (o:Obj):Pz B { w with heap:=w.heap.setIfInBounds r o } { v with heap:=v.heap.setIfInBounds r o }:=by
 refine⟨fun k hk=>?_,fun k hk=>?_,by simp[h.size],h.tape,h.drawn,h.sys⟩
 ·
  simp only[Array.getElem?_setIfInBounds,h.size,h.heap k hk]
 ·
  have hne:r≠k:=fun e=>hr (e ▸ hk)
  simp only[Array.getElem?_setIfInBounds,if_neg hne]
  exact h.bad k hk
theorem cell_same (h:Pz B w v) {a:Addr} (ha:¬ B a.block):v.cell? a=w.cell? a:=by
 unfold World.cell?;rw[h.heap _ ha]
theorem cell_bad (h:Pz B w v) {a:Addr} (ha:B a.block):v.cell? a=none:=by
 unfold World.cell?;rw[(h.bad _ ha).1];rfl
theorem far_bad (h : Pz B w v) {a : Addr} (ha : B a.block) (b : Bool) : v.farLoad P a b = .error (.stuck "load: no such cell") := by
 unfold World.farLoad World.noCell;rw[(h.bad _ ha).1];rfl
theorem farS_bad (h : Pz B w v) {a : Addr} (ha : B a.block) (x : Value) (b : Bool) : v.farStore P a x b = .error (.stuck "store: no such cell") := by
 unfold World.farStore World.noCell;rw[(h.bad _ ha).1];rfl
theorem frozen_same (h:Pz B w v) (a:Addr):v.frozen? a=w.frozen? a:=by
 by_cases ha:B a.block
 ·
  obtain⟨h1,c,e,h2,_⟩:=h.bad _ ha
  unfold World.frozen?;rw[h1,h2]
  simp[poison]
 ·
  unfold World.frozen?;rw[h.heap _ ha]
theorem cell_lt {a:Addr} {x:Value} (h:w.cell? a=some x):a.block<w.heap.size:=by
 unfold World.cell? at h
 split at h
 ·
  exact lt_of_get ‹_›
 ·
  cases h
theorem seen_same {at_:Addr} (e:v.heap[at_.block]?=w.heap[at_.block]?) (u:TypeId) (k:Addr) (b:Bool):v.seen P at_ u k b=w.seen P at_ u k b:=by
 unfold World.seen;rw[e]
theorem seen_cells {at_:Addr} {u:TypeId} {k:Addr} {b:Bool} {x} (e:w.seen P at_ u k b=.ok x):∃ c e f,w.heap[at_.block]?=some (.cells c e f):=by
 unfold World.seen at e
 cases ho:w.heap[at_.block]? with
 | none=>rw[ho] at e;revert e;simp only[bind,Except.bind];repeat' (first | split | (intro e;cases e))
 | some o =>
  cases o with
  | cells c e f=>exact⟨c,e,f,rfl⟩
  | _=>rw[ho] at e;revert e;simp only[bind,Except.bind];repeat' (first | split | (intro e;cases e))
end
end Go.Proofs.YtkeapmmochpcfaaGreat.Nf
namespace Go.Proofs.YtkeapmmochpcfaaGreat.Nf
open Go
section
variable {α : Type} {P : Program} {B : Nat → Prop} {w v : World}
theorem viewLoad_same {at_:Addr} (e:v.heap[at_.block]?=w.heap[at_.block]?) (u:TypeId) (k:Addr) (b:Bool):v.viewLoad P at_ u k b=w.viewLoad P at_ u k b:=by
 unfold World.viewLoad;rw[seen_same e]
theorem viewLoad_seen {at_:Addr} {u:TypeId} {k:Addr} {b:Bool} {x:Value × List Addr} (e:w.viewLoad P at_ u k b=.ok x):(∃ y,w.seen P at_ u k b=.ok y)∧∀ a∈x.2,a.block=at_.block:=by
 unfold World.viewLoad at e
 cases hs:w.seen P at_ u k b with
 | error z=>rw[hs] at e;cases e
 | ok y =>
  refine⟨⟨y,rfl⟩,?_⟩
  rw[hs] at e
  obtain⟨c,t,f,first,like,cells⟩:=y
  simp only[bind,Except.bind] at e
  split at e
  ·
   cases e
   intro a ha
   obtain⟨z,_,rfl⟩:=List.mem_map.1 ha
   rfl
  ·
   cases e
def Both (w v:World) (r:Nat):Except String (World × List Addr)->Except String (World × List Addr)->Prop
 | .ok (w',l),.ok (v',l')=>l=l'∧(∀ a∈l,a.block=r)∧∃ o,w'={ w with heap:=w.heap.setIfInBounds r o }∧v'={ v with heap:=v.heap.setIfInBounds r o }
 | .error _,.error _=>True
 | _,_=>False
theorem both_bind {γ:Type} {r:Nat} {x:Except String γ} {f g:γ->Except String (World × List Addr)} (h:∀ a,Both w v r (f a) (g a)):Both w v r (x >>= f) (x >>= g):=by
 cases x with
 | error e=>trivial
 | ok a=>exact h a
theorem viewStore_same {at_:Addr} (e:v.heap[at_.block]?=w.heap[at_.block]?) (u:TypeId) (k:Addr) (x:Value) (b:Bool):Both w v at_.block (w.viewStore P at_ u k x b) (v.viewStore P at_ u k x b):=by
 unfold World.viewStore
 rw[seen_same e]
 repeat' first
  | trivial
  | (refine both_bind (fun a=>?_))
  | split
  | (refine⟨rfl,fun a ha=>?_,_,rfl,rfl⟩;obtain⟨z,_,rfl⟩:=List.mem_map.1 ha;rfl)
theorem viewStore_seen {at_:Addr} {u:TypeId} {k:Addr} {x:Value} {b:Bool} {y:World × List Addr} (e:w.viewStore P at_ u k x b=.ok y):∃ y,w.seen P at_ u k b=.ok y:=by
 unfold World.viewStore at e
 cases hs:w.seen P at_ u k b with
 | ok y=>exact⟨y,rfl⟩
 | error z=>rw[hs] at e;revert e;simp only[bind,Except.bind];repeat' (first | split | (intro e;cases e))
theorem seen_bad (h:Pz B w v) {at_:Addr} (ha:B at_.block) {u:TypeId} {k:Addr} {b:Bool}:∀ y,v.seen P at_ u k b≠.ok y:=by
 intro y e
 obtain⟨c,t,f,hc⟩:=seen_cells e
 rw[(h.bad _ ha).1] at hc
 cases hc
theorem fine_load (a:Addr) (m:Mode):fine P (load a m):=by
 refine⟨fun B w v es ev hp=>?_,fun w es=>?_⟩
 ·
  unfold load
  simp only[Sem.runT]
  by_cases ha:B a.block
  ·
   rw[cell_bad hp ha]
   simp only[far_bad (P:=P) hp ha]
   trivial
  ·
   rw[cell_same hp ha]
   cases hc:w.cell? a with
   | some x=>exact⟨w,#[⟨.cell a,false,m == .atomic⟩],by simp,hp,Nat.le_refl _,by simpa [okEv] using ⟨ha,cell_lt hc⟩⟩
   | none =>
    dsimp only
    unfold World.farLoad
    rw[hp.heap _ ha]
    cases ho:w.heap[a.block]? with
    | none=>simp only[World.noCell,hp.heap _ ha,ho];exact trivial
    | some o =>
     cases o with
     | view at_ u =>
      dsimp only
      by_cases hb:B at_.block
      ·
       cases hl:v.viewLoad P at_ u a (m == .atomic) with
       | ok x=>exact absurd (viewLoad_seen hl).1.choose_spec (seen_bad hp hb _)
       | error z=>exact trivial
      ·
       rw[viewLoad_same (hp.heap _ hb)]
       cases hl:w.viewLoad P at_ u a (m == .atomic) with
       | error z=>exact trivial
       | ok x =>
        obtain⟨⟨y,hy⟩,ht⟩:=viewLoad_seen hl
        obtain⟨c,t,f,hcl⟩:=seen_cells hy
        refine⟨w,x.2.toArray.map (⟨.cell ·,false,m == .atomic⟩),rfl,hp,Nat.le_refl _,fun e he=>?_⟩
        obtain⟨z,hz,rfl⟩:=Array.mem_map.1 he
        have:=ht z (by simpa using hz)
        exact⟨by rw[this];exact hb,by rw[this];exact lt_of_get hcl⟩
     | pending c t =>
      simp only[World.noCell,hp.heap _ ha,ho]
      exact trivial
     | _=>simp only[World.noCell,hp.heap _ ha,ho];exact trivial
 ·
  unfold load
  cases hc:w.cell? a with
  | some x=>exact⟨0,by simp[Sem.runT,hc,rW],by simp[Sem.runT,hc,rW],fun t d _=>by simp[Sem.runT,hc,rOn,show (on w t d).cell? a=w.cell? a from rfl]⟩
  | none =>
   cases hf:w.farLoad P a (m == .atomic) with
   | ok x=>exact⟨0,by simp[Sem.runT,hc,hf,rW],by simp[Sem.runT,hc,hf,rW],fun t d _=>by simp[Sem.runT,hc,hf,rOn,show (on w t d).cell? a=w.cell? a from rfl,show (on w t d).farLoad P a (m == .atomic)=w.farLoad P a (m == .atomic) from rfl]⟩
   | error x=>exact⟨0,by simp[Sem.runT,hc,hf,rW],by simp[Sem.runT,hc,hf,rW],fun t d _=>by simp[Sem.runT,hc,hf,rOn,show (on w t d).cell? a=w.cell? a from rfl,show (on w t d).farLoad P a (m == .atomic)=w.farLoad P a (m == .atomic) from rfl]⟩
end
end Go.Proofs.YtkeapmmochpcfaaGreat.Nf
namespace Go.Proofs.YtkeapmmochpcfaaGreat.Nf
open Go
section
variable {α : Type} {P : Program} {B : Nat → Prop} {w v : World}
theorem store_run (m:Mode) (a:Addr) (x:Value) (w:World) (es:Array Event) (hx:(∀ cs,x≠.agg cs)∧∀ cs,x≠.tuple cs):(store a x m).runT P w es=match w.cell? a with
   | some _ => if w.frozen? a then (.halt (.unsupported (.unsafePointer "a write to bytes that a string shares")) w, es) else (.ok () (w.setCell a x), es.push ⟨.cell a, true, m == .atomic⟩)
   | none=>match w.farStore P a x (m == .atomic) with
    | .ok (w,touched)=>(.ok () w,es++touched.toArray.map (⟨.cell ·,true,m == .atomic⟩))
    | .error h=>(.halt h w,es):=by
 unfold store
 rw[Sem.runT]<;>first | exact hx.1 | exact hx.2 | rfl
theorem farStore_on (t:Tp) (d:Nat) (a:Addr) (x:Value) (b:Bool):(on w t d).farStore P a x b=(w.farStore P a x b).map (fun y=>(on y.1 t d,y.2)):=by
 unfold World.farStore
 show (match w.heap[a.block]? with | some (.view at_ u)=>_ | _=>_)=_
 cases ho:w.heap[a.block]? with
 | none=>rfl
 | some o =>
  cases o with
  | view at_ u =>
   dsimp only
   have h:=viewStore_same (P:=P) (w:=w) (v:=on w t d) (at_:=at_) rfl u a x b
   cases h1:w.viewStore P at_ u a x b with
   | error e =>
    cases h2:(on w t d).viewStore P at_ u a x b with
    | error e2 =>
     have:e=e2:=by
      have h3:(on w t d).viewStore P at_ u a x b=(w.viewStore P at_ u a x b).map (fun y=>(on y.1 t d,y.2)):=by
       unfold World.viewStore
       rw[seen_same (w:=w) (v:=on w t d) rfl]
       simp only[bind,Except.bind,Except.map]
       repeat' (first | rfl | split)
       all_goals simp_all
      rw[h1,h2] at h3
      simpa [Except.map] using h3.symm
     subst this
     rfl
    | ok y=>rw[h1,h2] at h;exact h.elim
   | ok y =>
    cases h2:(on w t d).viewStore P at_ u a x b with
    | error e2=>rw[h1,h2] at h;exact h.elim
    | ok z =>
     rw[h1,h2] at h
     obtain⟨e1,_,o,e2,e3⟩:=h
     obtain⟨w1,l1⟩:=y
     obtain⟨w2,l2⟩:=z
     dsimp only at e1 e2 e3
     subst e1 e2 e3
     rfl
  | _=>rfl
theorem farStore_w {a:Addr} {x:Value} {b:Bool} {y:World × List Addr} (h:w.farStore P a x b=.ok y):y.1.drawn=w.drawn∧y.1.tape=w.tape:=by
 unfold World.farStore at h
 cases ho:w.heap[a.block]? with
 | none=>rw[ho] at h;cases h
 | some o =>
  rw[ho] at h
  cases o with
  | view at_ u =>
   dsimp only at h
   have hb:=viewStore_same (P:=P) (w:=w) (v:=w) (at_:=at_) rfl u a x b
   cases h1:w.viewStore P at_ u a x b with
   | error e=>rw[h1] at h;cases h
   | ok z =>
    rw[h1] at h hb
    cases h
    obtain⟨_,_,o,e2,_⟩:=hb
    rw[e2]
    exact⟨rfl,rfl⟩
  | _=>cases h
theorem fine_store (a:Addr) (x:Value) (m:Mode):fine P (store a x m):=by
 by_cases hx:(∀ cs,x≠.agg cs)∧∀ cs,x≠.tuple cs
 ·
  refine⟨fun B w v es ev hp=>?_,fun w es=>?_⟩
  ·
   rw[store_run m a x w es hx,store_run m a x v ev hx]
   by_cases ha:B a.block
   ·
    rw[cell_bad hp ha]
    simp only[farS_bad (P:=P) hp ha]
    trivial
   ·
    rw[cell_same hp ha,frozen_same hp a]
    cases hc:w.cell? a with
    | some y =>
     dsimp only
     split
     ·
      trivial
     ·
      exact⟨w.setCell a x,#[⟨.cell a,true,m == .atomic⟩],by simp,hp.setCell ha x,by simp[World.setCell],by simpa [okEv,World.setCell] using ⟨ha,cell_lt hc⟩⟩
    | none =>
     dsimp only
     unfold World.farStore
     rw[hp.heap _ ha]
     cases ho:w.heap[a.block]? with
     | none=>simp only[World.noCell,hp.heap _ ha,ho];exact trivial
     | some o =>
      cases o with
      | view at_ u =>
       dsimp only
       by_cases hb:B at_.block
       ·
        cases hl:v.viewStore P at_ u a x (m == .atomic) with
        | ok y=>exact absurd (viewStore_seen hl).choose_spec (seen_bad hp hb _)
        | error z=>exact trivial
       ·
        have h:=viewStore_same (P:=P) (hp.heap _ hb) u a x (m == .atomic)
        cases h2:v.viewStore P at_ u a x (m == .atomic) with
        | error z=>exact trivial
        | ok y2 =>
         cases h1:w.viewStore P at_ u a x (m == .atomic) with
         | error z=>rw[h1,h2] at h;exact h.elim
         | ok y1 =>
          obtain⟨y,hy⟩:=viewStore_seen h1
          obtain⟨c,t,f,hcl⟩:=seen_cells hy
          rw[h1,h2] at h
          obtain⟨w1,l1⟩:=y1
          obtain⟨w2,l2⟩:=y2
          obtain⟨e1,ht,o,e2,e3⟩:=h
          subst e1 e2 e3
          refine⟨_,l1.toArray.map (⟨.cell ·,true,m == .atomic⟩),rfl,hp.set hb o,by simp,fun e he=>?_⟩
          obtain⟨z,hz,rfl⟩:=Array.mem_map.1 he
          have:=ht z (by simpa using hz)
          refine⟨by rw[this];exact hb,?_⟩
          rw[this]
          simpa using lt_of_get hcl
      | _=>simp only[World.noCell,hp.heap _ ha,ho];exact trivial
  ·
   cases hc:w.cell? a with
   | some y =>
    by_cases hz:w.frozen? a=true
    ·
     refine⟨0,?_,?_,fun t d _=>?_⟩
     ·
      dsimp only;rw[store_run m a x w es hx];simp[hc,hz,rW]
     ·
      dsimp only;rw[store_run m a x w es hx];simp[hc,hz,rW]
     ·
      dsimp only
      rw[store_run m a x w es hx,store_run m a x _ es hx,show (on w t d).cell? a=w.cell? a from rfl,show (on w t d).frozen? a=w.frozen? a from rfl]
      simp[hc,hz,rOn]
    ·
     refine⟨0,?_,?_,fun t d _=>?_⟩
     ·
      dsimp only;rw[store_run m a x w es hx];simp[hc,hz,rW,World.setCell]
     ·
      dsimp only;rw[store_run m a x w es hx];simp[hc,hz,rW,World.setCell]
     ·
      dsimp only
      rw[store_run m a x w es hx,store_run m a x _ es hx,show (on w t d).cell? a=w.cell? a from rfl,show (on w t d).frozen? a=w.frozen? a from rfl]
      simp[hc,hz,rOn]
      rfl
   | none =>
    cases hf:w.farStore P a x (m == .atomic) with
    | ok y =>
     have hw:=farStore_w hf
     refine⟨0,?_,?_,fun t d _=>?_⟩
     ·
      dsimp only;rw[store_run m a x w es hx];simp[hc,hf,rW,hw.1]
     ·
      dsimp only;rw[store_run m a x w es hx];simp[hc,hf,rW,hw.2]
     ·
      dsimp only
      rw[store_run m a x w es hx,store_run m a x _ es hx,show (on w t d).cell? a=w.cell? a from rfl,farStore_on]
      simp[hc,hf,rOn,Except.map]
    | error y =>
     refine⟨0,?_,?_,fun t d _=>?_⟩
     ·
      dsimp only;rw[store_run m a x w es hx];simp[hc,hf,rW]
     ·
      dsimp only;rw[store_run m a x w es hx];simp[hc,hf,rW]
     ·
      dsimp only
      rw[store_run m a x w es hx,store_run m a x _ es hx,show (on w t d).cell? a=w.cell? a from rfl,farStore_on]
      simp[hc,hf,rOn,Except.map]
 ·
  have : (store a x m : Sem Unit).runT P = (.halt (.stuck "store: not the value of one cell") : Sem Unit).runT P := by
   funext w es
   unfold store
   cases x<;>first | rfl | (exfalso;apply hx;constructor<;>intro cs hcs<;>cases hcs)
  have hh : fine P (.halt (.stuck "store: not the value of one cell") : Sem Unit) := fine_halt trivial
  exact⟨fun B w v es ev hp=>by rw[this];exact hh.sim B w v es ev hp,fun w es=>by rw[this];exact hh.drew w es⟩
theorem fine_new (o:Obj):fine P (newObj o):=by
 refine⟨fun B w v es ev hp=>?_,fun w es=>⟨0,rfl,rfl,fun t d _=>rfl⟩⟩
 refine⟨{ w with heap:=w.heap.push o },#[],?_,hp.push o (fun r hr=>hp.lt hr),by simp,by simp⟩
 simp[newObj,Sem.runT,hp.size]
theorem fine_frozen (a:Addr):fine P (frozen a):=⟨fun B w v es ev hp=>⟨w,#[],by simp[frozen,Sem.runT,frozen_same hp a],hp,Nat.le_refl _,by simp⟩,fun w es=>⟨0,rfl,rfl,fun t d _=>rfl⟩⟩
theorem shape_bad (h:Pz B w v) {r:Nat} (hr:B r):v.shape? r=none:=by unfold World.shape?;rw[(h.bad r hr).1];rfl
theorem shape_same (h:Pz B w v) {r:Nat} (hr:¬ B r):v.shape? r=w.shape? r:=by unfold World.shape?;rw[h.heap r hr]
theorem fine_shapeH {r:Nat} {k:Option (TypeId × Nat)->Sem α} (hk:∀ s,fine P (k s)) {h:Halt} (h0:k none=.halt h) (hh:okH P h):fine P (shape r >>= k):=by
 refine⟨fun B w v es ev hp=>?_,fun w es=>(hk (w.shape? r)).drew w es⟩
 by_cases hr:B r
 ·
  show Fin B P _ es _ ((k (v.shape? r)).runT P v ev)
  rw[shape_bad hp hr,h0]
  exact hh
 ·
  show Fin B P _ es ((k (w.shape? r)).runT P w es) ((k (v.shape? r)).runT P v ev)
  rw[shape_same hp hr]
  exact (hk _).sim B w v es ev hp
theorem fine_shapeE {r:Nat} {k:Option (TypeId × Nat)->Sem α} (hk:∀ s,fine P (k s)) (h0:∀ e n,0<n->k (some (e,n))=k none):fine P (shape r >>= k):=by
 refine⟨fun B w v es ev hp=>?_,fun w es=>(hk (w.shape? r)).drew w es⟩
 by_cases hr:B r
 ·
  obtain⟨_,c,e,hc,hn⟩:=hp.bad r hr
  have:w.shape? r=some (e,c.size):=by unfold World.shape?;rw[hc]
  show Fin B P _ es ((k (w.shape? r)).runT P w es) ((k (v.shape? r)).runT P v ev)
  rw[shape_bad hp hr,this,h0 e _ hn]
  exact (hk _).sim B w v es ev hp
 ·
  show Fin B P _ es ((k (w.shape? r)).runT P w es) ((k (v.shape? r)).runT P v ev)
  rw[shape_same hp hr]
  exact (hk _).sim B w v es ev hp
def looked (f:Obj->Option α) (r:Nat) (w:World) (es:Array Event):Result (Option α) × Array Event :=
 match w.heap[r]? with
 | some (.cells _ _ _)=>(.ok none w,es)
 | some o=>(.ok (f o) w,es.push ⟨.obj r,false,o.isChan⟩)
 | none => (.halt (.stuck "getObj: no such block") w, es)
theorem fine_look {s:Sem (Option α)} {r:Nat} (f:Obj->Option α) (hf:f poison=none) (hrun:∀ w es,s.runT P w es=looked f r w es):fine P s:=by
 refine⟨fun B w v es ev hp=>?_,fun w es=>?_⟩
 ·
  rw[hrun,hrun]
  unfold looked
  by_cases hr:B r
  ·
   obtain⟨h1,c,e,h2,_⟩:=hp.bad r hr
   rw[h1,h2]
   exact⟨w,#[],by rw[hf];simp,hp,Nat.le_refl _,by simp⟩
  ·
   rw[hp.heap r hr]
   cases ho:w.heap[r]? with
   | none=>exact trivial
   | some o =>
    have hlt:=lt_of_get ho
    cases o with
    | cells c e z=>exact⟨w,#[],by simp,hp,Nat.le_refl _,by simp⟩
    | _=>exact⟨w,#[⟨.obj r,false,_⟩],congrArg (Prod.mk (Result.ok _ w)) Array.push_eq_append,hp,Nat.le_refl _,fun e he=>by simp at he;subst he;exact⟨hr,hlt⟩⟩
 ·
  refine⟨0,?_,?_,fun t d _=>?_⟩
  ·
   dsimp only;rw[hrun];unfold looked;cases w.heap[r]? with
   | none=>rfl
   | some o=>cases o<;>rfl
  ·
   dsimp only;rw[hrun];unfold looked;cases w.heap[r]? with
   | none=>rfl
   | some o=>cases o<;>rfl
  ·
   dsimp only
   rw[hrun,hrun]
   unfold looked
   rw[show (on w t d).heap[r]?=w.heap[r]? from rfl]
   cases w.heap[r]? with
   | none=>rfl
   | some o=>cases o<;>rfl
theorem fine_viewAt (r : Nat) : fine P (viewAt r) := by
  refine fine_look (r := r) (fun | .view a t => some (a, t) | _ => none) rfl (fun w es => ?_)
  unfold viewAt looked
  rw [runT_bind]
  rw [show (shape r).runT P w es = (.ok (w.shape? r) w, es) from rfl]
  dsimp only
  unfold World.shape?
  cases ho : w.heap[r]? with
  | none =>
    simp only [Option.isSome_none, Bool.false_eq_true, if_false]
    rw [runT_bind]
    simp only [getObj, Sem.runT, ho]
  | some o =>
    cases o <;> first
      | rfl
      | (simp only [Option.isSome_none, Bool.false_eq_true, if_false]
         rw [runT_bind]
         simp only [getObj, Sem.runT, ho]
         rfl)
theorem fine_numberAt (r : Nat) : fine P (numberAt r) := by
  refine fine_look (r := r) (fun | .number a t => some (a, t) | _ => none) rfl (fun w es => ?_)
  unfold numberAt looked
  rw [runT_bind]
  rw [show (shape r).runT P w es = (.ok (w.shape? r) w, es) from rfl]
  dsimp only
  unfold World.shape?
  cases ho : w.heap[r]? with
  | none =>
    simp only [Option.isSome_none, Bool.false_eq_true, if_false]
    rw [runT_bind]
    simp only [getObj, Sem.runT, ho]
  | some o =>
    cases o <;> first
      | rfl
      | (simp only [Option.isSome_none, Bool.false_eq_true, if_false]
         rw [runT_bind]
         simp only [getObj, Sem.runT, ho]
         rfl)
end
end Go.Proofs.YtkeapmmochpcfaaGreat.Nf
namespace Go.Proofs.YtkeapmmochpcfaaGreat.Nf
open Go
section
variable {P : Program}
theorem fine_typeInfo (t:TypeId):fine P (typeInfo t):=by
 unfold typeInfo
 (repeat' first
  | with_reducible exact fine_pure _
  | with_reducible exact fine_stuck _
  | with_reducible exact fine_program
  | (with_reducible assumption)
  | (refine fine_bind ?_ (fun _=>?_))
  | (refine fine_map ?_)
  | (refine fine_ite (fun _=>?_) (fun _=>?_))
  | split
  | (dsimp only)
  | exact fine_pure _)
theorem fine_underlying (t:TypeId):fine P (underlying t):=by
 unfold underlying
 (repeat' first
  | with_reducible exact fine_pure _
  | with_reducible exact fine_stuck _
  | with_reducible exact fine_program
  | (with_reducible assumption)
  | (refine fine_bind ?_ (fun _=>?_))
  | (refine fine_map ?_)
  | (refine fine_ite (fun _=>?_) (fun _=>?_))
  | split
  | (dsimp only)
  | exact fine_pure _)
theorem fine_sizeOf (t:TypeId):fine P (Go.sizeOf t):=by
 unfold Go.sizeOf
 (repeat' first
  | with_reducible exact fine_pure _
  | with_reducible exact fine_typeInfo _
  | (with_reducible assumption)
  | (refine fine_bind ?_ (fun _=>?_))
  | (refine fine_map ?_)
  | (refine fine_ite (fun _=>?_) (fun _=>?_))
  | split
  | (dsimp only)
  | exact fine_pure _)
theorem fine_isAgg (t:TypeId):fine P (isAgg t):=by
 unfold isAgg
 (repeat' first
  | with_reducible exact fine_pure _
  | with_reducible exact fine_underlying _
  | (with_reducible assumption)
  | (refine fine_bind ?_ (fun _=>?_))
  | (refine fine_map ?_)
  | (refine fine_ite (fun _=>?_) (fun _=>?_))
  | split
  | (dsimp only)
  | exact fine_pure _)
theorem fine_elemOf (t:TypeId):fine P (elemOf t):=by
 unfold elemOf
 (repeat' first
  | with_reducible exact fine_pure _
  | with_reducible exact fine_stuck _
  | with_reducible exact fine_underlying _
  | (with_reducible assumption)
  | (refine fine_bind ?_ (fun _=>?_))
  | (refine fine_map ?_)
  | (refine fine_ite (fun _=>?_) (fun _=>?_))
  | split
  | (dsimp only)
  | exact fine_pure _)
theorem fine_newRow (t:TypeId) (cs:Array Value):fine P (newRow t cs):=by
 unfold newRow
 (repeat' first
  | with_reducible exact fine_pure _
  | with_reducible exact fine_new _
  | (with_reducible assumption)
  | (refine fine_bind ?_ (fun _=>?_))
  | (refine fine_map ?_)
  | (refine fine_ite (fun _=>?_) (fun _=>?_))
  | split
  | (dsimp only)
  | exact fine_pure _)
theorem fine_newVar (t:TypeId) (v:Value):fine P (newVar t v):=by
 unfold newVar
 (repeat' first
  | with_reducible exact fine_newRow _ _
  | (with_reducible assumption)
  | (refine fine_bind ?_ (fun _=>?_))
  | (refine fine_map ?_)
  | (refine fine_ite (fun _=>?_) (fun _=>?_))
  | split
  | (dsimp only))
theorem fine_runtimePanic {α:Type} (e:RuntimeError):fine P (runtimePanic e:Sem α):=by
 unfold runtimePanic
 refine fine_prog ?_
 have key:∀ t x,t∈rtTs P->fine P (goPanic (.iface t x):Sem α):=fun t x h=>fine_halt ⟨t,x,rfl,h⟩
 cases e with
 | typeAssertion i c a x=>exact fine_bind (fine_elemOf _) (fun _=>fine_bind (fine_newVar _ _) (fun _=>key _ _ (by simp[rtTs])))
 | panicNil=>exact fine_bind (fine_elemOf _) (fun _=>fine_bind (fine_newVar _ _) (fun _=>key _ _ (by simp[rtTs])))
 | _=>exact key _ _ (by simp[rtTs])
theorem fine_boundsPanic {α:Type} (k:IntKind) (x y:Int) (c:BoundsCode):fine P (boundsPanic k x y c:Sem α):=by
 unfold boundsPanic
 (repeat' first
  | with_reducible exact fine_pure _
  | with_reducible exact fine_choose _
  | with_reducible exact fine_runtimePanic _
  | (with_reducible assumption)
  | (refine fine_bind ?_ (fun _=>?_))
  | (refine fine_map ?_)
  | (refine fine_ite (fun _=>?_) (fun _=>?_))
  | split
  | (dsimp only)
  | exact fine_pure _)
theorem fine_asIntOf (v:Value):fine P (asIntOf v):=by
 unfold asIntOf
 (repeat' first
  | with_reducible exact fine_pure _
  | with_reducible exact fine_stuck _
  | with_reducible exact fine_unsup _
  | (with_reducible assumption)
  | (refine fine_bind ?_ (fun _=>?_))
  | (refine fine_map ?_)
  | (refine fine_ite (fun _=>?_) (fun _=>?_))
  | split
  | (dsimp only)
  | exact fine_pure _)
theorem fine_asInt (v:Value):fine P (asInt v):=by
 unfold asInt
 (repeat' first
  | with_reducible exact fine_pure _
  | with_reducible exact fine_asIntOf _
  | (with_reducible assumption)
  | (refine fine_bind ?_ (fun _=>?_))
  | (refine fine_map ?_)
  | (refine fine_ite (fun _=>?_) (fun _=>?_))
  | split
  | (dsimp only)
  | exact fine_pure _)
theorem fine_asBool (v:Value):fine P (asBool v):=by
 unfold asBool
 (repeat' first
  | with_reducible exact fine_pure _
  | with_reducible exact fine_stuck _
  | (with_reducible assumption)
  | (refine fine_bind ?_ (fun _=>?_))
  | (refine fine_map ?_)
  | (refine fine_ite (fun _=>?_) (fun _=>?_))
  | split
  | (dsimp only)
  | exact fine_pure _)
theorem fine_asAgg (v:Value):fine P (asAgg v):=by
 unfold asAgg
 (repeat' first
  | with_reducible exact fine_pure _
  | with_reducible exact fine_stuck _
  | (with_reducible assumption)
  | (refine fine_bind ?_ (fun _=>?_))
  | (refine fine_map ?_)
  | (refine fine_ite (fun _=>?_) (fun _=>?_))
  | split
  | (dsimp only)
  | exact fine_pure _)
theorem fine_asAddr (v:Value):fine P (asAddr v):=by
 unfold asAddr
 (repeat' first
  | with_reducible exact fine_pure _
  | with_reducible exact fine_stuck _
  | with_reducible exact fine_runtimePanic _
  | (with_reducible assumption)
  | (refine fine_bind ?_ (fun _=>?_))
  | (refine fine_map ?_)
  | (refine fine_ite (fun _=>?_) (fun _=>?_))
  | split
  | (dsimp only)
  | exact fine_pure _)
theorem fine_sureAddr (v:Value):fine P (Instr.sureAddr v):=by
 unfold Instr.sureAddr
 (repeat' first
  | with_reducible exact fine_pure _
  | with_reducible exact fine_stuck _
  | (with_reducible assumption)
  | (refine fine_bind ?_ (fun _=>?_))
  | (refine fine_map ?_)
  | (refine fine_ite (fun _=>?_) (fun _=>?_))
  | split
  | (dsimp only)
  | exact fine_pure _)
theorem fine_loadCellsFrom (a:Addr):∀ (c i:Nat) (acc:Array Value),fine P (loadCellsFrom a i c acc)
 | 0,i,acc=>by unfold loadCellsFrom;exact fine_pure _
 | c+1,i,acc=>by
  unfold loadCellsFrom
  exact fine_bind (fine_load _ _) (fun v=>fine_loadCellsFrom a c (i+1) (acc.push v))
theorem fine_loadCells (a:Addr) (c:Nat):fine P (loadCells a c):=fine_loadCellsFrom a c 0 #[]
theorem fine_storeCells (a:Addr):∀ (vs:List Value) (i:Nat),fine P (storeCells a vs i)
 | [],i=>by unfold storeCells;exact fine_pure _
 | v::vs,i=>by
  unfold storeCells
  exact fine_bind (fine_store _ _ _) (fun _=>fine_storeCells a vs (i+1))
theorem fine_loadVar (t:TypeId) (a:Addr):fine P (loadVar t a):=by
 unfold loadVar
 (repeat' first
  | with_reducible exact fine_pure _
  | with_reducible exact fine_load _ _
  | with_reducible exact fine_sizeOf _
  | with_reducible exact fine_isAgg _
  | with_reducible exact fine_loadCells _ _
  | (with_reducible assumption)
  | (refine fine_bind ?_ (fun _=>?_))
  | (refine fine_map ?_)
  | (refine fine_ite (fun _=>?_) (fun _=>?_))
  | split
  | (dsimp only)
  | exact fine_pure _)
theorem fine_storeVar (t:TypeId) (a:Addr) (v:Value):fine P (storeVar t a v):=by
 unfold storeVar
 (repeat' first
  | with_reducible exact fine_stuck _
  | with_reducible exact fine_sizeOf _
  | with_reducible exact fine_storeCells _ _ _
  | (with_reducible assumption)
  | (refine fine_bind ?_ (fun _=>?_))
  | (refine fine_map ?_)
  | (refine fine_ite (fun _=>?_) (fun _=>?_))
  | split
  | (dsimp only))
theorem fine_part (t:TypeId) (cs:Array Value) (off:Nat):fine P (part t cs off):=by
 unfold part
 (repeat' first
  | with_reducible exact fine_pure _
  | with_reducible exact fine_stuck _
  | with_reducible exact fine_sizeOf _
  | with_reducible exact fine_isAgg _
  | (with_reducible assumption)
  | (refine fine_bind ?_ (fun _=>?_))
  | (refine fine_map ?_)
  | (refine fine_ite (fun _=>?_) (fun _=>?_))
  | split
  | (dsimp only)
  | exact fine_pure _)
theorem fine_zeroValue (t:TypeId):fine P (zeroValue t):=by
 unfold zeroValue
 (repeat' first
  | with_reducible exact fine_pure _
  | with_reducible exact fine_unsup _
  | with_reducible exact fine_typeInfo _
  | (with_reducible assumption)
  | (refine fine_bind ?_ (fun _=>?_))
  | (refine fine_map ?_)
  | (refine fine_ite (fun _=>?_) (fun _=>?_))
  | split
  | (dsimp only)
  | exact fine_pure _)
theorem fine_alloc (t:TypeId) (b:Bool) (v:Value):fine P (Instr.alloc t b v):=by
 unfold Instr.alloc
 (repeat' first
  | with_reducible exact fine_pure _
  | with_reducible exact fine_newVar _ _
  | with_reducible exact fine_storeVar _ _ _
  | with_reducible exact fine_zeroValue _
  | (with_reducible assumption)
  | (refine fine_bind ?_ (fun _=>?_))
  | (refine fine_map ?_)
  | (refine fine_ite (fun _=>?_) (fun _=>?_))
  | split
  | (dsimp only)
  | exact fine_pure _)
theorem fine_box (t:TypeId) (v:Value):fine P (Instr.box t v):=by
 unfold Instr.box
 (repeat' first
  | with_reducible exact fine_pure _
  | with_reducible exact fine_newVar _ _
  | (with_reducible assumption)
  | (refine fine_bind ?_ (fun _=>?_))
  | (refine fine_map ?_)
  | (refine fine_ite (fun _=>?_) (fun _=>?_))
  | split
  | (dsimp only)
  | exact fine_pure _)
theorem fine_mapM {α β:Type} {f:α->Sem β} (h:∀ a,fine P (f a)) (l:Array α):fine P (l.mapM f):=by
 have key:∀ l:List α,fine P (l.mapM f):=by
  intro l
  induction l with
  | nil=>rw[List.mapM_nil];exact fine_pure _
  | cons a l ih =>
   rw[List.mapM_cons]
   exact fine_bind (h a) (fun _=>fine_bind ih (fun _=>fine_pure _))
 rw[Array.mapM_eq_mapM_toList]
 exact fine_map (key l.toList)
theorem fine_build (t:TypeId) (parts:Array (Nat × Value)):fine P (Instr.build t parts):=by
 unfold Instr.build
 (repeat' first
  | with_reducible exact fine_pure _
  | with_reducible exact fine_stuck _
  | with_reducible exact fine_underlying _
  | with_reducible exact fine_sizeOf _
  | with_reducible exact fine_zeroValue _
  | (refine fine_mapM (fun _=>?_) _)
  | (with_reducible assumption)
  | (refine fine_bind ?_ (fun _=>?_))
  | (refine fine_map ?_)
  | (refine fine_ite (fun _=>?_) (fun _=>?_))
  | split
  | (dsimp only)
  | exact fine_pure _)
theorem fine_extract (v:Value) (i:Nat):fine P (Instr.extract v i):=by
 unfold Instr.extract
 (repeat' first
  | with_reducible exact fine_pure _
  | with_reducible exact fine_stuck _
  | (with_reducible assumption)
  | (refine fine_bind ?_ (fun _=>?_))
  | (refine fine_map ?_)
  | (refine fine_ite (fun _=>?_) (fun _=>?_))
  | split
  | (dsimp only)
  | exact fine_pure _)
theorem fine_field (t:TypeId) (v:Value) (i:Nat):fine P (Instr.field t v i):=by
 unfold Instr.field
 (repeat' first
  | with_reducible exact fine_stuck _
  | with_reducible exact fine_underlying _
  | with_reducible exact fine_asAgg _
  | with_reducible exact fine_part _ _ _
  | (with_reducible assumption)
  | (refine fine_bind ?_ (fun _=>?_))
  | (refine fine_map ?_)
  | (refine fine_ite (fun _=>?_) (fun _=>?_))
  | split
  | (dsimp only))
theorem fine_loadAt (t:TypeId) (v:Value):fine P (Instr.loadAt t v):=by
 unfold Instr.loadAt
 (repeat' first
  | with_reducible exact fine_sureAddr _
  | with_reducible exact fine_loadVar _ _
  | (with_reducible assumption)
  | (refine fine_bind ?_ (fun _=>?_))
  | (refine fine_map ?_)
  | (refine fine_ite (fun _=>?_) (fun _=>?_))
  | split
  | (dsimp only))
theorem fine_storeAt (t:TypeId) (v x:Value):fine P (Instr.storeAt t v x):=by
 unfold Instr.storeAt
 (repeat' first
  | with_reducible exact fine_sureAddr _
  | with_reducible exact fine_storeVar _ _ _
  | (with_reducible assumption)
  | (refine fine_bind ?_ (fun _=>?_))
  | (refine fine_map ?_)
  | (refine fine_ite (fun _=>?_) (fun _=>?_))
  | split
  | (dsimp only))
theorem fine_noView (a:Addr):fine P (noView a):=by
 unfold noView
 (repeat' first
  | with_reducible exact fine_pure _
  | with_reducible exact fine_unsup _
  | with_reducible exact fine_viewAt _
  | (with_reducible assumption)
  | (refine fine_bind ?_ (fun _=>?_))
  | (refine fine_map ?_)
  | (refine fine_ite (fun _=>?_) (fun _=>?_))
  | split
  | (dsimp only)
  | exact fine_pure _)
theorem fine_byteOf (a:Addr):fine P (byteOf a):=by
 unfold byteOf
 (repeat' first
  | with_reducible exact fine_pure _
  | with_reducible exact fine_stuck _
  | with_reducible exact fine_program
  | with_reducible exact fine_noView _
  | (refine fine_shapeH (fun _=>?_) rfl trivial)
  | (with_reducible assumption)
  | (refine fine_bind ?_ (fun _=>?_))
  | (refine fine_map ?_)
  | (refine fine_ite (fun _=>?_) (fun _=>?_))
  | split
  | (dsimp only)
  | exact fine_pure _)
theorem fine_partAt (a:Addr) (c b:Nat):fine P (partAt a c b):=by
 unfold partAt
 (repeat' first
  | with_reducible exact fine_pure _
  | with_reducible exact fine_byteOf _
  | (with_reducible assumption)
  | (refine fine_bind ?_ (fun _=>?_))
  | (refine fine_map ?_)
  | (refine fine_ite (fun _=>?_) (fun _=>?_))
  | split
  | (dsimp only)
  | exact fine_pure _)
theorem fine_fieldPlace (a:Addr) (f:Field):fine P (fieldPlace a f):=by
 unfold fieldPlace
 (repeat' first
  | with_reducible exact fine_pure _
  | with_reducible exact fine_sizeOf _
  | with_reducible exact fine_partAt _ _ _
  | (with_reducible assumption)
  | (refine fine_bind ?_ (fun _=>?_))
  | (refine fine_map ?_)
  | (refine fine_ite (fun _=>?_) (fun _=>?_))
  | split
  | (dsimp only)
  | exact fine_pure _)
theorem fine_fieldAt (t:TypeId) (v:Value) (i:Nat):fine P (Instr.fieldAt t v i):=by
 unfold Instr.fieldAt
 (repeat' first
  | with_reducible exact fine_pure _
  | with_reducible exact fine_stuck _
  | with_reducible exact fine_underlying _
  | with_reducible exact fine_sureAddr _
  | with_reducible exact fine_fieldPlace _ _
  | (with_reducible assumption)
  | (refine fine_bind ?_ (fun _=>?_))
  | (refine fine_map ?_)
  | (refine fine_ite (fun _=>?_) (fun _=>?_))
  | split
  | (dsimp only)
  | exact fine_pure _)
theorem fine_indexAt (t:TypeId) (v i:Value):fine P (Instr.indexAt t v i):=by
 unfold Instr.indexAt
 (repeat' first
  | with_reducible exact fine_pure _
  | with_reducible exact fine_stuck _
  | with_reducible exact fine_unsup _
  | with_reducible exact fine_underlying _
  | with_reducible exact fine_sizeOf _
  | with_reducible exact fine_boundsPanic _ _ _ _
  | with_reducible exact fine_asIntOf _
  | with_reducible exact fine_sureAddr _
  | (with_reducible assumption)
  | (refine fine_bind ?_ (fun _=>?_))
  | (refine fine_map ?_)
  | (refine fine_ite (fun _=>?_) (fun _=>?_))
  | split
  | (dsimp only)
  | exact fine_pure _)
theorem fine_index (t:TypeId) (v i:Value):fine P (Instr.index t v i):=by
 unfold Instr.index
 (repeat' first
  | with_reducible exact fine_pure _
  | with_reducible exact fine_stuck _
  | with_reducible exact fine_underlying _
  | with_reducible exact fine_sizeOf _
  | with_reducible exact fine_boundsPanic _ _ _ _
  | with_reducible exact fine_asIntOf _
  | with_reducible exact fine_part _ _ _
  | (with_reducible assumption)
  | (refine fine_bind ?_ (fun _=>?_))
  | (refine fine_map ?_)
  | (refine fine_ite (fun _=>?_) (fun _=>?_))
  | split
  | (dsimp only)
  | exact fine_pure _)
end
end Go.Proofs.YtkeapmmochpcfaaGreat.Nf
