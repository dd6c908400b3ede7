/- Goroutines: QFz6. -/
import Derived.Test.YtkeapmmochpcfaaGreatBun8
set_option maxRecDepth 100000
set_option maxHeartbeats 32000000
set_option linter.unusedVariables false
set_option linter.unusedSectionVars false
namespace Go.Proofs.YtkeapmmochpcfaaGreat.Nf
open Go
section
variable {P : Program}
theorem fine_forInL {α β:Type} {f:α->β->Sem (ForInStep β)} (h:∀ a b,fine P (f a b)):∀ (l:List α) (b:β),fine P (forIn l b f)
 | [],b=>by rw[List.forIn_nil];exact fine_pure _
 | a::l,b=>by
  rw[List.forIn_cons]
  refine fine_bind (h a b) (fun s=>?_)
  cases s with
  | done b=>exact fine_pure _
  | yield b=>exact fine_forInL h l b
theorem fine_forIn {α β:Type} {f:α->β->Sem (ForInStep β)} (h:∀ a b,fine P (f a b)) (l:Array α) (b:β):fine P (forIn l b f):=by
 rw[<- Array.forIn_toList]
 exact fine_forInL h l.toList b
theorem fine_forInR {β:Type} {f:Nat->β->Sem (ForInStep β)} (h:∀ a b,fine P (f a b)) (r:Std.Legacy.Range) (b:β):fine P (forIn r b f):=by
 rw[Std.Legacy.Range.forIn_eq_forIn_range']
 exact fine_forInL h _ b
theorem fine_buildSlice (t:TypeId) (len:Nat) (parts:Array (Nat × Value)):fine P (Instr.buildSlice t len parts):=by
 unfold Instr.buildSlice
 (repeat' first
  | with_reducible exact fine_pure _
  | with_reducible exact fine_stuck _
  | with_reducible exact fine_unsup _
  | with_reducible exact fine_underlying _
  | with_reducible exact fine_sizeOf _
  | with_reducible exact fine_newRow _ _
  | with_reducible exact fine_zeroValue _
  | (with_reducible assumption)
  | (refine fine_bind ?_ (fun _=>?_))
  | (refine fine_map ?_)
  | (refine fine_ite (fun _=>?_) (fun _=>?_))
  | split
  | (dsimp only)
  | exact fine_pure _)
theorem fine_askRoom (b:Nat):fine P (askRoom b):=by
 unfold askRoom
 (repeat' first
  | with_reducible exact fine_pure _
  | with_reducible exact fine_mark trivial
  | exact fine_mark trivial
  | (with_reducible assumption)
  | (refine fine_bind ?_ (fun _=>?_))
  | (refine fine_map ?_)
  | (refine fine_ite (fun _=>?_) (fun _=>?_))
  | split
  | (dsimp only)
  | exact fine_pure _)
theorem fine_makeSlice (t:TypeId) (len cap:Value):fine P (Instr.makeSlice t len cap):=by
 unfold Instr.makeSlice
 (repeat' first
  | with_reducible exact fine_pure _
  | with_reducible exact fine_stuck _
  | with_reducible exact fine_choose _
  | with_reducible exact fine_typeInfo _
  | with_reducible exact fine_underlying _
  | with_reducible exact fine_sizeOf _
  | with_reducible exact fine_newRow _ _
  | with_reducible exact fine_runtimePanic _
  | with_reducible exact fine_asInt _
  | with_reducible exact fine_zeroValue _
  | with_reducible exact fine_askRoom _
  | (with_reducible assumption)
  | (refine fine_bind ?_ (fun _=>?_))
  | (refine fine_map ?_)
  | (refine fine_ite (fun _=>?_) (fun _=>?_))
  | split
  | (dsimp only)
  | exact fine_pure _)
theorem fine_sliceBound (x:Value) (y:Nat) (c:BoundsCode):fine P (Instr.sliceBound x y c):=by
 unfold Instr.sliceBound
 (repeat' first
  | with_reducible exact fine_pure _
  | with_reducible exact fine_boundsPanic _ _ _ _
  | with_reducible exact fine_asIntOf _
  | (with_reducible assumption)
  | (refine fine_bind ?_ (fun _=>?_))
  | (refine fine_map ?_)
  | (refine fine_ite (fun _=>?_) (fun _=>?_))
  | split
  | (dsimp only)
  | exact fine_pure _)
theorem fine_sliceBounds (b:Bool) (len cap:Nat) (lo hi mx:Option Value):fine P (Instr.sliceBounds b len cap lo hi mx):=by
 unfold Instr.sliceBounds
 (repeat' first
  | with_reducible exact fine_pure _
  | with_reducible exact fine_stuck _
  | with_reducible exact fine_sliceBound _ _ _
  | (with_reducible assumption)
  | (refine fine_bind ?_ (fun _=>?_))
  | (refine fine_map ?_)
  | (refine fine_ite (fun _=>?_) (fun _=>?_))
  | split
  | (dsimp only)
  | exact fine_pure _)
theorem fine_slice (t:TypeId) (v:Value) (lo hi mx:Option Value):fine P (Instr.slice t v lo hi mx):=by
 unfold Instr.slice
 (repeat' first
  | with_reducible exact fine_pure _
  | with_reducible exact fine_stuck _
  | with_reducible exact fine_underlying _
  | with_reducible exact fine_sizeOf _
  | with_reducible exact fine_asAddr _
  | with_reducible exact fine_sliceBounds _ _ _ _ _ _
  | (with_reducible assumption)
  | (refine fine_bind ?_ (fun _=>?_))
  | (refine fine_map ?_)
  | (refine fine_ite (fun _=>?_) (fun _=>?_))
  | split
  | (dsimp only)
  | exact fine_pure _)
theorem fine_sliceAt (t:TypeId) (v:Value) (lo hi mx:Option Value):fine P (Instr.sliceAt t v lo hi mx):=by
 unfold Instr.sliceAt
 (repeat' first
  | with_reducible exact fine_pure _
  | with_reducible exact fine_underlying _
  | with_reducible exact fine_sizeOf _
  | with_reducible exact fine_sureAddr _
  | with_reducible exact fine_sliceBounds _ _ _ _ _ _
  | with_reducible exact fine_slice _ _ _ _ _
  | (with_reducible assumption)
  | (refine fine_bind ?_ (fun _=>?_))
  | (refine fine_map ?_)
  | (refine fine_ite (fun _=>?_) (fun _=>?_))
  | split
  | (dsimp only)
  | exact fine_pure _)
theorem fine_makeInterface (t:TypeId) (v:Value):fine P (Instr.makeInterface t v):=by
 unfold Instr.makeInterface
 (repeat' first
  | with_reducible exact fine_pure _
  | with_reducible exact fine_stuck _
  | with_reducible exact fine_underlying _
  | (with_reducible assumption)
  | (refine fine_bind ?_ (fun _=>?_))
  | (refine fine_map ?_)
  | (refine fine_ite (fun _=>?_) (fun _=>?_))
  | split
  | (dsimp only)
  | exact fine_pure _)
theorem fine_typeAssert (v:Value) (x a:TypeId) (c:Bool):fine P (Instr.typeAssert v x a c):=by
 unfold Instr.typeAssert
 (repeat' first
  | with_reducible exact fine_pure _
  | with_reducible exact fine_stuck _
  | with_reducible exact fine_typeInfo _
  | with_reducible exact fine_underlying _
  | with_reducible exact fine_runtimePanic _
  | with_reducible exact fine_zeroValue _
  | (with_reducible assumption)
  | (refine fine_bind ?_ (fun _=>?_))
  | (refine fine_map ?_)
  | (refine fine_ite (fun _=>?_) (fun _=>?_))
  | split
  | (dsimp only)
  | exact fine_pure _)
theorem fine_behindNumber (a:Addr):fine P (behindNumber a):=by
 unfold behindNumber
 (repeat' first
  | with_reducible exact fine_pure _
  | with_reducible exact fine_numberAt _
  | (with_reducible assumption)
  | (refine fine_bind ?_ (fun _=>?_))
  | (refine fine_map ?_)
  | (refine fine_ite (fun _=>?_) (fun _=>?_))
  | split
  | (dsimp only)
  | exact fine_pure _)
theorem fine_stringish (a:Addr):fine P (stringish a):=by
 unfold stringish
 refine fine_bind (fine_frozen a) (fun b=>?_)
 split
 ·
  exact fine_pure _
 ·
  have hk:∀ s:Option (TypeId × Nat),fine P (match s with | some (_,n)=>frozen { block:=a.block,off:=n } | none=>pure false:Sem Bool):=by
   intro s
   (repeat' first
  | with_reducible exact fine_pure _
  | with_reducible exact fine_frozen _
  | (with_reducible assumption)
  | (refine fine_bind ?_ (fun _=>?_))
  | (refine fine_map ?_)
  | (refine fine_ite (fun _=>?_) (fun _=>?_))
  | split
  | (dsimp only)
  | exact fine_pure _)
  refine⟨fun B w v es ev hp=>?_,fun w es=>(hk (w.shape? a.block)).drew w es⟩
  by_cases hr:B a.block
  ·
   obtain⟨_,c,e,hc,_⟩:=hp.bad _ hr
   show Fin B P _ es _ ((match v.shape? a.block with | some (_,n)=>frozen { block:=a.block,off:=n } | none=>pure false:Sem Bool).runT P v ev)
   rw[shape_bad hp hr]
   refine⟨w,#[],?_,?_,Nat.le_refl _,by simp⟩
   ·
    show (match w.shape? a.block with | some (_,n)=>frozen { block:=a.block,off:=n } | none=>pure false:Sem Bool).runT P w es=_
    have e1:w.shape? a.block=some (e,c.size):=by unfold World.shape?;rw[hc]
    have e2:w.frozen? { block:=a.block,off:=c.size }=false:=by unfold World.frozen?;simp[hc]
    rw[e1]
    show (Result.ok (w.frozen? { block:=a.block,off:=c.size }) w,es)=_
    rw[e2,Array.append_empty]
   ·
    exact hp
  ·
   show Fin B P _ es ((match w.shape? a.block with | some (_,n)=>frozen { block:=a.block,off:=n } | none=>pure false:Sem Bool).runT P w es) ((match v.shape? a.block with | some (_,n)=>frozen { block:=a.block,off:=n } | none=>pure false:Sem Bool).runT P v ev)
   rw[shape_same hp hr]
   exact (hk _).sim B w v es ev hp
theorem fine_mayBeOne (a b:Addr):fine P (mayBeOne a b):=by
 unfold mayBeOne
 have hn:∀ x:Addr,fine P (do pure ((<- shape x.block) matches some (_,0)):Sem Bool):=by
  intro x
  refine fine_shapeE (fun s=>fine_pure _) (fun e n hn=>?_)
  cases n with
  | zero=>omega
  | succ n=>rfl
 exact fine_bind (fine_stringish a) (fun _=>fine_bind (fine_stringish b) (fun _=>fine_bind (hn a) (fun _=>fine_bind (hn b) (fun _=>fine_pure _))))
theorem fine_sameAddr (a b:Addr):fine P (sameAddr a b):=by
 unfold sameAddr
 (repeat' first
  | with_reducible exact fine_pure _
  | with_reducible exact fine_unsup _
  | with_reducible exact fine_choose _
  | with_reducible exact fine_frozen _
  | with_reducible exact fine_noView _
  | with_reducible exact fine_mayBeOne _ _
  | (with_reducible assumption)
  | (refine fine_bind ?_ (fun _=>?_))
  | (refine fine_map ?_)
  | (refine fine_ite (fun _=>?_) (fun _=>?_))
  | split
  | (dsimp only)
  | exact fine_pure _)
theorem fine_samePointer (a b:Option Addr):fine P (samePointer a b):=by
 unfold samePointer
 (repeat' first
  | with_reducible exact fine_pure _
  | with_reducible exact fine_sameAddr _ _
  | (with_reducible assumption)
  | (refine fine_bind ?_ (fun _=>?_))
  | (refine fine_map ?_)
  | (refine fine_ite (fun _=>?_) (fun _=>?_))
  | split
  | (dsimp only)
  | exact fine_pure _)
theorem fine_typeStr (t:TypeId):fine P (typeStr t):=by
 unfold typeStr
 (repeat' first
  | with_reducible exact fine_pure _
  | with_reducible exact fine_unsup _
  | with_reducible exact fine_typeInfo _
  | (with_reducible assumption)
  | (refine fine_bind ?_ (fun _=>?_))
  | (refine fine_map ?_)
  | (refine fine_ite (fun _=>?_) (fun _=>?_))
  | split
  | (dsimp only)
  | exact fine_pure _)
theorem fine_equalIn:∀ (d:Nat) (t:TypeId) (x y:Value),fine P (Op.equalIn d t x y)
 | 0,t,x,y=>by unfold Op.equalIn;exact fine_unsup _
 | d+1,t,x,y=>by
  have IH:=fun t x y=>fine_equalIn d t x y
  unfold Op.equalIn
  (repeat' first
  | with_reducible exact fine_pure _
  | with_reducible exact fine_stuck _
  | with_reducible exact fine_unsup _
  | with_reducible exact fine_choose _
  | with_reducible exact fine_program
  | with_reducible exact fine_typeInfo _
  | with_reducible exact fine_underlying _
  | with_reducible exact fine_sizeOf _
  | with_reducible exact fine_runtimePanic _
  | with_reducible exact fine_part _ _ _
  | with_reducible exact fine_byteOf _
  | with_reducible exact fine_behindNumber _
  | with_reducible exact fine_sameAddr _ _
  | with_reducible exact fine_samePointer _ _
  | with_reducible exact fine_typeStr _
  | (refine fine_forIn (fun _ _=>?_) _ _)
  | (refine fine_forInR (fun _ _=>?_) _ _)
  | with_reducible exact IH _ _ _
  | (with_reducible assumption)
  | (refine fine_bind ?_ (fun _=>?_))
  | (refine fine_map ?_)
  | (refine fine_ite (fun _=>?_) (fun _=>?_))
  | split
  | (dsimp only)
  | exact fine_pure _)
theorem fine_eqGuardIn:∀ (d:Nat) (t:TypeId) (x y:Value),fine P (Op.eqGuardIn d t x y)
 | 0,t,x,y=>by unfold Op.eqGuardIn;exact fine_unsup _
 | d+1,t,x,y=>by
  have IH:=fun t x y=>fine_eqGuardIn d t x y
  unfold Op.eqGuardIn
  (repeat' first
  | with_reducible exact fine_pure _
  | with_reducible exact fine_unsup _
  | with_reducible exact fine_underlying _
  | with_reducible exact fine_sizeOf _
  | with_reducible exact fine_part _ _ _
  | (refine fine_forIn (fun _ _=>?_) _ _)
  | (refine fine_forInR (fun _ _=>?_) _ _)
  | with_reducible exact IH _ _ _
  | (with_reducible assumption)
  | (refine fine_bind ?_ (fun _=>?_))
  | (refine fine_map ?_)
  | (refine fine_ite (fun _=>?_) (fun _=>?_))
  | split
  | (dsimp only)
  | exact fine_pure _)
theorem fine_eqGuard (op:BinOp) (t:TypeId) (x y:Operand) (a b:Value):fine P (eqGuard op t x y a b):=by
 unfold eqGuard
 (repeat' first
  | with_reducible exact fine_pure _
  | with_reducible exact fine_unsup _
  | with_reducible exact fine_program
  | with_reducible exact fine_eqGuardIn _ _ _ _
  | (with_reducible assumption)
  | (refine fine_bind ?_ (fun _=>?_))
  | (refine fine_map ?_)
  | (refine fine_ite (fun _=>?_) (fun _=>?_))
  | split
  | (dsimp only)
  | exact fine_pure _)
end
end Go.Proofs.YtkeapmmochpcfaaGreat.Nf
namespace Go.Proofs.YtkeapmmochpcfaaGreat.Nf
open Go
section
variable {P : Program}
theorem fine_getObjH {α:Type} {r:Nat} {k:Obj->Sem α} (hk:∀ o,fine P (k o)) {h:Halt} (h0:k poison=.halt h) (hh:okH P h):fine P (getObj r >>= k):=by
 have hrun:∀ w es,(getObj r >>= k).runT P w es=match w.heap[r]? with
   | some (.cells _ _ _) => (.halt (.stuck "getObj: a row of cells") w, es)
   | some o=>(k o).runT P w (es.push ⟨.obj r,false,o.isChan⟩)
   | none => (.halt (.stuck "getObj: no such block") w, es) := by
  intro w es
  show Sem.runT P (.getObj r fun o=>k o) w es=_
  simp only[Sem.runT]
  cases w.heap[r]? with
  | none=>rfl
  | some o=>cases o<;>rfl
 refine⟨fun B w v es ev hp=>?_,fun w es=>?_⟩
 ·
  rw[hrun,hrun]
  by_cases hr:B r
  ·
   rw[(hp.bad r hr).1]
   show Fin B P _ es _ ((k poison).runT P v _)
   rw[h0]
   exact hh
  ·
   rw[hp.heap r hr]
   cases ho:w.heap[r]? with
   | none=>exact trivial
   | some o =>
    have hlt:=lt_of_get ho
    have key:∀ o:Obj,Fin B P w.heap.size es ((k o).runT P w (es.push ⟨.obj r,false,o.isChan⟩)) ((k o).runT P v (ev.push ⟨.obj r,false,o.isChan⟩)):=by
     intro o
     have h1:=(hk o).sim B w v (es.push ⟨.obj r,false,o.isChan⟩) (ev.push ⟨.obj r,false,o.isChan⟩) hp
     unfold Fin at h1 ⊢
     cases hz:((k o).runT P v (ev.push ⟨.obj r,false,o.isChan⟩)).1 with
     | halt h v''=>rw[hz] at h1;exact h1
     | ok b v'' =>
      rw[hz] at h1
      obtain⟨w'',u,hx,hp2,hn,hu⟩:=h1
      refine⟨w'',#[⟨.obj r,false,o.isChan⟩]++u,by rw[hx,Array.push_eq_append,Array.append_assoc],hp2,hn,fun e he=>?_⟩
      rcases Array.mem_append.1 he with he | he
      ·
       simp at he;subst he;exact⟨hr,by omega⟩
      ·
       exact hu e he
    cases o with
    | cells c e z=>exact trivial
    | _=>exact key _
 ·
  cases ho:w.heap[r]? with
  | none =>
   refine⟨0,?_,?_,fun t d _=>?_⟩
   ·
    dsimp only;rw[hrun,ho];rfl
   ·
    dsimp only;rw[hrun,ho];rfl
   ·
    dsimp only;rw[hrun,hrun,show (on w t d).heap[r]?=w.heap[r]? from rfl,ho];rfl
  | some o =>
   by_cases hc:∃ c e z,o=.cells c e z
   ·
    obtain⟨c,e,z,rfl⟩:=hc
    refine⟨0,?_,?_,fun t d _=>?_⟩
    ·
     dsimp only;rw[hrun,ho];rfl
    ·
     dsimp only;rw[hrun,ho];rfl
    ·
     dsimp only;rw[hrun,hrun,show (on w t d).heap[r]?=w.heap[r]? from rfl,ho];rfl
   ·
    obtain⟨c,h1,h2,h3⟩:=(hk o).drew w (es.push ⟨.obj r,false,o.isChan⟩)
    have e:∀ w':World,w'.heap[r]?=some o->(getObj r >>= k).runT P w' es=(k o).runT P w' (es.push ⟨.obj r,false,o.isChan⟩):=by
     intro w' hw'
     rw[hrun,hw']
     cases o<;>first | rfl | exact absurd ⟨_,_,_,rfl⟩ hc
    refine⟨c,?_,?_,fun t d ht=>?_⟩
    ·
     dsimp only;rw[e w ho];exact h1
    ·
     dsimp only;rw[e w ho];exact h2
    ·
     dsimp only;rw[e w ho,e (on w t d) ho];exact h3 t d ht
theorem fine_dead {α β:Type} {s:Sem α} {k:α->Sem β} (f:World->α) (hf:∀ w es,s.runT P w es=(.ok (f w) w,es)) (hf2:∀ w t d,f (on w t d)=f w) (hk:∀ a,fine P (k a)) (hh:∀ a v ev,∃ h v' ev',(k a).runT P v ev=(.halt h v',ev')∧okH P h):fine P (s >>= k):=by
 refine⟨fun B w v es ev hp=>?_,fun w es=>?_⟩
 ·
  rw[runT_bind,runT_bind,hf,hf]
  obtain⟨h,v',ev',e,ho⟩:=hh (f v) v ev
  dsimp only
  rw[e]
  exact ho
 ·
  obtain⟨c,h1,h2,h3⟩:=(hk (f w)).drew w es
  refine⟨c,?_,?_,fun t d ht=>?_⟩
  ·
   dsimp only;rw[runT_bind,hf];exact h1
  ·
   dsimp only;rw[runT_bind,hf];exact h2
  ·
   dsimp only;rw[runT_bind,runT_bind,hf,hf,hf2];exact h3 t d ht
theorem fine_intArith (op:BinOp) (k:IntKind) (x y:Int):fine P (Op.intArith op k x y):=by
 unfold Op.intArith
 (repeat' first
  | with_reducible exact fine_pure _
  | with_reducible exact fine_stuck _
  | (with_reducible assumption)
  | (refine fine_bind ?_ (fun _=>?_))
  | (refine fine_map ?_)
  | (refine fine_ite (fun _=>?_) (fun _=>?_))
  | split
  | (dsimp only)
  | exact fine_pure _)
theorem fine_intBits (op:BinOp) (k:IntKind) (x y:Int):fine P (Op.intBits op k x y):=by
 unfold Op.intBits
 (repeat' first
  | with_reducible exact fine_pure _
  | with_reducible exact fine_stuck _
  | (with_reducible assumption)
  | (refine fine_bind ?_ (fun _=>?_))
  | (refine fine_map ?_)
  | (refine fine_ite (fun _=>?_) (fun _=>?_))
  | split
  | (dsimp only)
  | exact fine_pure _)
theorem fine_intCmp (op:BinOp) (x y:Int):fine P (Op.intCmp op x y):=by
 unfold Op.intCmp
 (repeat' first
  | with_reducible exact fine_pure _
  | with_reducible exact fine_stuck _
  | (with_reducible assumption)
  | (refine fine_bind ?_ (fun _=>?_))
  | (refine fine_map ?_)
  | (refine fine_ite (fun _=>?_) (fun _=>?_))
  | split
  | (dsimp only)
  | exact fine_pure _)
theorem fine_intDiv (op:BinOp) (k:IntKind) (x y:Int):fine P (Op.intDiv op k x y):=by
 unfold Op.intDiv
 (repeat' first
  | with_reducible exact fine_pure _
  | with_reducible exact fine_stuck _
  | with_reducible exact fine_runtimePanic _
  | (with_reducible assumption)
  | (refine fine_bind ?_ (fun _=>?_))
  | (refine fine_map ?_)
  | (refine fine_ite (fun _=>?_) (fun _=>?_))
  | split
  | (dsimp only)
  | exact fine_pure _)
theorem fine_shift (op:BinOp) (k yk:IntKind) (x y:Int):fine P (Op.shift op k x yk y):=by
 unfold Op.shift
 (repeat' first
  | with_reducible exact fine_pure _
  | with_reducible exact fine_stuck _
  | with_reducible exact fine_runtimePanic _
  | (with_reducible assumption)
  | (refine fine_bind ?_ (fun _=>?_))
  | (refine fine_map ?_)
  | (refine fine_ite (fun _=>?_) (fun _=>?_))
  | split
  | (dsimp only)
  | exact fine_pure _)
theorem fine_stringOp (op:BinOp) (x y:ByteArray):fine P (Op.stringOp op x y):=by
 unfold Op.stringOp
 (repeat' first
  | with_reducible exact fine_pure _
  | with_reducible exact fine_stuck _
  | with_reducible exact fine_unsup _
  | (with_reducible assumption)
  | (refine fine_bind ?_ (fun _=>?_))
  | (refine fine_map ?_)
  | (refine fine_ite (fun _=>?_) (fun _=>?_))
  | split
  | (dsimp only)
  | exact fine_pure _)
theorem fine_floatArith (op:BinOp) (k:FloatKind) (x y:Nat):fine P (Op.floatArith op k x y):=by
 unfold Op.floatArith
 (repeat' first
  | with_reducible exact fine_pure _
  | with_reducible exact fine_stuck _
  | with_reducible exact fine_choose _
  | (with_reducible assumption)
  | (refine fine_bind ?_ (fun _=>?_))
  | (refine fine_map ?_)
  | (refine fine_ite (fun _=>?_) (fun _=>?_))
  | split
  | (dsimp only)
  | exact fine_pure _)
theorem fine_floatCmp (op:BinOp) (k:FloatKind) (x y:Nat):fine P (Op.floatCmp op k x y):=by
 unfold Op.floatCmp
 (repeat' first
  | with_reducible exact fine_pure _
  | with_reducible exact fine_stuck _
  | (with_reducible assumption)
  | (refine fine_bind ?_ (fun _=>?_))
  | (refine fine_map ?_)
  | (refine fine_ite (fun _=>?_) (fun _=>?_))
  | split
  | (dsimp only)
  | exact fine_pure _)
theorem fine_unary (op:UnOp) (v:Value):fine P (Op.unary op v):=by
 unfold Op.unary
 (repeat' first
  | with_reducible exact fine_pure _
  | with_reducible exact fine_stuck _
  | with_reducible exact fine_unsup _
  | with_reducible exact fine_intArith _ _ _ _
  | with_reducible exact fine_intBits _ _ _ _
  | (with_reducible assumption)
  | (refine fine_bind ?_ (fun _=>?_))
  | (refine fine_map ?_)
  | (refine fine_ite (fun _=>?_) (fun _=>?_))
  | split
  | (dsimp only)
  | exact fine_pure _)
theorem fine_twoPlaces (a b:Addr):fine P (Op.twoPlaces a b):=by
 unfold Op.twoPlaces
 (repeat' first
  | with_reducible exact fine_pure _
  | with_reducible exact fine_unsup _
  | with_reducible exact fine_program
  | with_reducible exact fine_byteOf _
  | (with_reducible assumption)
  | (refine fine_bind ?_ (fun _=>?_))
  | (refine fine_map ?_)
  | (refine fine_ite (fun _=>?_) (fun _=>?_))
  | split
  | (dsimp only)
  | exact fine_pure _)
theorem fine_addrSub (k:IntKind) (a b:Addr):fine P (Op.addrSub k a b):=by
 unfold Op.addrSub
 (repeat' first
  | with_reducible exact fine_pure _
  | with_reducible exact fine_twoPlaces _ _
  | (with_reducible assumption)
  | (refine fine_bind ?_ (fun _=>?_))
  | (refine fine_map ?_)
  | (refine fine_ite (fun _=>?_) (fun _=>?_))
  | split
  | (dsimp only)
  | exact fine_pure _)
theorem fine_addrCmp (op:BinOp) (a b:Addr):fine P (Op.addrCmp op a b):=by
 unfold Op.addrCmp
 (repeat' first
  | with_reducible exact fine_pure _
  | with_reducible exact fine_unsup _
  | with_reducible exact fine_twoPlaces _ _
  | (with_reducible assumption)
  | (refine fine_bind ?_ (fun _=>?_))
  | (refine fine_map ?_)
  | (refine fine_ite (fun _=>?_) (fun _=>?_))
  | split
  | (dsimp only)
  | exact fine_pure _)
theorem fine_addrMod (k:IntKind) (a:Addr) (i:Int):fine P (Op.addrMod k a i):=by
 unfold Op.addrMod
 (repeat' first
  | with_reducible exact fine_pure _
  | with_reducible exact fine_unsup _
  | with_reducible exact fine_typeInfo _
  | with_reducible exact fine_byteOf _
  | (refine fine_shapeH (fun _=>?_) rfl trivial)
  | (with_reducible assumption)
  | (refine fine_bind ?_ (fun _=>?_))
  | (refine fine_map ?_)
  | (refine fine_ite (fun _=>?_) (fun _=>?_))
  | split
  | (dsimp only)
  | exact fine_pure _)
theorem fine_unsafeAdd (ts:Array TypeId) (t:TypeId) (x y:Value):fine P (Builtin.unsafeAdd_ ts t #[x,y]):=by
 unfold Builtin.unsafeAdd_
 cases x with
 | pointer a =>
  dsimp only
  (repeat' first
  | with_reducible exact fine_pure _
  | with_reducible exact fine_stuck _
  | with_reducible exact fine_unsup _
  | with_reducible exact fine_program
  | with_reducible exact fine_viewAt _
  | with_reducible exact fine_asInt _
  | (refine fine_shapeH (fun _=>?_) rfl trivial)
  | (with_reducible assumption)
  | (refine fine_bind ?_ (fun _=>?_))
  | (refine fine_map ?_)
  | (refine fine_ite (fun _=>?_) (fun _=>?_))
  | split
  | (dsimp only)
  | exact fine_pure _)
 | _=>exact fine_stuck _
theorem fine_asNumber (a:Addr) (b:Bool):fine P (asNumber a b):=by
 unfold asNumber
 (repeat' first
  | with_reducible exact fine_pure _
  | with_reducible exact fine_new _
  | (with_reducible assumption)
  | (refine fine_bind ?_ (fun _=>?_))
  | (refine fine_map ?_)
  | (refine fine_ite (fun _=>?_) (fun _=>?_))
  | split
  | (dsimp only)
  | exact fine_pure _)
theorem fine_movedNumber (t:TypeId) (x y:Value):fine P (movedNumber t x y):=by
 unfold movedNumber
 (repeat' first
  | with_reducible exact fine_pure _
  | with_reducible exact fine_unsup _
  | with_reducible exact fine_underlying _
  | with_reducible exact fine_behindNumber _
  | with_reducible exact fine_unsafeAdd _ _ _ _
  | with_reducible exact fine_asNumber _ _
  | (with_reducible assumption)
  | (refine fine_bind ?_ (fun _=>?_))
  | (refine fine_map ?_)
  | (refine fine_ite (fun _=>?_) (fun _=>?_))
  | split
  | (dsimp only)
  | exact fine_pure _)
theorem fine_movedPointer (t:TypeId) (x y:Value):fine P (movedPointer t x y):=by
 unfold movedPointer
 (repeat' first
  | with_reducible exact fine_unsup _
  | with_reducible exact fine_numberAt _
  | with_reducible exact fine_unsafeAdd _ _ _ _
  | (with_reducible assumption)
  | (refine fine_bind ?_ (fun _=>?_))
  | (refine fine_map ?_)
  | (refine fine_ite (fun _=>?_) (fun _=>?_))
  | split
  | (dsimp only))
theorem fine_cArith (op:BinOp) (k:FloatKind) (x y:Nat):fine P (Op.Complex.arith op k x y):=by
 unfold Op.Complex.arith
 (repeat' first
  | with_reducible exact fine_pure _
  | with_reducible exact fine_stuck _
  | with_reducible exact fine_floatArith _ _ _ _
  | (with_reducible assumption)
  | (refine fine_bind ?_ (fun _=>?_))
  | (refine fine_map ?_)
  | (refine fine_ite (fun _=>?_) (fun _=>?_))
  | split
  | (dsimp only)
  | exact fine_pure _)
theorem fine_cCmp (op:BinOp) (k:FloatKind) (x y:Nat):fine P (Op.Complex.cmp op k x y):=by
 unfold Op.Complex.cmp
 (repeat' first
  | with_reducible exact fine_asBool _
  | with_reducible exact fine_floatCmp _ _ _ _
  | (with_reducible assumption)
  | (refine fine_bind ?_ (fun _=>?_))
  | (refine fine_map ?_)
  | (refine fine_ite (fun _=>?_) (fun _=>?_))
  | split
  | (dsimp only))
theorem fine_cConv (k:FloatKind) (x:Nat) (d:FloatKind):fine P (Op.Complex.conv k x d):=by
 unfold Op.Complex.conv
 (repeat' first
  | with_reducible exact fine_pure _
  | with_reducible exact fine_stuck _
  | with_reducible exact fine_choose _
  | (with_reducible assumption)
  | (refine fine_bind ?_ (fun _=>?_))
  | (refine fine_map ?_)
  | (refine fine_ite (fun _=>?_) (fun _=>?_))
  | split
  | (dsimp only)
  | exact fine_pure _)
theorem fine_cAdd (x y:Nat):fine P (Op.Complex.add x y):=fine_cArith _ _ _ _
theorem fine_cSub (x y:Nat):fine P (Op.Complex.sub x y):=fine_cArith _ _ _ _
theorem fine_cMul (x y:Nat):fine P (Op.Complex.mul x y):=fine_cArith _ _ _ _
theorem fine_cQuo (x y:Nat):fine P (Op.Complex.quo x y):=fine_cArith _ _ _ _
theorem fine_cProduct (a b c d:Nat):fine P (Op.Complex.product a b c d):=by
 unfold Op.Complex.product
 (repeat' first
  | with_reducible exact fine_pure _
  | with_reducible exact fine_cAdd _ _
  | with_reducible exact fine_cSub _ _
  | with_reducible exact fine_cMul _ _
  | (with_reducible assumption)
  | (refine fine_bind ?_ (fun _=>?_))
  | (refine fine_map ?_)
  | (refine fine_ite (fun _=>?_) (fun _=>?_))
  | split
  | (dsimp only)
  | exact fine_pure _)
theorem fine_cCorrected (s a b c d:Nat):fine P (Op.Complex.corrected s a b c d):=by
 unfold Op.Complex.corrected
 (repeat' first
  | with_reducible exact fine_pure _
  | with_reducible exact fine_cAdd _ _
  | with_reducible exact fine_cSub _ _
  | with_reducible exact fine_cMul _ _
  | (with_reducible assumption)
  | (refine fine_bind ?_ (fun _=>?_))
  | (refine fine_map ?_)
  | (refine fine_ite (fun _=>?_) (fun _=>?_))
  | split
  | (dsimp only)
  | exact fine_pure _)
theorem fine_cQuotient (a b c d:Nat):fine P (Op.Complex.quotient a b c d):=by
 unfold Op.Complex.quotient
 (repeat' first
  | with_reducible exact fine_pure _
  | with_reducible exact fine_cCmp _ _ _ _
  | with_reducible exact fine_cAdd _ _
  | with_reducible exact fine_cSub _ _
  | with_reducible exact fine_cMul _ _
  | with_reducible exact fine_cQuo _ _
  | with_reducible exact fine_cCorrected _ _ _ _ _
  | (with_reducible assumption)
  | (refine fine_bind ?_ (fun _=>?_))
  | (refine fine_map ?_)
  | (refine fine_ite (fun _=>?_) (fun _=>?_))
  | split
  | (dsimp only)
  | exact fine_pure _)
theorem fine_complexOp (op:BinOp) (k:FloatKind) (a b c d:Nat):fine P (Op.complexOp op k a b c d):=by
 unfold Op.complexOp
 (repeat' first
  | with_reducible exact fine_pure _
  | with_reducible exact fine_stuck _
  | with_reducible exact fine_cArith _ _ _ _
  | with_reducible exact fine_cCmp _ _ _ _
  | with_reducible exact fine_cConv _ _ _
  | with_reducible exact fine_cProduct _ _ _ _
  | with_reducible exact fine_cQuotient _ _ _ _
  | (with_reducible assumption)
  | (refine fine_bind ?_ (fun _=>?_))
  | (refine fine_map ?_)
  | (refine fine_ite (fun _=>?_) (fun _=>?_))
  | split
  | (dsimp only)
  | exact fine_pure _)
theorem fine_equal (t:TypeId) (x y:Value):fine P (Op.equal t x y):=fine_equalIn _ _ _ _
theorem fine_binOp (op:BinOp) (t:TypeId) (x y:Value):fine P (binOp op t x y):=by
 unfold binOp
 (repeat' first
  | with_reducible exact fine_pure _
  | with_reducible exact fine_stuck _
  | with_reducible exact fine_unsup _
  | with_reducible exact fine_underlying _
  | with_reducible exact fine_behindNumber _
  | with_reducible exact fine_intArith _ _ _ _
  | with_reducible exact fine_intBits _ _ _ _
  | with_reducible exact fine_intCmp _ _ _
  | with_reducible exact fine_intDiv _ _ _ _
  | with_reducible exact fine_shift _ _ _ _ _
  | with_reducible exact fine_stringOp _ _ _
  | with_reducible exact fine_floatArith _ _ _ _
  | with_reducible exact fine_floatCmp _ _ _ _
  | with_reducible exact fine_addrSub _ _ _
  | with_reducible exact fine_addrCmp _ _ _
  | with_reducible exact fine_addrMod _ _ _
  | with_reducible exact fine_movedNumber _ _ _
  | with_reducible exact fine_movedPointer _ _ _
  | with_reducible exact fine_complexOp _ _ _ _ _ _
  | with_reducible exact fine_equal _ _ _
  | (with_reducible assumption)
  | (refine fine_bind ?_ (fun _=>?_))
  | (refine fine_map ?_)
  | (refine fine_ite (fun _=>?_) (fun _=>?_))
  | split
  | (dsimp only)
  | exact fine_pure _)
theorem fine_lenOf (v:Value):fine P (Builtin.lenOf v):=by
 unfold Builtin.lenOf
 (repeat' first
  | with_reducible exact fine_pure _
  | with_reducible exact fine_stuck _
  | (with_reducible assumption)
  | (refine fine_bind ?_ (fun _=>?_))
  | (refine fine_map ?_)
  | (refine fine_ite (fun _=>?_) (fun _=>?_))
  | split
  | (dsimp only)
  | exact fine_pure _)
theorem fine_firstCells (a b:Nat) (v:Value):fine P (Builtin.firstCells a b v):=by
 unfold Builtin.firstCells
 (repeat' first
  | with_reducible exact fine_pure _
  | with_reducible exact fine_stuck _
  | with_reducible exact fine_loadCells _ _
  | (with_reducible assumption)
  | (refine fine_bind ?_ (fun _=>?_))
  | (refine fine_map ?_)
  | (refine fine_ite (fun _=>?_) (fun _=>?_))
  | split
  | (dsimp only)
  | exact fine_pure _)
def still {α:Type} (P:Program) (s:Sem α):Prop:=∃ f:World->α,(∀ w es,s.runT P w es=(.ok (f w) w,es))∧∀ w t d,f (on w t d)=f w
theorem still_pure {α:Type} (a:α):still P (pure a):=⟨fun _=>a,fun _ _=>rfl,fun _ _ _=>rfl⟩
theorem still_shape (r:Nat):still P (shape r):=⟨fun w=>w.shape? r,fun _ _=>rfl,fun _ _ _=>rfl⟩
theorem still_frozen (a:Addr):still P (frozen a):=⟨fun w=>w.frozen? a,fun _ _=>rfl,fun _ _ _=>rfl⟩
theorem still_bind {α β:Type} {s:Sem α} {k:α->Sem β} (hs:still P s) (hk:∀ a,still P (k a)):still P (s >>= k):=by
 obtain⟨f,h1,h2⟩:=hs
 refine⟨fun w=>(hk (f w)).choose w,fun w es=>?_,fun w t d=>?_⟩
 ·
  rw[runT_bind,h1]
  exact (hk (f w)).choose_spec.1 w es
 ·
  show (hk (f (on w t d))).choose (on w t d)=_
  have e:∀ x,x=f w->(hk x).choose (on w t d)=(hk (f w)).choose w:=by
   rintro x rfl
   exact (hk (f w)).choose_spec.2 w t d
  exact e _ (h2 w t d)
theorem still_holdsCells (a:Addr) (c:Nat):still P (Builtin.holdsCells a c):=by
 unfold Builtin.holdsCells
 refine still_bind (still_shape _) (fun s=>?_)
 split<;>exact still_pure _
theorem still_mayShare (a b c:Nat) (base:Option Addr) (x:Value):still P (Builtin.mayShare a b c base x):=by
 unfold Builtin.mayShare
 repeat' first
  | exact still_pure _
  | exact still_frozen _
  | exact still_holdsCells _ _
  | (refine still_bind ?_ (fun _=>?_))
  | split
  | (dsimp only)
theorem fine_room (a b c:Nat) (base:Option Addr) (x:Value) {β:Type} {k:Bool->Sem β} (hk:∀ a,fine P (k a)) (hh:∀ a v ev,∃ h v' ev',(k a).runT P v ev=(.halt h v',ev')∧okH P h):fine P (Builtin.mayShare a b c base x >>= k):=by
 obtain⟨f,h1,h2⟩:=still_mayShare (P:=P) a b c base x
 exact fine_dead f h1 h2 hk hh
end
end Go.Proofs.YtkeapmmochpcfaaGreat.Nf
namespace Go.Proofs.YtkeapmmochpcfaaGreat.Nf
open Go
section
variable {P : Program}
theorem fine_append (ts:Array TypeId) (t:TypeId) (args:Array Value):fine P (Builtin.append_ ts t args):=by
 unfold Builtin.append_
 (repeat' first
  | with_reducible exact fine_pure _
  | with_reducible exact fine_stuck _
  | with_reducible exact fine_unsup _
  | with_reducible exact fine_choose _
  | with_reducible exact fine_mark trivial
  | with_reducible exact fine_typeInfo _
  | with_reducible exact fine_underlying _
  | with_reducible exact fine_sizeOf _
  | with_reducible exact fine_newRow _ _
  | with_reducible exact fine_runtimePanic _
  | with_reducible exact fine_asInt _
  | with_reducible exact fine_storeCells _ _ _
  | with_reducible exact fine_zeroValue _
  | with_reducible exact fine_askRoom _
  | with_reducible exact fine_lenOf _
  | with_reducible exact fine_firstCells _ _ _
  | (refine fine_room _ _ _ _ _ (fun _=>?_) (fun a v ev=>?_))
  | (cases (‹Bool› : Bool)<;>exact⟨_,_,_,rfl,trivial⟩)
  | exact fine_mark trivial
  | (with_reducible assumption)
  | (refine fine_bind ?_ (fun _=>?_))
  | (refine fine_map ?_)
  | (refine fine_ite (fun _=>?_) (fun _=>?_))
  | split
  | (dsimp only)
  | exact fine_pure _)
end
end Go.Proofs.YtkeapmmochpcfaaGreat.Nf
namespace Go.Proofs.YtkeapmmochpcfaaGreat.Nf
open Go
section
variable {P : Program}
theorem fine_copy (ts:Array TypeId) (t:TypeId) (args:Array Value):fine P (Builtin.copy_ ts t args):=by
 unfold Builtin.copy_
 (repeat' first
  | with_reducible exact fine_pure _
  | with_reducible exact fine_stuck _
  | with_reducible exact fine_underlying _
  | with_reducible exact fine_sizeOf _
  | with_reducible exact fine_storeCells _ _ _
  | with_reducible exact fine_lenOf _
  | with_reducible exact fine_firstCells _ _ _
  | (with_reducible assumption)
  | (refine fine_bind ?_ (fun _=>?_))
  | (refine fine_map ?_)
  | (refine fine_ite (fun _=>?_) (fun _=>?_))
  | split
  | (dsimp only)
  | exact fine_pure _)
theorem fine_len (ts:Array TypeId) (t:TypeId) (args:Array Value):fine P (Builtin.len_ ts t args):=by
 unfold Builtin.len_
 (repeat' first
  | with_reducible exact fine_pure _
  | with_reducible exact fine_stuck _
  | with_reducible exact fine_underlying _
  | (refine fine_getObjH (fun _=>?_) rfl trivial)
  | (with_reducible assumption)
  | (refine fine_bind ?_ (fun _=>?_))
  | (refine fine_map ?_)
  | (refine fine_ite (fun _=>?_) (fun _=>?_))
  | split
  | (dsimp only)
  | exact fine_pure _)
theorem fine_cap (ts:Array TypeId) (t:TypeId) (args:Array Value):fine P (Builtin.cap_ ts t args):=by
 unfold Builtin.cap_
 (repeat' first
  | with_reducible exact fine_pure _
  | with_reducible exact fine_stuck _
  | with_reducible exact fine_underlying _
  | (refine fine_getObjH (fun _=>?_) rfl trivial)
  | (with_reducible assumption)
  | (refine fine_bind ?_ (fun _=>?_))
  | (refine fine_map ?_)
  | (refine fine_ite (fun _=>?_) (fun _=>?_))
  | split
  | (dsimp only)
  | exact fine_pure _)
theorem fine_bytesToString (v:Value):fine P (Conv.bytesToString v):=by
 unfold Conv.bytesToString
 (repeat' first
  | with_reducible exact fine_pure _
  | with_reducible exact fine_stuck _
  | with_reducible exact fine_loadCells _ _
  | (refine fine_forIn (fun _ _=>?_) _ _)
  | (with_reducible assumption)
  | (refine fine_bind ?_ (fun _=>?_))
  | (refine fine_map ?_)
  | (refine fine_ite (fun _=>?_) (fun _=>?_))
  | split
  | (dsimp only)
  | exact fine_pure _)
theorem fine_of_run {α:Type} {s s':Sem α} (e:∀ w es,s.runT P w es=s'.runT P w es) (h:fine P s'):fine P s:=by
 have ef:s.runT P=s'.runT P:=funext fun w=>funext fun es=>e w es
 exact⟨fun B w v es ev hp=>by rw[ef];exact h.sim B w v es ev hp,fun w es=>by rw[ef];exact h.drew w es⟩
theorem und_run (t : TypeId) (w : World) (es : Array Event) : (underlying t).runT P w es = match P.underlying t with | some d => (.ok d w, es) | none => (.halt (.stuck "no such type") w, es) := by
 unfold underlying
 rw[runT_bind,show program.runT P w es=(.ok P w,es) from rfl]
 dsimp only
 cases P.underlying t<;>rfl
theorem fine_und {α:Type} {t:TypeId} {k:TypeDesc->Sem α} (h:∀ d,P.underlying t=some d->fine P (k d)):fine P (underlying t >>= k):=by
 cases e:P.underlying t with
 | none => exact fine_of_run (s' := stuck "no such type") (fun w es => by rw [runT_bind, und_run, e]; rfl) (fine_stuck _)
 | some d=>exact fine_of_run (s':=k d) (fun w es=>by rw[runT_bind,und_run,e]) (h d e)
def okConv (P:Program) (src dst:TypeId):Prop :=
 (∃ a b,P.underlying src=some (.int a)∧P.underlying dst=some (.int b)) ∨
 (∃ e,P.underlying src=some (.slice e)∧P.underlying e=some (.int .u8)∧P.underlying dst=some .string)
theorem fine_floatToInt (s:FloatKind) (b:Nat) (k:IntKind):fine P (Conv.floatToInt s b k):=by
 unfold Conv.floatToInt
 (repeat' first
  | with_reducible exact fine_pure _
  | with_reducible exact fine_choose _
  | (with_reducible assumption)
  | (refine fine_bind ?_ (fun _=>?_))
  | (refine fine_map ?_)
  | (refine fine_ite (fun _=>?_) (fun _=>?_))
  | split
  | (dsimp only)
  | exact fine_pure _)
theorem fine_convert {src dst:TypeId} (hc:okConv P src dst) (v:Value):fine P (convert src dst v):=by
 unfold convert
 refine fine_und (fun d h1=>fine_und (fun d' h2=>?_))
 rcases hc with ⟨a,b,e1,e2⟩ | ⟨e,e1,e2,e3⟩
 ·
  rw[h1] at e1
  rw[h2] at e2
  cases e1
  cases e2
  cases v with
  | int k i=>exact fine_pure _
  | float k i=>exact fine_floatToInt _ _ _
  | pointer p=>cases p<;>exact fine_unsup _
  | _=>exact fine_unsup _
 ·
  rw[h1] at e1
  rw[h2] at e3
  cases e1
  cases e3
  have fin:fine P (Conv.bytesToString v):=fine_bytesToString v
  cases v with
  | int k i=>exact fine_pure _
  | string s=>exact fine_pure _
  | _ =>
   refine fine_und (fun d'' h3=>?_)
   rw[h3] at e2
   cases e2
   exact fin
theorem fine_overlaps (ps rs:Array TypeId) (args:Array Value):fine P (Extern.SlicesOverlaps.overlaps ps rs args):=by
 obtain⟨l⟩:=args
 rcases l with _ | ⟨x,_ | ⟨y,_ | ⟨z,l⟩⟩⟩
 ·
  exact fine_stuck _
 ·
  cases x<;>exact fine_stuck _
 ·
  cases x<;>try exact fine_stuck _
  cases y<;>try exact fine_stuck _
  unfold Extern.SlicesOverlaps.overlaps
  dsimp only
  (repeat' first
  | with_reducible exact fine_pure _
  | with_reducible exact fine_stuck _
  | with_reducible exact fine_unsup _
  | with_reducible exact fine_halt trivial
  | with_reducible exact fine_choose _
  | with_reducible exact fine_frozen _
  | with_reducible exact fine_underlying _
  | with_reducible exact fine_sizeOf _
  | with_reducible exact fine_noView _
  | with_reducible exact fine_mayBeOne _ _
  | (with_reducible assumption)
  | (refine fine_bind ?_ (fun _=>?_))
  | (refine fine_map ?_)
  | (refine fine_ite (fun _=>?_) (fun _=>?_))
  | split
  | (dsimp only)
  | exact fine_pure _
  | exact fine_halt trivial)
 ·
  cases x<;>first | exact fine_stuck _ | (cases y<;>exact fine_stuck _)
end
end Go.Proofs.YtkeapmmochpcfaaGreat.Nf
namespace Go.Proofs.YtkeapmmochpcfaaGreat.Nf
open Go
section
variable {P : Program}
theorem fine_get (x:Place) (t:TypeId):fine P (x.get t):=by
 cases x with
 | val v=>exact fine_pure _
 | var a=>exact fine_loadVar t a
theorem fine_follow:∀ (l:List FieldStep) (t:TypeId) (x:Place),fine P (follow l t x)
 | [],t,x=>by unfold follow;exact fine_pure _
 | s::l,t,x=>by
  have IH:=fun t x=>fine_follow l t x
  unfold follow
  (repeat' first
  | with_reducible exact fine_pure _
  | with_reducible exact fine_stuck _
  | with_reducible exact fine_underlying _
  | with_reducible exact fine_asAddr _
  | with_reducible exact fine_part _ _ _
  | with_reducible exact fine_fieldPlace _ _
  | with_reducible exact fine_get _ _
  | with_reducible exact IH _ _
  | (with_reducible assumption)
  | (refine fine_bind ?_ (fun _=>?_))
  | (refine fine_map ?_)
  | (refine fine_ite (fun _=>?_) (fun _=>?_))
  | split
  | (dsimp only)
  | exact fine_pure _)
theorem fine_wrapNil (v:Value) (xt:TypeId) (s u:ByteArray):fine P (Builtin.ssaWrapNilChk_ #[xt] xt #[v,.string s,.string u]):=by
 unfold Builtin.ssaWrapNilChk_
 cases v with
 | pointer a =>
  cases a with
  | some a=>exact fine_pure _
  | none =>
   dsimp only
   (repeat' first
  | with_reducible exact fine_pure _
  | with_reducible exact fine_stuck _
  | with_reducible exact fine_unsup _
  | with_reducible exact fine_choose _
  | with_reducible exact fine_typeInfo _
  | with_reducible exact fine_underlying _
  | with_reducible exact fine_runtimePanic _
  | (with_reducible assumption)
  | (refine fine_bind ?_ (fun _=>?_))
  | (refine fine_map ?_)
  | (refine fine_ite (fun _=>?_) (fun _=>?_))
  | split
  | (dsimp only)
  | exact fine_pure _)
 | _=>exact fine_stuck _
theorem fine_receiverAt (xt:TypeId) (x:Place) (b:Bool) (w:Option String):fine P (receiverAt xt x b w):=by
 unfold receiverAt
 (repeat' first
  | with_reducible exact fine_pure _
  | with_reducible exact fine_stuck _
  | with_reducible exact fine_underlying _
  | with_reducible exact fine_asAddr _
  | with_reducible exact fine_loadVar _ _
  | with_reducible exact fine_get _ _
  | with_reducible exact fine_wrapNil _ _ _ _
  | (exact fine_wrapNil _ _ _ _)
  | (with_reducible assumption)
  | (refine fine_bind ?_ (fun _=>?_))
  | (refine fine_map ?_)
  | (refine fine_ite (fun _=>?_) (fun _=>?_))
  | split
  | (dsimp only)
  | exact fine_pure _)
theorem fine_followBlind:∀ (l:List FieldStep) (t:TypeId) (x:Option Value),fine P (followBlind l t x)
 | [],t,x=>by unfold followBlind;exact fine_pure _
 | s::l,t,x=>by
  have IH:=fun t x=>fine_followBlind l t x
  unfold followBlind
  (repeat' first
  | with_reducible exact fine_pure _
  | with_reducible exact fine_stuck _
  | with_reducible exact fine_underlying _
  | with_reducible exact fine_part _ _ _
  | with_reducible exact IH _ _
  | (with_reducible assumption)
  | (refine fine_bind ?_ (fun _=>?_))
  | (refine fine_map ?_)
  | (refine fine_ite (fun _=>?_) (fun _=>?_))
  | split
  | (dsimp only)
  | exact fine_pure _)
theorem fine_nilAhead:∀ (d:Nat) (t:TypeId) (v:Value) (s:String),fine P (nilAhead d t v s)
 | 0,t,v,s=>by unfold nilAhead;exact fine_pure _
 | d+1,t,v,s=>by
  have IH:=fun t v s=>fine_nilAhead d t v s
  unfold nilAhead
  (repeat' first
  | with_reducible exact fine_pure _
  | with_reducible exact fine_stuck _
  | with_reducible exact fine_typeInfo _
  | with_reducible exact fine_underlying _
  | with_reducible exact fine_followBlind _ _ _
  | with_reducible exact IH _ _ _
  | (with_reducible assumption)
  | (refine fine_bind ?_ (fun _=>?_))
  | (refine fine_map ?_)
  | (refine fine_ite (fun _=>?_) (fun _=>?_))
  | split
  | (dsimp only)
  | exact fine_pure _)
def gives {α:Type} (P:Program) (Q:α->Prop) (s:Sem α):Prop:=∀ w es a w' es',s.runT P w es=(.ok a w',es')->Q a
theorem gives_bind {α β:Type} {R:α->Prop} {Q:β->Prop} {s:Sem α} {k:α->Sem β} (hs:gives P R s) (hk:∀ a,R a->gives P Q (k a)):gives P Q (s >>= k):=by
 intro w es b w' es' h
 rw[runT_bind] at h
 cases hr:s.runT P w es with
 | mk r es1 =>
  rw[hr] at h
  cases r with
  | halt x w1=>cases h
  | ok a w1=>exact hk a (hs w es a w1 es1 hr) w1 es1 b w' es' h
theorem gives_any {α:Type} {s:Sem α}:gives P (fun _=>True) s:=fun _ _ _ _ _ _=>trivial
theorem gives_then {α β:Type} {Q:β->Prop} {s:Sem α} {k:α->Sem β} (hk:∀ a,gives P Q (k a)):gives P Q (s >>= k):=gives_bind gives_any (fun a _=>hk a)
theorem gives_pure {α:Type} {Q:α->Prop} {a:α} (h:Q a):gives P Q (pure a):=by
 intro w es b w' es' e
 cases e
 exact h
theorem gives_halt {α:Type} {Q:α->Prop} (h:Halt):gives P Q (.halt h:Sem α):=by
 intro w es b w' es' e
 cases e
theorem gives_panic {α:Type} {Q:α->Prop} (e:RuntimeError):gives P Q (runtimePanic e:Sem α):=by
 unfold runtimePanic
 refine gives_then (fun p=>?_)
 dsimp only
 cases e<;>first | exact gives_halt _ | exact gives_then (fun _=>gives_then (fun _=>gives_halt _))
end
end Go.Proofs.YtkeapmmochpcfaaGreat.Nf
