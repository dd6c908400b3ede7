/- A slice as a value: where it begins, how long it is, how much room it has. -/
import Derived.Test.YtkeapmmochpcfaaGreatMem
import Derived.WalkKit
import Derived.Test.YtkeapmmochpcfaaGreatBun1
import Derived.Test.YtkeapmmochpcfaaGreatMem2L
import Derived.Test.YtkeapmmochpcfaaGreatBoxM
import Derived.Test.YtkeapmmochpcfaaGreatBokS
import Derived.Test.YtkeapmmochpcfaaGreatBun4
import Derived.Test.YtkeapmmochpcfaaGreatBun5
import Derived.Test.YtkeapmmochpcfaaGreatProg
import Derived.Laws.OwnMore
import Derived.Deep.OwnRows
import Derived.Deep.Strs
import Derived.OwnWalk
import Derived.OpenShut
import Derived.Laws.AppendOwn
import Derived.Lib.SmallJoins
set_option maxRecDepth 100000
set_option maxHeartbeats 32000000
set_option linter.unusedVariables false
namespace Go.Proofs.YtkeapmmochpcfaaGreat.Vv
open Go.ChangeShapes Go.WideShapes Go.ChangeAt Go.RowKit
theorem hidIt {p:Prop} (h:p):Hid p:=h
abbrev Sl:=Option Addr × Nat × Nat
abbrev sv (x:Sl):Value:=.slice x.1 x.2.1 x.2.2
end Go.Proofs.YtkeapmmochpcfaaGreat.Vv
namespace Go.Proofs.YtkeapmmochpcfaaGreat.Rp
open Go.ChangeShapes Go.WideShapes Go.ChangeAt Go.RowKit
open Vv (Sl sv hidIt)
open Rc (BelowBy BelowBy.one wp_region_below calls_below calls_same)
abbrev Rep:=List En.Rw × List Mm.Rw
structure RdE (w:World) (s:Sl) (L:List En.Rw):Prop where
 len:s.2.1=L.length
 rd:En.Rd w s.1 L
 na:s.1=none->s.2.2=0
 le:L.length<=s.2.2
 cap:s.2.2<=9223372036854775807
structure RdM (w:World) (s:Sl) (L:List Mm.Rw):Prop where
 len:s.2.1=L.length
 rd:Mm.Rd w s.1 L
 na:s.1=none->s.2.2=0
 le:L.length<=s.2.2
 cap:s.2.2<=9223372036854775807
theorem RdE.kept {w w':World} {s:Sl} {L:List En.Rw} (h:RdE w s L) (k:Below w.heap.size w w'):RdE w' s L:=⟨h.len,h.rd.kept k,h.na,h.le,h.cap⟩
theorem RdM.kept {w w':World} {s:Sl} {L:List Mm.Rw} (h:RdM w s L) (k:Below w.heap.size w w'):RdM w' s L:=⟨h.len,h.rd.kept k,h.na,h.le,h.cap⟩
theorem rdE_of {w:World} {base:Nat} {s:Sl} {L:List En.Rw} (h:En.Own w base (sv s) L):RdE w s L:=by
 obtain⟨a,c,e,h1,h2,r,h4,_⟩:=h.form
 obtain⟨s0,s1,s2⟩:=s
 simp only[sv,Value.slice.injEq] at e
 obtain⟨rfl,rfl,rfl⟩:=e
 exact⟨rfl,r,h4,h1,h2⟩
theorem rdM_of {w:World} {base:Nat} {s:Sl} {L:List Mm.Rw} (h:Mm.Own w base (sv s) L):RdM w s L:=by
 obtain⟨a,c,e,h1,h2,r,h4,_⟩:=h.form
 obtain⟨s0,s1,s2⟩:=s
 simp only[sv,Value.slice.injEq] at e
 obtain⟨rfl,rfl,rfl⟩:=e
 exact⟨rfl,r,h4,h1,h2⟩
theorem slE {w:World} {base:Nat} {v:Value} {L:List En.Rw} (h:En.Own w base v L):∃ s:Sl,v=sv s:=by
 obtain⟨a,c,e,_⟩:=h.form
 exact⟨(a,L.length,c),e⟩
theorem slM {w:World} {base:Nat} {v:Value} {L:List Mm.Rw} (h:Mm.Own w base v L):∃ s:Sl,v=sv s:=by
 obtain⟨a,c,e,_⟩:=h.form
 exact⟨(a,L.length,c),e⟩
theorem on {W a b:World} (h:Below W.heap.size W a) (k:Below a.heap.size a b):Below W.heap.size W b:=h.trans (k.mono h.size)
def bulk1 (r:Rep):Nat:=r.1.length+r.2.length
def TwoP (w:World) (r:Rep) (e:Ending) (w':World):Prop:=∃ s t:Sl,e=.returned (.agg #[sv s,sv t])∧En.Own w' w.heap.size (sv s) r.1∧Mm.Own w' w.heap.size (sv t) r.2∧Below w.heap.size w w'
theorem TwoP.of {w w':World} {r:Rep} {e:Ending} {s t:Sl} (h:e=.returned (.agg #[sv s,sv t])) (h1:En.Own w' w.heap.size (sv s) r.1) (h2:Mm.Own w' w.heap.size (sv t) r.2) (h3:Below w.heap.size w w'):TwoP w r e w':=⟨s,t,h,h1,h2,h3⟩
theorem TwoP.out {w w':World} {r:Rep} {e:Ending} (h:TwoP w r e w'):∃ s t:Sl,e=.returned (.agg #[sv s,sv t])∧En.Own w' w.heap.size (sv s) r.1∧Mm.Own w' w.heap.size (sv t) r.2∧Below w.heap.size w w':=h
end Go.Proofs.YtkeapmmochpcfaaGreat.Rp
namespace Go.Proofs.YtkeapmmochpcfaaGreat.Rp
open Go.ChangeShapes Go.WideShapes Go.ChangeAt Go.RowKit
open Vv (Sl sv hidIt)
def okR (r:Rep):Bool:=Bk.okBk (En.toB r.1)&&Mk.okBk (Mm.toB r.2)
end Go.Proofs.YtkeapmmochpcfaaGreat.Rp
namespace Go.Proofs.YtkeapmmochpcfaaGreat.Rp
open Go.ChangeShapes Go.WideShapes Go.ChangeAt Go.RowKit
open Vv (Sl sv hidIt)
theorem impl_replicaOk (s t:Sl) (r:Rep) (w:World) (hE:RdE w s r.1) (hM:RdM w t r.2) (hs:En.shortR r.1) (h1:r.1.length<=9223372036854775807) (h2:r.2.length<=9223372036854775807) :
  Calls Tryz.prog 33 #[.agg #[sv s,sv t]] w fun e w'=>e=.returned (.bool (okR r))∧Below w.heap.size w w':=by
 obtain⟨s0,s1,s2⟩:=s
 obtain⟨t0,t1,t2⟩:=t
 obtain⟨e1,r1,_,_,_⟩:=hE
 obtain⟨e2,r2,_,_,_⟩:=hM
 simp only at e1 r1 e2 r2
 have C1:=hidIt (fun W (k:En.Rd W s0 r.1)=>En.impl_BookOk s0 s2 r.1 W k h1 hs)
 have C2:=hidIt (fun W (k:Mm.Rd W t0 r.2)=>Mm.impl_MembersOk t0 t2 r.2 W k h2)
 rw[<- e1] at C1
 rw[<- e2] at C2
 have HOK:Hid (okR r=(Bk.okBk (En.toB r.1)&&Mk.okBk (Mm.toB r.2))):=hidIt rfl
 generalize Bk.okBk (En.toB r.1)=k1 at C1 HOK
 generalize Mk.okBk (Mm.toB r.2)=k2 at C2 HOK
 generalize okR r=k at HOK ⊢
 have HB:=hidIt ((Below.refl w.heap.size w).alloc (Nat.le_refl _) (.cells #[.slice s0 s1 s2,.slice t0 t1 t2] 32))
 have H1:=hidIt (r1.kept HB.out)
 have H2:=hidIt (r2.kept HB.out)
 have BX:=hidIt (Bo.Box.new w #[.slice s0 s1 s2,.slice t0 t1 t2] 32)
 clear r1 r2 e1 e2 hs
 simp only[sv]
 cases k1 with
 | false =>
  have er:=HOK.out
  simp only[Bool.false_and] at er
  subst er
  go_enter Tryz.func33,Tryz.ntmps33
  go_wp2_with (fail)
  refine (C1.out _ H1.out).mono ?_
  rintro e w1 ⟨rfl,k⟩
  have HB1:=hidIt (on HB.out k)
  clear k
  go_wp2_with (fail)
  go_ret
  exact⟨rfl,HB1.out⟩
 | true =>
  have er:=HOK.out
  simp only[Bool.true_and] at er
  subst er
  go_enter Tryz.func33,Tryz.ntmps33
  go_wp2_with (fail)
  refine (C1.out _ H1.out).mono ?_
  rintro e w1 ⟨rfl,k1⟩
  have HB1:=hidIt (on HB.out k1)
  have BX1:=hidIt (BX.out.kept k1)
  have c1:=BX1.out.c 1 rfl
  have H3:=hidIt (H2.out.kept k1)
  clear k1
  go_wp2_with (fail)
  refine (C2.out _ H3.out).mono ?_
  rintro e w2 ⟨rfl,k2⟩
  have HB2:=hidIt (on HB1.out k2)
  clear k2
  go_wp2_with (fail)
  go_ret
  exact⟨rfl,HB2.out⟩
end Go.Proofs.YtkeapmmochpcfaaGreat.Rp
namespace Go.Proofs.YtkeapmmochpcfaaGreat.Vv
open Go.ChangeShapes Go.WideShapes Go.ChangeAt Go.RowKit
abbrev Rw:=Sl × Sl
abbrev rc (x:Rw):Array Value:=#[sv x.1,sv x.2]
def rat (L:List Rw) (i:Nat):Rw:=L.getD i ((none,0,0),(none,0,0))
theorem rat_set {L:List Rw} {i j:Nat} {x:Rw} (h:i<L.length):rat (L.set i x) j=if i=j then x else rat L j:=by
 unfold rat
 rw[List.getD_eq_getElem?_getD,List.getD_eq_getElem?_getD,List.getElem?_set]
 by_cases e:i=j
 ·
  subst e;simp[h]
 ·
  simp[e]
def rcell (x:Rw):Nat->Value
 | 0=>sv x.1
 | _=>sv x.2
def rcells:List Rw->List Value
 | []=>[]
 | x::r=>sv x.1::sv x.2::rcells r
theorem rcells_cons (x:Rw) (r:List Rw):rcells (x::r)=sv x.1::sv x.2::rcells r:=rfl
theorem rcells_length (L:List Rw):(rcells L).length=L.length*2:=by
 induction L with
 | nil=>rfl
 | cons x r ih=>simp only[rcells_cons,List.length_cons,ih];omega
theorem rcells_append (L M:List Rw):rcells (L++M)=rcells L++rcells M:=by
 induction L with
 | nil=>rfl
 | cons x r ih=>rw[List.cons_append,rcells_cons,rcells_cons,ih];rfl
theorem rcells_one (L:List Rw):∀ u∈rcells L,u.oneCell'=true:=by
 induction L with
 | nil=>intro u hu;cases hu
 | cons x r ih =>
  intro u hu
  rw[rcells_cons] at hu
  simp only[List.mem_cons] at hu
  rcases hu with rfl | rfl | hu
  ·
   rfl
  ·
   rfl
  ·
   exact ih u hu
theorem rcells_get (L:List Rw):∀ i j,i<L.length->j<2->(rcells L)[i*2+j]?=some (rcell (rat L i) j):=by
 induction L with
 | nil=>intro i j hi;simp at hi
 | cons x r ih =>
  intro i j hi hj
  cases i with
  | zero =>
   match j,hj with
   | 0,_=>rfl
   | 1,_=>rfl
  | succ k =>
   rw[rcells_cons,show (k+1)*2+j=k*2+j+1+1 by omega,List.getElem?_cons_succ,List.getElem?_cons_succ,ih k j (by simp at hi;omega) hj]
   rfl
theorem rcells_set (L:List Rw):∀ i j (v:Value) (y:Rw),i<L.length->j<2->(∀ k,k<2->rcell y k=if k=j then v else rcell (rat L i) k)->(rcells L).set (i*2+j) v=rcells (L.set i y):=by
 induction L with
 | nil=>intro i j v y hi;simp at hi
 | cons x r ih =>
  intro i j v y hi hj h
  cases i with
  | zero =>
   have e0:=h 0 (by omega)
   have e1:=h 1 (by omega)
   rw[List.set_cons_zero,rcells_cons y r,show (sv y.1:Value)=rcell y 0 from rfl,show (sv y.2:Value)=rcell y 1 from rfl,e0,e1]
   match j,hj with
   | 0,_=>rfl
   | 1,_=>rfl
  | succ k =>
   rw[rcells_cons,show (k+1)*2+j=k*2+j+1+1 by omega,List.set_cons_succ,List.set_cons_succ,ih k j v y (by simp at hi;omega) hj (fun n hn=>h n hn)]
   rfl
structure Rd (w:World) (a:Option Addr) (L:List Rw):Prop where
 cell:∀ i,i<L.length->∃ b off,a=some ⟨b,off,none⟩∧∀ j,j<2->w.cell? ⟨b,off+(i*2+j),none⟩=some (rcell (rat L i) j)
theorem Rd.all {w:World} {a:Option Addr} {L:List Rw} (h:Rd w a L) {i:Nat} (hi:i<L.length):∃ b off,a=some ⟨b,off,none⟩∧w.cell? ⟨b,off+i*2,none⟩=some (sv (rat L i).1)∧w.cell? ⟨b,off+i*2+1,none⟩=some (sv (rat L i).2):=by
 obtain⟨b,off,e,c⟩:=h.cell i hi
 exact⟨b,off,e,c 0 (by omega),by rw[Nat.add_assoc];exact c 1 (by omega)⟩
theorem cell_block {w:World} {b o:Nat} {v:Value} (h:w.cell? ⟨b,o,none⟩=some v):b<w.heap.size:=World.block_lt_of_cell? w ⟨b,o,none⟩ h
theorem Rd.kept {w w':World} {a:Option Addr} {L:List Rw} (h:Rd w a L) (k:Below w.heap.size w w'):Rd w' a L :=
 ⟨fun i hi=>by
  obtain⟨b,off,e,c⟩:=h.cell i hi
  exact⟨b,off,e,fun j hj=>by rw[k.cell (by simpa using cell_block (c j hj))];exact c j hj⟩⟩
def Own (w:World) (base:Nat) (v:Value) (L:List Rw):Prop:=w.ownsRow base 32 2 v L.length (rcells L)
theorem Own.form {w:World} {base:Nat} {v:Value} {L:List Rw} (h:Own w base v L):∃ a cap,v=.slice a L.length cap∧L.length<=cap∧cap<=maxLen∧Rd w a L∧(a=none->cap=0)∧(∀ x,a=some x->∃ g,x=⟨g,0,none⟩∧base<=g∧g<w.heap.size):=by
 have h':=h
 rcases h.2 with ⟨rfl,h0⟩ | ⟨g,cap,cur,rfl,hb,hg,hn,hm,rest⟩
 ·
  exact⟨none,0,by rw[h0],by omega,by decide,⟨fun i hi=>by omega⟩,fun _=>rfl,fun x hx=>by cases hx⟩
 ·
  refine⟨some ⟨g,0,none⟩,cap,rfl,hn,hm,⟨fun i hi=>⟨g,0,rfl,fun j hj=>?_⟩⟩,(fun e=>by cases e),fun x hx=>⟨g,by cases hx;rfl,hb,(Array.getElem?_eq_some_iff.1 hg).1⟩⟩
  rw[Nat.zero_add,World.ownsRow.cellAt h' _ (by omega),rcells_get _ _ _ hi hj]
theorem Own.kept {w w':World} {base:Nat} {v:Value} {L:List Rw} (h:Own w base v L) (k:Below w.heap.size w w'):Own w' base v L :=
 World.ownsRow.kept (row:=none) h ⟨k.os,k.tape,k.output,k.size,fun i hi _=>k.block i hi⟩ (by cases v.ownBlock<;>simp)
theorem Own.mono {w:World} {base b':Nat} {v:Value} {L:List Rw} (h:Own w base v L) (hb:b'<=base):Own w b' v L:=by
 refine⟨h.1,?_⟩
 rcases h.2 with h0 | ⟨g,cap,cur,e,hb',r⟩
 ·
  exact .inl h0
 ·
  exact .inr ⟨g,cap,cur,e,by omega,r⟩
theorem Own.new (w:World):Own (w.alloc (.cells #[] 32)) w.heap.size (.slice (some ⟨w.heap.size,0,none⟩) 0 0) [] :=
 World.ownsRow_made w #[] 0 (Nat.le_refl _) (by decide) rfl
theorem Own.more {w:World} {base:Nat} {v:Value} {L M:List Rw} (h:w.ownsRow base 32 2 v (L.length+M.length) (rcells L++rcells M)):Own w base v (L++M):=by
 unfold Own
 rw[List.length_append,rcells_append]
 exact h
theorem Own.free {w:World} {base g m cap:Nat} {L:List Rw} (h:Own w base (.slice (some ⟨g,0,none⟩) m cap) L) (j:Nat):w.frozen? ⟨g,j,none⟩=false:=by
 obtain⟨a,c',e,_⟩:=h.form
 cases e
 exact World.ownsRow.frozenAt h j
theorem Own.at {w:World} {base g m cap i j:Nat} {L:List Rw} (h:Own w base (.slice (some ⟨g,0,none⟩) m cap) L) (hi:i<L.length) (hj:j<2):w.cell? ⟨g,i*2+j,none⟩=some (rcell (rat L i) j):=by
 obtain⟨a',c',e1,_,_,r,_⟩:=h.form
 cases e1
 obtain⟨b',o',e2,k⟩:=r.cell i hi
 cases e2
 simpa using k j hj
theorem Own.set {w:World} {base g m cap i j:Nat} {L:List Rw} {v:Value} {y:Rw} (h:Own w base (.slice (some ⟨g,0,none⟩) m cap) L) (hi:i<L.length) (hj:j<2) (hy:∀ k,k<2->rcell y k=if k=j then v else rcell (rat L i) k) :
  Own (w.setCell ⟨g,i*2+j,none⟩ v) base (.slice (some ⟨g,0,none⟩) m cap) (L.set i y):=by
 obtain⟨a,c',e,_⟩:=h.form
 cases e
 have:=(World.ownsRow.stored h (i*2+j) v).1
 rw[rcells_set L i j v y hi hj hy] at this
 unfold Own
 rw[List.length_set]
 exact this
theorem grown_below {w w':World} {base Bb:Nat} {v:Value} {L:List Rw} (h:Own w base v L) (g:w.grownBy w' v.ownBlock) (hB:Bb<=base) (hs:Bb<=w.heap.size):Below Bb w w' :=
 ⟨g.os,g.tape,g.output,g.size,fun k hk=>g.block k (by omega) (fun e=>by have:=(World.ownsRow.lt h k e.symm).1;omega)⟩
theorem Own.whole {w:World} {base g m cap i:Nat} {L:List Rw} (h:Own w base (.slice (some ⟨g,0,none⟩) m cap) L) (hi:i<L.length) (y:Rw) :
  Own (((w.setCell ⟨g,i*2,none⟩ (sv y.1)).setCell ⟨g,i*2+1,none⟩ (sv y.2))) base (.slice (some ⟨g,0,none⟩) m cap) (L.set i y):=by
 obtain⟨y0,y1⟩:=y
 have h1:=h.set (i:=i) (j:=0) (v:=sv y0) (y:=(y0,(rat L i).2)) hi (by omega) (fun k hk=>by
  match k,hk with
  | 0,_=>rfl
  | 1,_=>rfl)
 have h2:=h1.set (i:=i) (j:=1) (v:=sv y1) (y:=(y0,y1)) (by rw[List.length_set];exact hi) (by omega) (fun k hk=>by
  rw[rat_set hi,if_pos rfl]
  match k,hk with
  | 0,_=>rfl
  | 1,_=>rfl)
 rw[List.set_set] at h2
 exact h2
theorem infoRw:(Tryz.prog.info? 32).map (fun i=>(i.zero,i.size,i.bytes))=some (some (.agg #[sv (none,0,0),sv (none,0,0)]),2,48):=by kernel_rfl
theorem Rd.cells {w:World} {b off:Nat} {L:List Rw} (h:Rd w (some ⟨b,off,none⟩) L):∀ j u,(rcells L)[j]?=some u->w.cell? ((⟨b,off,none⟩:Addr).add j)=some u:=by
 intro j u hj
 have hlt:j<L.length*2:=by rw[<- rcells_length];exact (List.getElem?_eq_some_iff.1 hj).1
 obtain⟨b',o',e,c⟩:=h.cell (j / 2) (by omega)
 cases e
 have hc:=c (j % 2) (by omega)
 have hg:=rcells_get L (j / 2) (j % 2) (by omega) (by omega)
 rw[show j / 2*2+j % 2=j by omega] at hc hg
 rw[hg] at hj
 rw[Go.WideShapes.add_plain,hc]
 exact hj
theorem step_append {ops:Array Oper} {o:Oper} {a:Act} {w:World} {K:Act->World->Prop} {Q:Exit->Act->World->Prop} {E:Prop}
  (hg:o.guard=none) (s x:Operand) (hop:o.op=Op.call { callee:=Callee.builtin Builtin.append,args:=#[s,x],argTypes:=#[24,24] })
  (base:Nat) (v:Value) (M N:List Rw) (hs:a.eval s=v) (hown:Own w base v M) (ad:Addr) (m c:Nat) (hm:N.length=m) (hx:a.eval x=.slice (some ad) m c) (hc:∀ j u,(rcells N)[j]?=some u->w.cell? (ad.add j)=some u)
  (hl:M.length+m<=1000) (hb:base<=w.heap.size)
  (hK:∀ v' w',Own w' base v' (M++N)->w.grownBy w' v.ownBlock->(v'=.slice none 0 0↔v=.slice none 0 0∧m=0)->K (a.put o.dst v') w') :
  if Region.wanted o (yielded ops a.tmps)=true then Oper.wp Tryz.prog o a w K Q else E:=by
 have hw:Region.wanted o (yielded ops a.tmps)=true:=by simp[Region.wanted,hg]
 obtain⟨i0,hi0,hz0,hz1,hz2⟩:=info_parts infoRw
 rw[if_pos hw]
 obtain⟨v',w',hrun,r1,r2,r3⟩:=run_append_own (P:=Tryz.prog) w base 24 o.type 32 i0 (.agg #[sv (none,0,0),sv (none,0,0)]) 2 48 Tryz.underlying24 hi0 hz0 hz1 hz2 rfl (by decide) v M.length (rcells M) hown ad m c (rcells N) (by rw[rcells_length,hm]) hc (rcells_one _) (by unfold maxLen;omega) (by omega) hb
 unfold Oper.wp
 simp[execOp,hop,resolve,invoke,builtin,hs,hx,hrun,Result.andThen]
 exact hK v' w' (Own.more (by rw[hm];exact r1)) r2 r3
theorem fresh (w:World) (x:Rw) (T:TypeId):∀ j u,(rcells [x])[j]?=some u->(w.alloc (.cells (rc x) T)).cell? ((⟨w.heap.size,0,none⟩:Addr).add j)=some u:=by
 intro j u hj
 match j,hj with
 | 0,hj=>simp[rcells] at hj;subst hj;simp[Addr.add]
 | 1,hj=>simp[rcells] at hj;subst hj;simp[Addr.add]
 | j+2,hj=>simp[rcells] at hj
end Go.Proofs.YtkeapmmochpcfaaGreat.Vv
