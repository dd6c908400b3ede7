/- A list of Entrys as it lies in memory: 5 cells each; a row of the call's own; one that came in. (Written by wip/mkrow.py.) -/
import Derived.Test.YtkeapmmochpcfaaGreatMem
import Derived.Test.YtkeapmmochpcfaaGreatProg
import Derived.Laws.OwnMore
import Derived.Deep.OwnRows
import Derived.Deep.Strs
import Derived.OwnWalk
import Derived.OpenShut
import Derived.Laws.AppendOwn
import Derived.Lib.SmallJoins
set_option maxRecDepth 100000
set_option maxHeartbeats 32000000
set_option linter.unusedVariables false
namespace Go.Proofs.YtkeapmmochpcfaaGreat.En
open Go.ChangeShapes Go.WideShapes Go.ChangeAt Go.RowKit
theorem hidIt {p:Prop} (h:p):Hid p:=h
abbrev Rw:=ByteArray × ByteArray × Int × Int × Bool
abbrev rv (x:Rw):Value:=.agg #[.string x.1,.string x.2.1,.int .i64 x.2.2.1,.int .i64 x.2.2.2.1,.bool x.2.2.2.2]
abbrev rc (x:Rw):Array Value:=#[.string x.1,.string x.2.1,.int .i64 x.2.2.1,.int .i64 x.2.2.2.1,.bool x.2.2.2.2]
def rat (L:List Rw) (i:Nat):Rw:=L.getD i (ByteArray.empty,ByteArray.empty,0,0,false)
theorem rat_at {L:List Rw} {i:Nat} (h:i<L.length):rat L i=L[i]:=by
 unfold rat
 rw[List.getD_eq_getElem?_getD,List.getElem?_eq_getElem h]
 rfl
theorem rat_getElem? {L:List Rw} {i:Nat} (h:i<L.length):L[i]?=some (rat L i):=by rw[rat_at h,List.getElem?_eq_getElem h]
theorem rat_mem {L:List Rw} {i:Nat} (h:i<L.length):rat L i∈L:=by rw[rat_at h];exact List.getElem_mem h
theorem rat_set {L:List Rw} {i j:Nat} {x:Rw} (h:i<L.length):rat (L.set i x) j=if i=j then x else rat L j:=by
 unfold rat
 rw[List.getD_eq_getElem?_getD,List.getD_eq_getElem?_getD,List.getElem?_set]
 by_cases e:i=j
 ·
  subst e;simp[h]
 ·
  simp[e]
def rcell (x:Rw):Nat->Value
 | 0=>.string x.1
 | 1=>.string x.2.1
 | 2=>.int .i64 x.2.2.1
 | 3=>.int .i64 x.2.2.2.1
 | _=>.bool x.2.2.2.2
def rcells:List Rw->List Value
 | []=>[]
 | x::r=>.string x.1::.string x.2.1::.int .i64 x.2.2.1::.int .i64 x.2.2.2.1::.bool x.2.2.2.2::rcells r
theorem rcells_cons (x:Rw) (r:List Rw):rcells (x::r)=.string x.1::.string x.2.1::.int .i64 x.2.2.1::.int .i64 x.2.2.2.1::.bool x.2.2.2.2::rcells r:=rfl
theorem rcells_length (L:List Rw):(rcells L).length=L.length*5:=by
 induction L with
 | nil=>rfl
 | cons x r ih=>simp only[rcells_cons,List.length_cons,ih];omega
theorem rcells_append (L M:List Rw):rcells (L++M)=rcells L++rcells M:=by
 induction L with
 | nil=>rfl
 | cons x r ih=>rw[List.cons_append,rcells_cons,rcells_cons,ih];rfl
theorem rcells_one (L:List Rw):∀ u∈rcells L,u.oneCell'=true:=by
 induction L with
 | nil=>intro u hu;cases hu
 | cons x r ih =>
  intro u hu
  rw[rcells_cons] at hu
  simp only[List.mem_cons] at hu
  rcases hu with rfl | rfl | rfl | rfl | rfl | hu
  ·
   rfl
  ·
   rfl
  ·
   rfl
  ·
   rfl
  ·
   rfl
  ·
   exact ih u hu
theorem rcells_get (L:List Rw):∀ i j,i<L.length->j<5->(rcells L)[i*5+j]?=some (rcell (rat L i) j):=by
 induction L with
 | nil=>intro i j hi;simp at hi
 | cons x r ih =>
  intro i j hi hj
  cases i with
  | zero =>
   match j,hj with
   | 0,_=>rfl
   | 1,_=>rfl
   | 2,_=>rfl
   | 3,_=>rfl
   | 4,_=>rfl
  | succ k =>
   rw[rcells_cons,show (k+1)*5+j=k*5+j+1+1+1+1+1 by omega,List.getElem?_cons_succ,List.getElem?_cons_succ,List.getElem?_cons_succ,List.getElem?_cons_succ,List.getElem?_cons_succ,ih k j (by simp at hi;omega) hj]
   rfl
theorem rcells_set (L:List Rw):∀ i j (v:Value) (y:Rw),i<L.length->j<5->(∀ k,k<5->rcell y k=if k=j then v else rcell (rat L i) k)->(rcells L).set (i*5+j) v=rcells (L.set i y):=by
 induction L with
 | nil=>intro i j v y hi;simp at hi
 | cons x r ih =>
  intro i j v y hi hj h
  cases i with
  | zero =>
   have e0:=h 0 (by omega)
   have e1:=h 1 (by omega)
   have e2:=h 2 (by omega)
   have e3:=h 3 (by omega)
   have e4:=h 4 (by omega)
   rw[List.set_cons_zero,rcells_cons y r,show (.string y.1:Value)=rcell y 0 from rfl,show (.string y.2.1:Value)=rcell y 1 from rfl,show (.int .i64 y.2.2.1:Value)=rcell y 2 from rfl,show (.int .i64 y.2.2.2.1:Value)=rcell y 3 from rfl,show (.bool y.2.2.2.2:Value)=rcell y 4 from rfl,e0,e1,e2,e3,e4]
   match j,hj with
   | 0,_=>rfl
   | 1,_=>rfl
   | 2,_=>rfl
   | 3,_=>rfl
   | 4,_=>rfl
  | succ k =>
   rw[rcells_cons,show (k+1)*5+j=k*5+j+1+1+1+1+1 by omega,List.set_cons_succ,List.set_cons_succ,List.set_cons_succ,List.set_cons_succ,List.set_cons_succ,ih k j v y (by simp at hi;omega) hj (fun n hn=>h n hn)]
   rfl
structure Rd (w:World) (a:Option Addr) (L:List Rw):Prop where
 cell:∀ i,i<L.length->∃ b off,a=some ⟨b,off,none⟩∧∀ j,j<5->w.cell? ⟨b,off+(i*5+j),none⟩=some (rcell (rat L i) j)
theorem Rd.all {w:World} {a:Option Addr} {L:List Rw} (h:Rd w a L) {i:Nat} (hi:i<L.length):∃ b off,a=some ⟨b,off,none⟩∧w.cell? ⟨b,off+i*5,none⟩=some (.string (rat L i).1)∧w.cell? ⟨b,off+i*5+1,none⟩=some (.string (rat L i).2.1)∧w.cell? ⟨b,off+i*5+2,none⟩=some (.int .i64 (rat L i).2.2.1)∧w.cell? ⟨b,off+i*5+3,none⟩=some (.int .i64 (rat L i).2.2.2.1)∧w.cell? ⟨b,off+i*5+4,none⟩=some (.bool (rat L i).2.2.2.2):=by
 obtain⟨b,off,e,c⟩:=h.cell i hi
 exact⟨b,off,e,c 0 (by omega),by rw[Nat.add_assoc];exact c 1 (by omega),by rw[Nat.add_assoc];exact c 2 (by omega),by rw[Nat.add_assoc];exact c 3 (by omega),by rw[Nat.add_assoc];exact c 4 (by omega)⟩
theorem cell_block {w:World} {b o:Nat} {v:Value} (h:w.cell? ⟨b,o,none⟩=some v):b<w.heap.size:=World.block_lt_of_cell? w ⟨b,o,none⟩ h
theorem Rd.kept {w w':World} {a:Option Addr} {L:List Rw} (h:Rd w a L) (k:Below w.heap.size w w'):Rd w' a L :=
 ⟨fun i hi=>by
  obtain⟨b,off,e,c⟩:=h.cell i hi
  exact⟨b,off,e,fun j hj=>by rw[k.cell (by simpa using cell_block (c j hj))];exact c j hj⟩⟩
theorem Rd.alloc {w:World} {a:Option Addr} {L:List Rw} (h:Rd w a L) (o:Obj):Rd (w.alloc o) a L:=h.kept ((Below.refl _ _).alloc (Nat.le_refl _) o)
theorem Rd.drew {w:World} {a:Option Addr} {L:List Rw} (h:Rd w a L):Rd w.drew a L:=⟨h.cell⟩
theorem Rd.none_nil {w:World} {L:List Rw} (h:Rd w none L):L=[]:=by
 cases L with
 | nil=>rfl
 | cons x r=>obtain⟨b,off,e,_⟩:=h.cell 0 (by simp);cases e
def Own (w:World) (base:Nat) (v:Value) (L:List Rw):Prop:=w.ownsRow base 60 5 v L.length (rcells L)
theorem Own.form {w:World} {base:Nat} {v:Value} {L:List Rw} (h:Own w base v L):∃ a cap,v=.slice a L.length cap∧L.length<=cap∧cap<=maxLen∧Rd w a L∧(a=none->cap=0)∧(∀ x,a=some x->∃ g,x=⟨g,0,none⟩∧base<=g∧g<w.heap.size):=by
 have h':=h
 rcases h.2 with ⟨rfl,h0⟩ | ⟨g,cap,cur,rfl,hb,hg,hn,hm,rest⟩
 ·
  exact⟨none,0,by rw[h0],by omega,by decide,⟨fun i hi=>by omega⟩,fun _=>rfl,fun x hx=>by cases hx⟩
 ·
  refine⟨some ⟨g,0,none⟩,cap,rfl,hn,hm,⟨fun i hi=>⟨g,0,rfl,fun j hj=>?_⟩⟩,(fun e=>by cases e),fun x hx=>⟨g,by cases hx;rfl,hb,(Array.getElem?_eq_some_iff.1 hg).1⟩⟩
  rw[Nat.zero_add,World.ownsRow.cellAt h' _ (by omega),rcells_get _ _ _ hi hj]
theorem Own.kept {w w':World} {base:Nat} {v:Value} {L:List Rw} (h:Own w base v L) (k:Below w.heap.size w w'):Own w' base v L :=
 World.ownsRow.kept (row:=none) h ⟨k.os,k.tape,k.output,k.size,fun i hi _=>k.block i hi⟩ (by cases v.ownBlock<;>simp)
theorem Own.alloc {w:World} {base:Nat} {v:Value} {L:List Rw} (h:Own w base v L) (o:Obj):Own (w.alloc o) base v L:=World.ownsRow.alloc h o
theorem Own.drew {w:World} {base:Nat} {v:Value} {L:List Rw} (h:Own w base v L):Own w.drew base v L:=h
theorem Own.only {w w':World} {base c:Nat} {v:Value} {L:List Rw} (h:Own w base v L) (k:Only c w w') (hc:c<base∨∀ g,v.ownBlock=some g->g≠c):Own w' base v L:=by
 refine World.ownsRow.kept h (row:=some c) ⟨k.os,k.tape,k.output,k.size,fun i hi hne=>k.block i hi (fun e=>hne (by rw[e]))⟩ ?_
 cases hv:v.ownBlock with
 | none=>exact .inl rfl
 | some g =>
  refine .inr (fun e=>?_)
  cases e
  rcases hc with hc | hc
  ·
   have:=(World.ownsRow.lt h _ hv).1;omega
  ·
   exact hc _ hv rfl
theorem Own.mono {w:World} {base b':Nat} {v:Value} {L:List Rw} (h:Own w base v L) (hb:b'<=base):Own w b' v L:=by
 refine⟨h.1,?_⟩
 rcases h.2 with h0 | ⟨g,cap,cur,e,hb',r⟩
 ·
  exact .inl h0
 ·
  exact .inr ⟨g,cap,cur,e,by omega,r⟩
theorem Own.new (w:World):Own (w.alloc (.cells #[] 60)) w.heap.size (.slice (some ⟨w.heap.size,0,none⟩) 0 0) [] :=
 World.ownsRow_made w #[] 0 (Nat.le_refl _) (by decide) rfl
theorem Own.ofNil (w:World) (base:Nat):Own w base (.slice none 0 0) []:=World.ownsRow_nil _ _ _ _
theorem Own.one (w:World) (x:Rw) {k:Nat} (h:w.heap.size=k):Own (w.alloc (.cells (rc x) 60)) k (.slice (some ⟨k,0,none⟩) 1 1) [x]:=by
 subst h
 exact⟨rfl,.inr ⟨w.heap.size,1,_,rfl,Nat.le_refl _,heap_alloc_new w _,Nat.le_refl _,by decide,rfl,rfl⟩⟩
theorem Own.more {w:World} {base:Nat} {v:Value} {L M:List Rw} (h:w.ownsRow base 60 5 v (L.length+M.length) (rcells L++rcells M)):Own w base v (L++M):=by
 unfold Own
 rw[List.length_append,rcells_append]
 exact h
theorem Own.free {w:World} {base g m cap:Nat} {L:List Rw} (h:Own w base (.slice (some ⟨g,0,none⟩) m cap) L) (j:Nat):w.frozen? ⟨g,j,none⟩=false:=by
 obtain⟨a,c',e,_⟩:=h.form
 cases e
 exact World.ownsRow.frozenAt h j
theorem Own.at {w:World} {base g m cap i j:Nat} {L:List Rw} (h:Own w base (.slice (some ⟨g,0,none⟩) m cap) L) (hi:i<L.length) (hj:j<5):w.cell? ⟨g,i*5+j,none⟩=some (rcell (rat L i) j):=by
 obtain⟨a',c',e1,_,_,r,_⟩:=h.form
 cases e1
 obtain⟨b',o',e2,k⟩:=r.cell i hi
 cases e2
 simpa using k j hj
theorem Own.set {w:World} {base g m cap i j:Nat} {L:List Rw} {v:Value} {y:Rw} (h:Own w base (.slice (some ⟨g,0,none⟩) m cap) L) (hi:i<L.length) (hj:j<5) (hy:∀ k,k<5->rcell y k=if k=j then v else rcell (rat L i) k) :
  Own (w.setCell ⟨g,i*5+j,none⟩ v) base (.slice (some ⟨g,0,none⟩) m cap) (L.set i y):=by
 obtain⟨a,c',e,_⟩:=h.form
 cases e
 have:=(World.ownsRow.stored h (i*5+j) v).1
 rw[rcells_set L i j v y hi hj hy] at this
 unfold Own
 rw[List.length_set]
 exact this
theorem grown_below {w w':World} {base Bb:Nat} {v:Value} {L:List Rw} (h:Own w base v L) (g:w.grownBy w' v.ownBlock) (hB:Bb<=base) (hs:Bb<=w.heap.size):Below Bb w w' :=
 ⟨g.os,g.tape,g.output,g.size,fun k hk=>g.block k (by omega) (fun e=>by have:=(World.ownsRow.lt h k e.symm).1;omega)⟩
theorem Own.whole {w:World} {base g m cap i:Nat} {L:List Rw} (h:Own w base (.slice (some ⟨g,0,none⟩) m cap) L) (hi:i<L.length) (y:Rw) :
  Own ((((((w.setCell ⟨g,i*5,none⟩ (.string y.1)).setCell ⟨g,i*5+1,none⟩ (.string y.2.1)).setCell ⟨g,i*5+2,none⟩ (.int .i64 y.2.2.1)).setCell ⟨g,i*5+3,none⟩ (.int .i64 y.2.2.2.1)).setCell ⟨g,i*5+4,none⟩ (.bool y.2.2.2.2))) base (.slice (some ⟨g,0,none⟩) m cap) (L.set i y):=by
 obtain⟨y0,y1,y2,y3,y4⟩:=y
 have h1:=h.set (i:=i) (j:=0) (v:=.string y0) (y:=(y0,(rat L i).2.1,(rat L i).2.2.1,(rat L i).2.2.2.1,(rat L i).2.2.2.2)) hi (by omega) (fun k hk=>by
  match k,hk with
  | 0,_=>rfl
  | 1,_=>rfl
  | 2,_=>rfl
  | 3,_=>rfl
  | 4,_=>rfl)
 have h2:=h1.set (i:=i) (j:=1) (v:=.string y1) (y:=(y0,y1,(rat L i).2.2.1,(rat L i).2.2.2.1,(rat L i).2.2.2.2)) (by rw[List.length_set];exact hi) (by omega) (fun k hk=>by
  rw[rat_set hi,if_pos rfl]
  match k,hk with
  | 0,_=>rfl
  | 1,_=>rfl
  | 2,_=>rfl
  | 3,_=>rfl
  | 4,_=>rfl)
 rw[List.set_set] at h2
 have h3:=h2.set (i:=i) (j:=2) (v:=.int .i64 y2) (y:=(y0,y1,y2,(rat L i).2.2.2.1,(rat L i).2.2.2.2)) (by rw[List.length_set];exact hi) (by omega) (fun k hk=>by
  rw[rat_set hi,if_pos rfl]
  match k,hk with
  | 0,_=>rfl
  | 1,_=>rfl
  | 2,_=>rfl
  | 3,_=>rfl
  | 4,_=>rfl)
 rw[List.set_set] at h3
 have h4:=h3.set (i:=i) (j:=3) (v:=.int .i64 y3) (y:=(y0,y1,y2,y3,(rat L i).2.2.2.2)) (by rw[List.length_set];exact hi) (by omega) (fun k hk=>by
  rw[rat_set hi,if_pos rfl]
  match k,hk with
  | 0,_=>rfl
  | 1,_=>rfl
  | 2,_=>rfl
  | 3,_=>rfl
  | 4,_=>rfl)
 rw[List.set_set] at h4
 have h5:=h4.set (i:=i) (j:=4) (v:=.bool y4) (y:=(y0,y1,y2,y3,y4)) (by rw[List.length_set];exact hi) (by omega) (fun k hk=>by
  rw[rat_set hi,if_pos rfl]
  match k,hk with
  | 0,_=>rfl
  | 1,_=>rfl
  | 2,_=>rfl
  | 3,_=>rfl
  | 4,_=>rfl)
 rw[List.set_set] at h5
 exact h5
theorem infoRw:(Tryz.prog.info? 60).map (fun i=>(i.zero,i.size,i.bytes))=some (some (.agg #[.string ByteArray.empty,.string ByteArray.empty,.int .i64 0,.int .i64 0,.bool false]),5,56):=by kernel_rfl
theorem row_cell {w:World} {g:Nat} {cur:Array Value} {T:TypeId} {f:Nat × Nat} (hg:w.heap[g]?=some (.cells cur T f)) (j:Nat):w.cell? ⟨g,j,none⟩=cur[j]?:=by simp[World.cell?,hg]
theorem rcells_split (M:List Rw) (k:Nat) (hk:k<=M.length):rcells M=rcells (M.take k)++rcells (M.drop k)∧(rcells (M.take k)).length=k*5:=by
 refine⟨by rw[<- rcells_append,List.take_append_drop],?_⟩
 rw[rcells_length,List.length_take,Nat.min_eq_left hk]
theorem rcells_take (M:List Rw) (k:Nat) (hk:k<=M.length):rcells (M.take k)=(rcells M).take (k*5):=by
 obtain⟨e,l⟩:=rcells_split M k hk
 rw[e,<- l,List.take_left]
theorem rcells_drop (M:List Rw) (k:Nat) (hk:k<=M.length):rcells (M.drop k)=(rcells M).drop (k*5):=by
 obtain⟨e,l⟩:=rcells_split M k hk
 rw[e,<- l,List.drop_left]
theorem own_row {w:World} {base g m cap:Nat} {M:List Rw} (h:Own w base (.slice (some ⟨g,0,none⟩) m cap) M):∃ cur,base<=g∧w.heap[g]?=some (.cells cur 60 (0,0))∧M.length<=cap∧cap<=maxLen∧cur.size=cap*5∧cur.toList.take (M.length*5)=rcells M∧M.length=m:=by
 obtain⟨a',c',e,_⟩:=h.form
 have em:M.length=m:=by cases e;rfl
 rcases h.2 with ⟨e',_⟩ | ⟨g',cap',cur,e',hb,hg,hn,hm,hs,ht⟩
 ·
  cases e'
 ·
  cases e'
  exact⟨cur,hb,hg,hn,hm,hs,ht,rfl⟩
theorem Own.piece {w:World} {base g m cap:Nat} {M:List Rw} (h:Own w base (.slice (some ⟨g,0,none⟩) m cap) M) (k:Nat) (hk:k<=M.length):∀ j u,(rcells (M.drop k))[j]?=some u->w.cell? ((⟨g,k*5,none⟩:Addr).add j)=some u:=by
 intro j u hj
 obtain⟨cur,_,hg,_,_,hsz,htk,_⟩:=own_row h
 rw[rcells_drop M k hk,List.getElem?_drop,<- htk,List.getElem?_take] at hj
 rw[Go.WideShapes.add_plain,row_cell hg]
 split at hj
 ·
  rw[<- Array.getElem?_toList];exact hj
 ·
  cases hj
theorem Own.front {w:World} {base g m cap:Nat} {M:List Rw} (h:Own w base (.slice (some ⟨g,0,none⟩) m cap) M) (k:Nat) (hk:k<=M.length):∀ j u,(rcells (M.take k))[j]?=some u->w.cell? ((⟨g,0,none⟩:Addr).add j)=some u:=by
 intro j u hj
 obtain⟨cur,_,hg,_,_,hsz,htk,_⟩:=own_row h
 rw[rcells_take M k hk,List.getElem?_take] at hj
 rw[Go.WideShapes.add_plain,row_cell hg,Nat.zero_add]
 split at hj
 ·
  rw[<- htk,List.getElem?_take] at hj
  split at hj
  ·
   rw[<- Array.getElem?_toList];exact hj
  ·
   cases hj
 ·
  cases hj
theorem Own.some_form {w:World} {base:Nat} {v:Value} {M:List Rw} (h:Own w base v M) (hv:v≠.slice none 0 0):∃ g cap,v=.slice (some ⟨g,0,none⟩) M.length cap∧M.length<=cap∧cap<=9223372036854775807∧base<=g∧g<w.heap.size:=by
 obtain⟨a,cap,rfl,hc,hm,hR,hna,hs⟩:=h.form
 cases a with
 | none =>
  have e:=hna rfl
  subst e
  have:M.length=0:=by omega
  rw[this] at hv
  exact absurd rfl hv
 | some x =>
  obtain⟨g,rfl,h1,h2⟩:=hs x rfl
  exact⟨g,cap,rfl,hc,hm,h1,h2⟩
theorem Rd.cells {w:World} {b off:Nat} {L:List Rw} (h:Rd w (some ⟨b,off,none⟩) L):∀ j u,(rcells L)[j]?=some u->w.cell? ((⟨b,off,none⟩:Addr).add j)=some u:=by
 intro j u hj
 have hlt:j<L.length*5:=by rw[<- rcells_length];exact (List.getElem?_eq_some_iff.1 hj).1
 obtain⟨b',o',e,c⟩:=h.cell (j / 5) (by omega)
 cases e
 have hc:=c (j % 5) (by omega)
 have hg:=rcells_get L (j / 5) (j % 5) (by omega) (by omega)
 rw[show j / 5*5+j % 5=j by omega] at hc hg
 rw[hg] at hj
 rw[Go.WideShapes.add_plain,hc]
 exact hj
theorem step_append {ops:Array Oper} {o:Oper} {a:Act} {w:World} {K:Act->World->Prop} {Q:Exit->Act->World->Prop} {E:Prop}
  (hg:o.guard=none) (s x:Operand) (hop:o.op=Op.call { callee:=Callee.builtin Builtin.append,args:=#[s,x],argTypes:=#[29,29] })
  (base:Nat) (v:Value) (M N:List Rw) (hs:a.eval s=v) (hown:Own w base v M) (ad:Addr) (m c:Nat) (hm:N.length=m) (hx:a.eval x=.slice (some ad) m c) (hc:∀ j u,(rcells N)[j]?=some u->w.cell? (ad.add j)=some u)
  (hl:M.length+m<=1000) (hb:base<=w.heap.size)
  (hK:∀ v' w',Own w' base v' (M++N)->w.grownBy w' v.ownBlock->(v'=.slice none 0 0↔v=.slice none 0 0∧m=0)->K (a.put o.dst v') w') :
  if Region.wanted o (yielded ops a.tmps)=true then Oper.wp Tryz.prog o a w K Q else E:=by
 have hw:Region.wanted o (yielded ops a.tmps)=true:=by simp[Region.wanted,hg]
 obtain⟨i0,hi0,hz0,hz1,hz2⟩:=info_parts infoRw
 rw[if_pos hw]
 obtain⟨v',w',hrun,r1,r2,r3⟩:=run_append_own (P:=Tryz.prog) w base 29 o.type 60 i0 (.agg #[.string ByteArray.empty,.string ByteArray.empty,.int .i64 0,.int .i64 0,.bool false]) 5 56 Tryz.underlying29 hi0 hz0 hz1 hz2 rfl (by decide) v M.length (rcells M) hown ad m c (rcells N) (by rw[rcells_length,hm]) hc (rcells_one _) (by unfold maxLen;omega) (by omega) hb
 unfold Oper.wp
 simp[execOp,hop,resolve,invoke,builtin,hs,hx,hrun,Result.andThen]
 exact hK v' w' (Own.more (by rw[hm];exact r1)) r2 r3
theorem step_append_none {ops:Array Oper} {o:Oper} {a:Act} {w:World} {K:Act->World->Prop} {Q:Exit->Act->World->Prop} {E:Prop}
  (hg:o.guard=none) (s x:Operand) (hop:o.op=Op.call { callee:=Callee.builtin Builtin.append,args:=#[s,x],argTypes:=#[29,29] })
  (base:Nat) (v:Value) (M:List Rw) (hs:a.eval s=v) (hown:Own w base v M) (hx:a.eval x=.slice none 0 0)
  (hK:K (a.put o.dst v) w):if Region.wanted o (yielded ops a.tmps)=true then Oper.wp Tryz.prog o a w K Q else E:=by
 have hw:Region.wanted o (yielded ops a.tmps)=true:=by simp[Region.wanted,hg]
 obtain⟨i0,hi0,hz0,hz1,hz2⟩:=info_parts infoRw
 rw[if_pos hw]
 have hrun:=run_append_owned_none (P:=Tryz.prog) (w:=w) base 29 o.type 60 i0 5 Tryz.underlying29 hi0 v M.length (rcells M) hown
 unfold Oper.wp
 simp[execOp,hop,resolve,invoke,builtin,hs,hx,hrun,Result.andThen]
 exact hK
theorem grown_cell1 {w w':World} {r:Option Nat} (k:w.grownBy w' r) {b o:Nat} {v:Value} (h:w.cell? ⟨b,o,none⟩=some v) (hr:some b≠r):w'.cell? ⟨b,o,none⟩=some v:=by
 rw[World.cell?_of_block (w:=w) (k.block b (cell_block h) hr)]
 exact h
theorem fresh (w:World) (x:Rw) (T:TypeId):∀ j u,(rcells [x])[j]?=some u->(w.alloc (.cells (rc x) T)).cell? ((⟨w.heap.size,0,none⟩:Addr).add j)=some u:=by
 intro j u hj
 match j,hj with
 | 0,hj=>simp[rcells] at hj;subst hj;simp[Addr.add]
 | 1,hj=>simp[rcells] at hj;subst hj;simp[Addr.add]
 | 2,hj=>simp[rcells] at hj;subst hj;simp[Addr.add]
 | 3,hj=>simp[rcells] at hj;subst hj;simp[Addr.add]
 | 4,hj=>simp[rcells] at hj;subst hj;simp[Addr.add]
 | j+5,hj=>simp[rcells] at hj
end Go.Proofs.YtkeapmmochpcfaaGreat.En
