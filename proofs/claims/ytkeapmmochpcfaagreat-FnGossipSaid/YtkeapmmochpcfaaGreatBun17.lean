/- A region that draws its order, by an invariant: what holds of the slots that have come up, whichever they are, is handed on by each operation; so each operation is looked at once, in however many orders they may come. -/
import Derived.RegionTactic
import Derived.WalkKit
import Derived.Below
import Derived.Test.YtkeapmmochpcfaaGreatBokD
import Derived.Test.YtkeapmmochpcfaaGreatBoxM
import Derived.Deep.Cut
import Derived.Deep.CutRange
import Derived.Deep.OwnRows
import Derived.Lib.ConvBytes
import Derived.Laws.IdiomStrings
import Derived.Test.YtkeapmmochpcfaaGreatBokJ
import Derived.Test.YtkeapmmochpcfaaGreatNameQ
import Derived.Test.YtkeapmmochpcfaaGreatBun13
import Derived.Conc.CompanyDraw
import Derived.Conc.Own5
set_option maxRecDepth 100000
set_option maxHeartbeats 32000000
set_option linter.unusedVariables false
namespace Go.Proofs.YtkeapmmochpcfaaGreat.Rg
open Go.RowKit
def upd (L:Nat->Bool) (i:Nat):Nat->Bool:=fun j=>if j=i then true else L j
def depB (ops:Array Oper):Bool:=(List.range ops.size).all fun i=>((ops[i]?).map fun o=>o.after.all fun e=>!Region.binds .any e||decide (e.on<i)).getD true
theorem dep_of {ops:Array Oper} (h:depB ops=true) {i:Nat} {o:Oper} (ho:ops[i]?=some o) {e:Edge} (he:e∈o.after) (hb:Region.binds .any e=true):e.on<i:=by
 unfold depB at h
 rw[List.all_eq_true] at h
 have h1:=h i (List.mem_range.2 (Array.getElem?_eq_some_iff.1 ho).1)
 rw[ho] at h1
 simp only[Option.map_some,Option.getD_some] at h1
 have h2:=Array.all_eq_true_iff_forall_mem.1 h1 e he
 rw[hb] at h2
 simpa using h2
variable {P : Program} {ops : Array Oper} {Q : Exit → Act → World → Prop}
theorem getD_in {l:Array Bool} {i:Nat} (h:i<l.size) (d d':Bool):l.getD i d=l.getD i d':=by simp[Array.getD,h]
theorem getD_out {l:Array Bool} {i:Nat} (h:¬ i<l.size) (d:Bool):l.getD i d=d:=by simp[Array.getD,h]
theorem all_of_ready (hd:depB ops=true) {l:Array Bool} (hz:l.size=ops.size) (hr:Region.ready .any ops l=[]):∀ i,l.getD i true=true:=by
 intro i
 induction i using Nat.strongRecOn with
 | ind i ih =>
  by_cases hi:i<l.size
  ·
   cases hc:l.getD i true with
   | true=>rfl
   | false =>
    exfalso
    have ho:ops[i]?=some ops[i]:=Array.getElem?_eq_getElem (by omega)
    have:i∈Region.ready .any ops l:=mem_ready.2 ⟨hc,ops[i],ho,fun e he hb=>by
     have:=dep_of hd ho he hb
     rw[getD_in (by omega) false true]
     exact ih e.on this⟩
    rw[hr] at this
    cases this
  ·
   exact getD_out hi true
theorem count_upd {l:Array Bool} {i n:Nat} (hi:i<l.size) (hf:l.getD i true=false) (hc:l.toList.count false<=n+1):(l.setIfInBounds i true).toList.count false<=n:=by
 have e:l[i]=false:=by simpa [Array.getD,hi] using hf
 have h1:0<l.toList.count false:=List.count_pos_iff.2 (by rw[<- e];simp)
 rw[Array.toList_setIfInBounds,List.count_set (by simpa using hi)]
 simp[e]
 simp at hc h1
 omega
theorem wpAny_inv (hd:depB ops=true) (I:(Nat->Bool)->Act->World->Prop)
  (hs:∀ L a w i,i<ops.size->I L a w->L i=false->(∀ o,ops[i]?=some o->∀ e∈o.after,Region.binds .any e=true->L e.on=true)->wpOp P ops Q i (fun a' w'=>I (upd L i) a' w') a w)
  (hq:∀ L a w,I L a w->(∀ i,L i=true)->Q .normal a w) :
  ∀ (fuel:Nat) (l:Array Bool) (a:Act) (w:World),l.size=ops.size->l.toList.count false<=fuel->I (fun i=>l.getD i true) a w->wpAny P .any ops Q fuel l a w:=by
 intro fuel
 induction fuel with
 | zero =>
  intro l a w hz hc hI
  have all:∀ i,l.getD i true=true:=by
   intro i
   by_cases hi:i<l.size
   ·
    cases e:l.getD i true with
    | true=>rfl
    | false =>
     exfalso
     have e':l[i]=false:=by simpa [Array.getD,hi] using e
     have:0<l.toList.count false:=List.count_pos_iff.2 (by rw[<- e'];simp)
     omega
   ·
    exact getD_out hi true
  refine⟨?_,hq _ _ _ hI all⟩
  rw[List.eq_nil_iff_forall_not_mem]
  intro i hi
  have:=(mem_ready.1 hi).1
  rw[all i] at this
  cases this
 | succ fuel ih =>
  intro l a w hz hc hI
  refine⟨fun hr=>hq _ _ _ hI (all_of_ready hd hz hr),fun i hi=>?_⟩
  obtain⟨h1,o,ho,h2⟩:=mem_ready.1 hi
  have hlt:=(Array.getElem?_eq_some_iff.1 ho).1
  refine wpOp_mono (fun a' w' h=>ih _ a' w' (by simpa using hz) (count_upd (by omega) h1 hc) ?_) (hs _ a w i hlt hI h1 (fun o' ho' e he hb=>?_))
  ·
   have e:(fun j=>(l.setIfInBounds i true).getD j true)=upd (fun j=>l.getD j true) i:=by
    funext j
    unfold upd
    by_cases e:j=i
    ·
     subst e
     have hj:j<l.size:=by omega
     simp[Array.getD,hj]
    ·
     rw[if_neg e]
     by_cases hj:j<l.size
     ·
      simp[Array.getD,hj,Ne.symm e]
     ·
      simp[Array.getD,hj]
   rw[e]
   exact h
  ·
   rw[ho] at ho'
   cases ho'
   have hon:=dep_of hd ho he hb
   have:=h2 e he hb
   rw[getD_in (by omega) false true] at this
   exact this
def waits (l:List Oper) (i:Nat):List Nat:=((l[i]?).map fun o=>(o.after.toList.filter (Region.binds .any)).map (·.on)).getD []
theorem wp_region_inv {id:Nat} {a:Act} {w:World} {l:List Oper} (hm:P.follows .mixedOrders=true) (hd:depB l.toArray=true) (I:(Nat->Bool)->Act->World->Prop)
  (h0:I (fun i=>decide (l.length<=i)) a w.drew)
  (hs:∀ L a w i,i<l.length->I L a w->L i=false->(∀ d,(waits l i).contains d=true->L d=true)->wpOp P l.toArray Q i (fun a' w'=>I (upd L i) a' w') a w)
  (hq:∀ L a w,I L a w->(∀ i,L i=true)->Q .normal a w):(Code.region id l.toArray true).wp P Q a w:=by
 refine wp_region_any hm (wpAny_inv hd I (fun L a w i hi hI hL hdep=>hs L a w i (by simpa using hi) hI hL (fun d hd'=>?_)) hq _ _ _ _ (by simp) (by simp) ?_)
 ·
  unfold waits at hd'
  cases ho:l[i]? with
  | none=>rw[ho] at hd';simp at hd'
  | some o =>
   rw[ho] at hd'
   simp only[Option.map_some,Option.getD_some] at hd'
   have hm:=List.contains_iff_mem.1 hd'
   obtain⟨e,he,rfl⟩:=List.mem_map.1 hm
   obtain⟨h1,h2⟩:=List.mem_filter.1 he
   exact hdep o (by simpa using ho) e (by simpa using h1) h2
 ·
  have e:(fun i=>(Array.replicate l.toArray.size false).getD i true)=fun i=>decide (l.length<=i):=by
   funext i
   by_cases h:i<l.length
   ·
    simp[Array.getD,h]
   ·
    simp[Array.getD,h];omega
  rw[e]
  exact h0
theorem op_at {l:List Oper} {i:Nat} {o:Oper} {K:Act->World->Prop} {a:Act} {w:World} (ho:l[i]?=some o)
  (h:∀ K':Act->World->Prop,(∀ a w,K a w->K' a w)->if Region.wanted o (yielded l.toArray a.tmps)=true then Oper.wp P o a w K' Q else K' (a.put o.dst undef) w):wpOp P l.toArray Q i K a w :=
 wpOp_step (by simpa using ho) h
end Go.Proofs.YtkeapmmochpcfaaGreat.Rg
namespace Go.Proofs.YtkeapmmochpcfaaGreat.En
open Go.ChangeShapes Go.WideShapes Go.ChangeAt Go.RowKit
open Dr
open Rg (upd waits wp_region_inv op_at)
theorem box_oth {w w':World} {b c:Nat} {cs:Array Value} (h:Bo.Box w b cs) (k:Only c w w') (hne:¬ b=c):Bo.Box w' b cs :=
 ⟨Nat.lt_of_lt_of_le h.lt k.size,fun i=>by rw[k.cell (p:=⟨b,i,none⟩) h.lt hne];exact h.at' i,fun i=>by rw[k.frozen (p:=⟨b,i,none⟩) h.lt hne];exact h.fr i⟩
theorem only_beside {c b:Nat} {a w w':World} (h:Only c a w) (k:Only b w w') (hb:a.heap.size<=b):Only c a w' :=
 ⟨k.os.trans h.os,k.tape.trans h.tape,k.output.trans h.output,Nat.le_trans h.size k.size,fun i hi hc=>(k.block i (Nat.lt_of_lt_of_le hi h.size) (by omega)).trans (h.block i hi hc)⟩
theorem cur_beside {B b c:Nat} {w w':World} {a:Option Addr} {len cap:Nat} (h:Cur B w c a len cap) (k:Only b w w') (hb:c<b):Cur B w' c a len cap:=h.kept (k.below (B:=c+1) (by omega) (by have:=h.lt;omega))
abbrev kl:Array Value:=#[.string ⟨#[49]⟩,.string ⟨#[50]⟩,.string ⟨#[51]⟩,.string ⟨#[114,45,32,115,118,99,47]⟩,.string ⟨#[114,119,32,115,118,99,47,97]⟩,.string ⟨#[]⟩]
abbrev ze:Array Value:=#[.string ⟨#[]⟩,.string ⟨#[]⟩,.int .i64 0,.int .i64 0,.bool false]
abbrev x5 (x:Rw):Array Value:=#[.string x.1,.string x.2.1,.int .i64 x.2.2.1,.int .i64 x.2.2.2.1,.bool x.2.2.2.2]
abbrev pu5 (w:World) (b:Nat) (x:Rw):World:=((((w.setCell ⟨b,0,none⟩ (.string x.1)).setCell ⟨b,1,none⟩ (.string x.2.1)).setCell ⟨b,2,none⟩ (.int .i64 x.2.2.1)).setCell ⟨b,3,none⟩ (.int .i64 x.2.2.2.1)).setCell ⟨b,4,none⟩ (.bool x.2.2.2.2)
theorem pu5_box {w:World} {b:Nat} {x0 x1 x2 x3 x4:Value} {x:Rw} (h:Bo.Box w b #[x0,x1,x2,x3,x4]):Bo.Box (pu5 w b x) b (x5 x) :=
 ((((h.put (c':=#[.string x.1,x1,x2,x3,x4]) 0 _ (by simp) rfl).put (c':=#[.string x.1,.string x.2.1,x2,x3,x4]) 1 _ (by simp) rfl).put (c':=#[.string x.1,.string x.2.1,.int .i64 x.2.2.1,x3,x4]) 2 _ (by simp) rfl).put (c':=#[.string x.1,.string x.2.1,.int .i64 x.2.2.1,.int .i64 x.2.2.2.1,x4]) 3 _ (by simp) rfl).put (c':=x5 x) 4 _ (by simp) rfl
theorem pu5_only (w:World) (b:Nat) (x:Rw):Only b w (pu5 w b x):=((((((Only.refl b w).setCell 0 _).setCell 1 _).setCell 2 _).setCell 3 _).setCell 4 _)
theorem kl_at:∀ k:Nat,k<6->∃ t:ByteArray,t.size<=40∧kl[k]?=some (.string t):=fun k hk=>by
 match k,hk with
 | 0,_=>exact⟨⟨#[49]⟩,by decide,rfl⟩
 | 1,_=>exact⟨⟨#[50]⟩,by decide,rfl⟩
 | 2,_=>exact⟨⟨#[51]⟩,by decide,rfl⟩
 | 3,_=>exact⟨⟨#[114,45,32,115,118,99,47]⟩,by decide,rfl⟩
 | 4,_=>exact⟨⟨#[114,119,32,115,118,99,47,97]⟩,by decide,rfl⟩
 | 5,_=>exact⟨⟨#[]⟩,by decide,rfl⟩
structure RI (B c g2 len cap:Nat) (ad:Option Addr) (w0:World) (L:Nat->Bool) (u3 u4 u5 u6 u7 u8 u9 u10 u11 u12 u13 u14 u15 u16:Value) (w:World):Prop where
 cur:Cur B w c ad len cap
 only:Only c w0 w
 b2:Bo.Box w g2 ze
 n2:c<g2
 wc:c<w.heap.size
 wg:g2<w.heap.size
 w0s:w0.heap.size<=w.heap.size
 o14:L 14=true->L 13=true
 k0:L 0=true->u4=.pointer (some ⟨c,0,none⟩)
 k1:L 1=true->∃ t:ByteArray,u5=.string t∧t.size<=40
 k2:L 2=true->L 5=false->∃ bl:Nat,u6=.slice (some ⟨bl,0,none⟩) 6 6∧Bo.Box w bl kl∧c<bl
 k3:L 3=true->u7=.pointer (some ⟨c,0,none⟩)
 k4:L 4=true->∃ n:Nat,n<6∧u8=.int .i64 n
 k5:L 5=true->L 6=false->∃ bl n:Nat,n<6∧u9=.pointer (some ⟨bl,n,none⟩)∧Bo.Box w bl kl∧c<bl
 k6:L 6=true->∃ t:ByteArray,u10=.string t∧t.size<=40
 k7:L 7=true->u11=.pointer (some ⟨c,0,none⟩)
 k8:L 8=true->∃ y:Int,0<=y∧y<6∧u12=.int .i64 y
 k9:L 9=true->∃ y:Int,u13=.int .i64 y
 k10:L 10=true->u14=.pointer (some ⟨c,0,none⟩)
 k11:L 11=true->∃ z:Int,u15=.int .i64 z
 k12:L 12=true->∃ x:Rw,u16=rv x∧x.1.size<=40∧x.2.1.size<=40
 k13:L 13=true->∃ g:Nat,u3=.pointer (some ⟨g,0,none⟩)∧g2<g∧c<g∧w0.heap.size<=g∧(L 14=false->Bo.Box w g ze)∧(L 14=true->∃ x:Rw,x.1.size<=40∧x.2.1.size<=40∧Bo.Box w g (x5 x))
def II (B c g2 len cap:Nat) (ad:Option Addr) (w0:World) (L:Nat->Bool) (a:Act) (w:World):Prop:=∃ u3 u4 u5 u6 u7 u8 u9 u10 u11 u12 u13 u14 u15 u16:Value,a=⟨(.pointer (some ⟨c,0,none⟩)::undef::.pointer (some ⟨g2,0,none⟩)::u3::u4::u5::u6::u7::u8::u9::u10::u11::u12::u13::u14::u15::u16::undef::undef::undef::undef::undef::undef::undef::undef::undef::undef::undef::undef::undef::undef::undef::undef::undef::undef::undef::undef::undef::undef::undef::undef::undef::undef::undef::undef::undef::undef::undef::undef::undef::undef::undef::undef::undef::undef::undef::undef::undef::undef::undef::undef::undef::[]).toArray,[]⟩∧RI B c g2 len cap ad w0 L u3 u4 u5 u6 u7 u8 u9 u10 u11 u12 u13 u14 u15 u16 w
theorem RI.call {B c g2 len cap:Nat} {ad:Option Addr} {w0:World} {L:Nat->Bool} {u3 u4 u5 u6 u7 u8 u9 u10 u11 u12 u13 u14 u15 u16:Value} {w w':World} (h0:RI B c g2 len cap ad w0 L u3 u4 u5 u6 u7 u8 u9 u10 u11 u12 u13 u14 u15 u16 w) (hC:Cur B w' c ad len cap) (k:Only c w w'):RI B c g2 len cap ad w0 L u3 u4 u5 u6 u7 u8 u9 u10 u11 u12 u13 u14 u15 u16 w' :=
 ⟨hC,h0.only.trans k,box_oth h0.b2 k (by have:=h0.n2;omega),h0.n2,hC.lt,Nat.lt_of_lt_of_le h0.wg k.size,Nat.le_trans h0.w0s k.size,h0.o14,h0.k0,h0.k1,fun h h2=>by obtain⟨bl,e,hb,hc⟩:=h0.k2 h h2;exact⟨bl,e,(box_oth hb k (by omega)),hc⟩,h0.k3,h0.k4,fun h h2=>by obtain⟨bl,n,hn,e,hb,hc⟩:=h0.k5 h h2;exact⟨bl,n,hn,e,(box_oth hb k (by omega)),hc⟩,h0.k6,h0.k7,h0.k8,h0.k9,h0.k10,h0.k11,h0.k12,fun h=>by obtain⟨g,e,h1,h2,h3,h4,h5⟩:=h0.k13 h;exact⟨g,e,h1,h2,h3,fun q=>(box_oth (h4 q) k (by omega)),fun q=>by obtain⟨x,s1,s2,hb⟩:=h5 q;exact⟨x,s1,s2,(box_oth hb k (by omega))⟩⟩⟩
theorem RI.alloc {B c g2 len cap:Nat} {ad:Option Addr} {w0:World} {L:Nat->Bool} {u3 u4 u5 u6 u7 u8 u9 u10 u11 u12 u13 u14 u15 u16:Value} {w:World} (h0:RI B c g2 len cap ad w0 L u3 u4 u5 u6 u7 u8 u9 u10 u11 u12 u13 u14 u15 u16 w) (ob:Obj):RI B c g2 len cap ad w0 L u3 u4 u5 u6 u7 u8 u9 u10 u11 u12 u13 u14 u15 u16 (w.alloc ob) :=
 ⟨h0.cur.kept ((Below.refl _ _).alloc (by have:=h0.wc;omega) ob),h0.only.alloc ob,h0.b2.alloc ob,h0.n2,by have:=h0.wc;simp;omega,by have:=h0.wg;simp;omega,by have:=h0.w0s;simp;omega,h0.o14,h0.k0,h0.k1,fun h h2=>by obtain⟨bl,e,hb,hc⟩:=h0.k2 h h2;exact⟨bl,e,(hb.alloc ob),hc⟩,h0.k3,h0.k4,fun h h2=>by obtain⟨bl,n,hn,e,hb,hc⟩:=h0.k5 h h2;exact⟨bl,n,hn,e,(hb.alloc ob),hc⟩,h0.k6,h0.k7,h0.k8,h0.k9,h0.k10,h0.k11,h0.k12,fun h=>by obtain⟨g,e,h1,h2,h3,h4,h5⟩:=h0.k13 h;exact⟨g,e,h1,h2,h3,fun q=>((h4 q).alloc ob),fun q=>by obtain⟨x,s1,s2,hb⟩:=h5 q;exact⟨x,s1,s2,(hb.alloc ob)⟩⟩⟩
theorem RI.s0 {B c g2 len cap:Nat} {ad:Option Addr} {w0:World} {L:Nat->Bool} {u3 u4 u5 u6 u7 u8 u9 u10 u11 u12 u13 u14 u15 u16 v:Value} {w:World} (h:RI B c g2 len cap ad w0 L u3 u4 u5 u6 u7 u8 u9 u10 u11 u12 u13 u14 u15 u16 w) (hv:v=.pointer (some ⟨c,0,none⟩)):RI B c g2 len cap ad w0 (upd L 0) u3 v u5 u6 u7 u8 u9 u10 u11 u12 u13 u14 u15 u16 w :=
 ⟨h.cur,h.only,h.b2,h.n2,h.wc,h.wg,h.w0s,h.o14,(fun _=>hv),(h.k1),(h.k2),(h.k3),(h.k4),(h.k5),(h.k6),(h.k7),(h.k8),(h.k9),(h.k10),(h.k11),(h.k12),(h.k13)⟩
theorem RI.s1 {B c g2 len cap:Nat} {ad:Option Addr} {w0:World} {L:Nat->Bool} {u3 u4 u5 u6 u7 u8 u9 u10 u11 u12 u13 u14 u15 u16 v:Value} {w:World} (h:RI B c g2 len cap ad w0 L u3 u4 u5 u6 u7 u8 u9 u10 u11 u12 u13 u14 u15 u16 w) (hv:∃ t:ByteArray,v=.string t∧t.size<=40):RI B c g2 len cap ad w0 (upd L 1) u3 u4 v u6 u7 u8 u9 u10 u11 u12 u13 u14 u15 u16 w :=
 ⟨h.cur,h.only,h.b2,h.n2,h.wc,h.wg,h.w0s,h.o14,(h.k0),(fun _=>hv),(h.k2),(h.k3),(h.k4),(h.k5),(h.k6),(h.k7),(h.k8),(h.k9),(h.k10),(h.k11),(h.k12),(h.k13)⟩
theorem RI.s2 {B c g2 len cap:Nat} {ad:Option Addr} {w0:World} {L:Nat->Bool} {u3 u4 u5 u6 u7 u8 u9 u10 u11 u12 u13 u14 u15 u16 v:Value} {w:World} (h:RI B c g2 len cap ad w0 L u3 u4 u5 u6 u7 u8 u9 u10 u11 u12 u13 u14 u15 u16 w) (hv:upd L 2 5=false->∃ bl:Nat,v=.slice (some ⟨bl,0,none⟩) 6 6∧Bo.Box w bl kl∧c<bl):RI B c g2 len cap ad w0 (upd L 2) u3 u4 u5 v u7 u8 u9 u10 u11 u12 u13 u14 u15 u16 w :=
 ⟨h.cur,h.only,h.b2,h.n2,h.wc,h.wg,h.w0s,h.o14,(h.k0),(h.k1),(fun _=>hv),(h.k3),(h.k4),(h.k5),(h.k6),(h.k7),(h.k8),(h.k9),(h.k10),(h.k11),(h.k12),(h.k13)⟩
theorem RI.s3 {B c g2 len cap:Nat} {ad:Option Addr} {w0:World} {L:Nat->Bool} {u3 u4 u5 u6 u7 u8 u9 u10 u11 u12 u13 u14 u15 u16 v:Value} {w:World} (h:RI B c g2 len cap ad w0 L u3 u4 u5 u6 u7 u8 u9 u10 u11 u12 u13 u14 u15 u16 w) (hv:v=.pointer (some ⟨c,0,none⟩)):RI B c g2 len cap ad w0 (upd L 3) u3 u4 u5 u6 v u8 u9 u10 u11 u12 u13 u14 u15 u16 w :=
 ⟨h.cur,h.only,h.b2,h.n2,h.wc,h.wg,h.w0s,h.o14,(h.k0),(h.k1),(h.k2),(fun _=>hv),(h.k4),(h.k5),(h.k6),(h.k7),(h.k8),(h.k9),(h.k10),(h.k11),(h.k12),(h.k13)⟩
theorem RI.s4 {B c g2 len cap:Nat} {ad:Option Addr} {w0:World} {L:Nat->Bool} {u3 u4 u5 u6 u7 u8 u9 u10 u11 u12 u13 u14 u15 u16 v:Value} {w:World} (h:RI B c g2 len cap ad w0 L u3 u4 u5 u6 u7 u8 u9 u10 u11 u12 u13 u14 u15 u16 w) (hv:∃ n:Nat,n<6∧v=.int .i64 n):RI B c g2 len cap ad w0 (upd L 4) u3 u4 u5 u6 u7 v u9 u10 u11 u12 u13 u14 u15 u16 w :=
 ⟨h.cur,h.only,h.b2,h.n2,h.wc,h.wg,h.w0s,h.o14,(h.k0),(h.k1),(h.k2),(h.k3),(fun _=>hv),(h.k5),(h.k6),(h.k7),(h.k8),(h.k9),(h.k10),(h.k11),(h.k12),(h.k13)⟩
theorem RI.s5 {B c g2 len cap:Nat} {ad:Option Addr} {w0:World} {L:Nat->Bool} {u3 u4 u5 u6 u7 u8 u9 u10 u11 u12 u13 u14 u15 u16 v:Value} {w:World} (h:RI B c g2 len cap ad w0 L u3 u4 u5 u6 u7 u8 u9 u10 u11 u12 u13 u14 u15 u16 w) (hv:upd L 5 6=false->∃ bl n:Nat,n<6∧v=.pointer (some ⟨bl,n,none⟩)∧Bo.Box w bl kl∧c<bl):RI B c g2 len cap ad w0 (upd L 5) u3 u4 u5 u6 u7 u8 v u10 u11 u12 u13 u14 u15 u16 w :=
 ⟨h.cur,h.only,h.b2,h.n2,h.wc,h.wg,h.w0s,h.o14,(h.k0),(h.k1),(fun _ q=>by cases q),(h.k3),(h.k4),(fun _=>hv),(h.k6),(h.k7),(h.k8),(h.k9),(h.k10),(h.k11),(h.k12),(h.k13)⟩
theorem RI.s6 {B c g2 len cap:Nat} {ad:Option Addr} {w0:World} {L:Nat->Bool} {u3 u4 u5 u6 u7 u8 u9 u10 u11 u12 u13 u14 u15 u16 v:Value} {w:World} (h:RI B c g2 len cap ad w0 L u3 u4 u5 u6 u7 u8 u9 u10 u11 u12 u13 u14 u15 u16 w) (hv:∃ t:ByteArray,v=.string t∧t.size<=40):RI B c g2 len cap ad w0 (upd L 6) u3 u4 u5 u6 u7 u8 u9 v u11 u12 u13 u14 u15 u16 w :=
 ⟨h.cur,h.only,h.b2,h.n2,h.wc,h.wg,h.w0s,h.o14,(h.k0),(h.k1),(h.k2),(h.k3),(h.k4),(fun _ q=>by cases q),(fun _=>hv),(h.k7),(h.k8),(h.k9),(h.k10),(h.k11),(h.k12),(h.k13)⟩
theorem RI.s7 {B c g2 len cap:Nat} {ad:Option Addr} {w0:World} {L:Nat->Bool} {u3 u4 u5 u6 u7 u8 u9 u10 u11 u12 u13 u14 u15 u16 v:Value} {w:World} (h:RI B c g2 len cap ad w0 L u3 u4 u5 u6 u7 u8 u9 u10 u11 u12 u13 u14 u15 u16 w) (hv:v=.pointer (some ⟨c,0,none⟩)):RI B c g2 len cap ad w0 (upd L 7) u3 u4 u5 u6 u7 u8 u9 u10 v u12 u13 u14 u15 u16 w :=
 ⟨h.cur,h.only,h.b2,h.n2,h.wc,h.wg,h.w0s,h.o14,(h.k0),(h.k1),(h.k2),(h.k3),(h.k4),(h.k5),(h.k6),(fun _=>hv),(h.k8),(h.k9),(h.k10),(h.k11),(h.k12),(h.k13)⟩
theorem RI.s8 {B c g2 len cap:Nat} {ad:Option Addr} {w0:World} {L:Nat->Bool} {u3 u4 u5 u6 u7 u8 u9 u10 u11 u12 u13 u14 u15 u16 v:Value} {w:World} (h:RI B c g2 len cap ad w0 L u3 u4 u5 u6 u7 u8 u9 u10 u11 u12 u13 u14 u15 u16 w) (hv:∃ y:Int,0<=y∧y<6∧v=.int .i64 y):RI B c g2 len cap ad w0 (upd L 8) u3 u4 u5 u6 u7 u8 u9 u10 u11 v u13 u14 u15 u16 w :=
 ⟨h.cur,h.only,h.b2,h.n2,h.wc,h.wg,h.w0s,h.o14,(h.k0),(h.k1),(h.k2),(h.k3),(h.k4),(h.k5),(h.k6),(h.k7),(fun _=>hv),(h.k9),(h.k10),(h.k11),(h.k12),(h.k13)⟩
theorem RI.s9 {B c g2 len cap:Nat} {ad:Option Addr} {w0:World} {L:Nat->Bool} {u3 u4 u5 u6 u7 u8 u9 u10 u11 u12 u13 u14 u15 u16 v:Value} {w:World} (h:RI B c g2 len cap ad w0 L u3 u4 u5 u6 u7 u8 u9 u10 u11 u12 u13 u14 u15 u16 w) (hv:∃ y:Int,v=.int .i64 y):RI B c g2 len cap ad w0 (upd L 9) u3 u4 u5 u6 u7 u8 u9 u10 u11 u12 v u14 u15 u16 w :=
 ⟨h.cur,h.only,h.b2,h.n2,h.wc,h.wg,h.w0s,h.o14,(h.k0),(h.k1),(h.k2),(h.k3),(h.k4),(h.k5),(h.k6),(h.k7),(h.k8),(fun _=>hv),(h.k10),(h.k11),(h.k12),(h.k13)⟩
theorem RI.s10 {B c g2 len cap:Nat} {ad:Option Addr} {w0:World} {L:Nat->Bool} {u3 u4 u5 u6 u7 u8 u9 u10 u11 u12 u13 u14 u15 u16 v:Value} {w:World} (h:RI B c g2 len cap ad w0 L u3 u4 u5 u6 u7 u8 u9 u10 u11 u12 u13 u14 u15 u16 w) (hv:v=.pointer (some ⟨c,0,none⟩)):RI B c g2 len cap ad w0 (upd L 10) u3 u4 u5 u6 u7 u8 u9 u10 u11 u12 u13 v u15 u16 w :=
 ⟨h.cur,h.only,h.b2,h.n2,h.wc,h.wg,h.w0s,h.o14,(h.k0),(h.k1),(h.k2),(h.k3),(h.k4),(h.k5),(h.k6),(h.k7),(h.k8),(h.k9),(fun _=>hv),(h.k11),(h.k12),(h.k13)⟩
theorem RI.s11 {B c g2 len cap:Nat} {ad:Option Addr} {w0:World} {L:Nat->Bool} {u3 u4 u5 u6 u7 u8 u9 u10 u11 u12 u13 u14 u15 u16 v:Value} {w:World} (h:RI B c g2 len cap ad w0 L u3 u4 u5 u6 u7 u8 u9 u10 u11 u12 u13 u14 u15 u16 w) (hv:∃ z:Int,v=.int .i64 z):RI B c g2 len cap ad w0 (upd L 11) u3 u4 u5 u6 u7 u8 u9 u10 u11 u12 u13 u14 v u16 w :=
 ⟨h.cur,h.only,h.b2,h.n2,h.wc,h.wg,h.w0s,h.o14,(h.k0),(h.k1),(h.k2),(h.k3),(h.k4),(h.k5),(h.k6),(h.k7),(h.k8),(h.k9),(h.k10),(fun _=>hv),(h.k12),(h.k13)⟩
theorem RI.s12 {B c g2 len cap:Nat} {ad:Option Addr} {w0:World} {L:Nat->Bool} {u3 u4 u5 u6 u7 u8 u9 u10 u11 u12 u13 u14 u15 u16 v:Value} {w:World} (h:RI B c g2 len cap ad w0 L u3 u4 u5 u6 u7 u8 u9 u10 u11 u12 u13 u14 u15 u16 w) (hv:∃ x:Rw,v=rv x∧x.1.size<=40∧x.2.1.size<=40):RI B c g2 len cap ad w0 (upd L 12) u3 u4 u5 u6 u7 u8 u9 u10 u11 u12 u13 u14 u15 v w :=
 ⟨h.cur,h.only,h.b2,h.n2,h.wc,h.wg,h.w0s,h.o14,(h.k0),(h.k1),(h.k2),(h.k3),(h.k4),(h.k5),(h.k6),(h.k7),(h.k8),(h.k9),(h.k10),(h.k11),(fun _=>hv),(h.k13)⟩
theorem RI.s13 {B c g2 len cap:Nat} {ad:Option Addr} {w0:World} {L:Nat->Bool} {u3 u4 u5 u6 u7 u8 u9 u10 u11 u12 u13 u14 u15 u16 v:Value} {w:World} (h:RI B c g2 len cap ad w0 L u3 u4 u5 u6 u7 u8 u9 u10 u11 u12 u13 u14 u15 u16 w) (hv:∃ g:Nat,v=.pointer (some ⟨g,0,none⟩)∧g2<g∧c<g∧w0.heap.size<=g∧(upd L 13 14=false->Bo.Box w g ze)∧(upd L 13 14=true->∃ x:Rw,x.1.size<=40∧x.2.1.size<=40∧Bo.Box w g (x5 x))):RI B c g2 len cap ad w0 (upd L 13) v u4 u5 u6 u7 u8 u9 u10 u11 u12 u13 u14 u15 u16 w :=
 ⟨h.cur,h.only,h.b2,h.n2,h.wc,h.wg,h.w0s,(fun _=>rfl),(h.k0),(h.k1),(h.k2),(h.k3),(h.k4),(h.k5),(h.k6),(h.k7),(h.k8),(h.k9),(h.k10),(h.k11),(h.k12),(fun _=>hv)⟩
def zeroS (n:Nat):ByteArray:=⟨(List.replicate n (0:UInt8)).toArray⟩
theorem zeroS_size (n:Nat):(zeroS n).size=n:=by simp[zeroS,ByteArray.size]
theorem infoU8:(Tryz.prog.info? 5).map (fun i=>(i.zero,i.size,i.bytes))=some (some (.int .u8 0),1,1):=by kernel_rfl
theorem mk_zero (n:Nat) (hn:n<=100) (W:World):(Instr.makeSlice 22 (.int .i64 (n:Int)) (.int .i64 (n:Int))).run Tryz.prog W=.ok (.slice (some ⟨W.heap.size,0,none⟩) n n) (W.alloc (.cells (madeCells #[.int .u8 0] n) 5)) :=
 run_make_row' (P:=Tryz.prog) 22 5 (.int .u8 0) 1 Tryz.underlying22 infoU8 rfl .i64 .i64 n (by omega) (by omega) W
theorem back_zero {W:World} {bl n:Nat} (h:Bo.Box W bl (madeCells #[.int .u8 0] n)):(convert 22 9 (.slice (some ⟨bl,0,none⟩) n n)).run Tryz.prog W=.ok (.string (zeroS n)) W:=by
 have:=run_convert_bytes_back (P:=Tryz.prog) W 22 9 5 ⟨bl,0,none⟩ n (List.replicate n (0:UInt8)) Tryz.underlying22 Tryz.underlying5 Tryz.underlying9 (fun j hj=>by
  have hj':j<n:=by simpa using hj
  have e:=h.at' j
  rw[<- Array.getElem?_toList,toList_madeCells_one] at e
  simp[hj'] at e
  rw[Go.WideShapes.add_plain,Nat.zero_add,e,List.getElem_replicate]
  rfl)
 rw[List.length_replicate] at this
 exact this
structure De (B:Nat) (w wx:World) (c g2 g:Nat) (a:Option Addr) (len cap:Nat) (x:Rw):Prop where
 b2:Bo.Box wx g2 ze
 b3:Bo.Box wx g (x5 x)
 cur:Cur B wx c a len cap
 only:Only c w wx
 n2:g2<g
 nc:c<g
 nw:w.heap.size<=g
 nd:c<g2
 s1:x.1.size<=41
 s2:x.2.1.size<=41
theorem De.call {B c g2 g len cap:Nat} {w wx w':World} {a:Option Addr} {x:Rw} (h:De B w wx c g2 g a len cap x) (hC:Cur B w' c a len cap) (k:Only c wx w'):De B w w' c g2 g a len cap x :=
 ⟨box_oth h.b2 k (by have:=h.nd;omega),box_oth h.b3 k (by have:=h.nc;omega),hC,h.only.trans k,h.n2,h.nc,h.nw,h.nd,h.s1,h.s2⟩
theorem De.alloc {B c g2 g len cap:Nat} {w wx:World} {a:Option Addr} {x:Rw} (h:De B w wx c g2 g a len cap x) (ob:Obj):De B w (wx.alloc ob) c g2 g a len cap x :=
 ⟨h.b2.alloc ob,h.b3.alloc ob,h.cur.kept ((Below.refl _ _).alloc (by have:=h.cur.lt;omega) ob),h.only.alloc ob,h.n2,h.nc,h.nw,h.nd,h.s1,h.s2⟩
theorem De.drew {B c g2 g len cap:Nat} {w wx:World} {a:Option Addr} {x:Rw} (h:De B w wx c g2 g a len cap x):De B w wx.drew c g2 g a len cap x :=
 ⟨h.b2.drew,h.b3.drew,h.cur.drewN 1,h.only.drew,h.n2,h.nc,h.nw,h.nd,h.s1,h.s2⟩
theorem De.set {B c g2 g len cap:Nat} {w wx:World} {a:Option Addr} {x y:Rw} (h:De B w wx c g2 g a len cap x) (i:Nat) (v:Value) (hi:i<5) (e:(x5 x).setIfInBounds i v=x5 y) (s1:y.1.size<=41) (s2:y.2.1.size<=41):De B w (wx.setCell ⟨g,i,none⟩ v) c g2 g a len cap y :=
 have k:Only g wx (wx.setCell ⟨g,i,none⟩ v):=(Only.refl g wx).setCell i v
 ⟨box_oth h.b2 k (by have:=h.n2;omega),h.b3.put i v (by simpa using hi) e,cur_beside h.cur k h.nc,only_beside h.only k h.nw,h.n2,h.nc,h.nw,h.nd,s1,s2⟩
theorem De.last {B c g2 g len cap:Nat} {w wx:World} {a:Option Addr} {x:Rw} (h:De B w wx c g2 g a len cap x) (hw:w.heap.size<=g2):Bo.Box (pu5 wx g2 x) g2 (x5 x)∧Cur B (pu5 wx g2 x) c a len cap∧Only c w (pu5 wx g2 x) :=
 ⟨pu5_box h.b2,cur_beside h.cur (pu5_only wx g2 x) h.nd,only_beside h.only (pu5_only wx g2 x) hw⟩
theorem RI.s14 {B c g2 len cap:Nat} {ad:Option Addr} {w0:World} {L:Nat->Bool} {u3 u4 u5 u6 u7 u8 u9 u10 u11 u12 u13 u14 u15 u16:Value} {w:World} {g:Nat} {x:Rw} (h:RI B c g2 len cap ad w0 L u3 u4 u5 u6 u7 u8 u9 u10 u11 u12 u13 u14 u15 u16 w) (h5:L 5=true) (h6:L 6=true) (h13:L 13=true) (e:u3=.pointer (some ⟨g,0,none⟩)) (hg:g2<g) (hc:c<g) (hw:w0.heap.size<=g) (hb:Bo.Box w g ze) (s1:x.1.size<=40) (s2:x.2.1.size<=40):RI B c g2 len cap ad w0 (upd L 14) u3 u4 u5 u6 u7 u8 u9 u10 u11 u12 u13 u14 u15 u16 (pu5 w g x) :=
 have k:=pu5_only w g x
 ⟨cur_beside h.cur k hc,only_beside h.only k hw,box_oth h.b2 k (by omega),h.n2,Nat.lt_of_lt_of_le h.wc k.size,Nat.lt_of_lt_of_le h.wg k.size,Nat.le_trans h.w0s k.size,(fun _=>h13),(h.k0),(h.k1),(fun _ q=>absurd (h5.symm.trans q) (by decide)),(h.k3),(h.k4),(fun _ q=>absurd (h6.symm.trans q) (by decide)),(h.k6),(h.k7),(h.k8),(h.k9),(h.k10),(h.k11),(h.k12),(fun _=>⟨g,e,hg,hc,hw,fun q=>(by cases q),fun _=>⟨x,s1,s2,pu5_box hb⟩⟩)⟩
structure RJ (B c g2 g len cap:Nat) (ad:Option Addr) (w0:World) (L:Nat->Bool) (v27 v28 v29 v30 v31 v32 v33 v34 v35 v36:Value) (w:World):Prop where
 d:∃ x,De B w0 w c g2 g ad len cap x
 k0:L 0=true->L 1=false->∃ bl:Nat,v27=.slice (some ⟨bl,0,none⟩) 40 40∧Bo.Box w bl (madeCells #[.int .u8 0] 40)∧g<bl
 k1:L 1=true->∃ t:ByteArray,v28=.string t∧t.size<=41
 k2:L 2=true->L 3=false->∃ bl:Nat,v29=.slice (some ⟨bl,0,none⟩) 41 41∧Bo.Box w bl (madeCells #[.int .u8 0] 41)∧g<bl
 k3:L 3=true->∃ t:ByteArray,v30=.string t∧t.size<=41
 k4:L 4=true->L 7=false->∃ (bl:Nat) (t1 t2:ByteArray),v31=.slice (some ⟨bl,0,none⟩) 3 3∧Bo.Box w bl #[.string ⟨#[]⟩,.string t1,.string t2]∧g<bl∧t1.size<=41∧t2.size<=41
 k5:L 5=true->v32=.pointer (some ⟨c,0,none⟩)
 k6:L 6=true->∃ n:Nat,n<3∧v33=.int .i64 n
 k7:L 7=true->L 8=false->∃ (bl n:Nat) (t1 t2:ByteArray),n<3∧v34=.pointer (some ⟨bl,n,none⟩)∧Bo.Box w bl #[.string ⟨#[]⟩,.string t1,.string t2]∧g<bl∧t1.size<=41∧t2.size<=41
 k8:L 8=true->∃ t:ByteArray,v35=.string t∧t.size<=41
 k9:L 9=true->v36=.pointer (some ⟨g,0,none⟩)
def JJ (B c g2 g len cap:Nat) (ad:Option Addr) (w0:World) (u4 u5 u6 u7 u8 u9 u10 u11 u12 u13 u14 u15 u16 u17 u18 u19 u20:Value) (L:Nat->Bool) (a:Act) (w:World):Prop:=∃ v27 v28 v29 v30 v31 v32 v33 v34 v35 v36:Value,a=⟨(.pointer (some ⟨c,0,none⟩)::undef::.pointer (some ⟨g2,0,none⟩)::.pointer (some ⟨g,0,none⟩)::u4::u5::u6::u7::u8::u9::u10::u11::u12::u13::u14::u15::u16::u17::u18::u19::u20::.pointer (some ⟨c,0,none⟩)::.bool true::.pointer (some ⟨c,0,none⟩)::.int .i64 0::.bool true::.bool true::v27::v28::v29::v30::v31::v32::v33::v34::v35::v36::undef::undef::undef::undef::undef::undef::undef::undef::undef::undef::undef::undef::undef::undef::undef::undef::undef::undef::undef::undef::undef::undef::undef::undef::undef::[]).toArray,[]⟩∧RJ B c g2 g len cap ad w0 L v27 v28 v29 v30 v31 v32 v33 v34 v35 v36 w
theorem RJ.call {B c g2 g len cap:Nat} {ad:Option Addr} {w0:World} {L:Nat->Bool} {v27 v28 v29 v30 v31 v32 v33 v34 v35 v36:Value} {w w':World} (h0:RJ B c g2 g len cap ad w0 L v27 v28 v29 v30 v31 v32 v33 v34 v35 v36 w) (hC:Cur B w' c ad len cap) (k:Only c w w'):RJ B c g2 g len cap ad w0 L v27 v28 v29 v30 v31 v32 v33 v34 v35 v36 w':=by
 obtain⟨x,hx⟩:=h0.d
 have hcg:=hx.nc
 exact⟨⟨x,hx.call hC k⟩,(fun h h2=>by obtain⟨bl,e,hb,hc⟩:=h0.k0 h h2;exact⟨bl,e,box_oth hb k (by omega),hc⟩),h0.k1,(fun h h2=>by obtain⟨bl,e,hb,hc⟩:=h0.k2 h h2;exact⟨bl,e,box_oth hb k (by omega),hc⟩),h0.k3,(fun h h2=>by obtain⟨bl,t1,t2,e,hb,hc,s1,s2⟩:=h0.k4 h h2;exact⟨bl,t1,t2,e,box_oth hb k (by omega),hc,s1,s2⟩),h0.k5,h0.k6,(fun h h2=>by obtain⟨bl,n,t1,t2,hn,e,hb,hc,s1,s2⟩:=h0.k7 h h2;exact⟨bl,n,t1,t2,hn,e,box_oth hb k (by omega),hc,s1,s2⟩),h0.k8,h0.k9⟩
theorem RJ.alloc {B c g2 g len cap:Nat} {ad:Option Addr} {w0:World} {L:Nat->Bool} {v27 v28 v29 v30 v31 v32 v33 v34 v35 v36:Value} {w:World} (h0:RJ B c g2 g len cap ad w0 L v27 v28 v29 v30 v31 v32 v33 v34 v35 v36 w) (ob:Obj):RJ B c g2 g len cap ad w0 L v27 v28 v29 v30 v31 v32 v33 v34 v35 v36 (w.alloc ob):=by
 obtain⟨x,hx⟩:=h0.d
 exact⟨⟨x,hx.alloc ob⟩,(fun h h2=>by obtain⟨bl,e,hb,hc⟩:=h0.k0 h h2;exact⟨bl,e,hb.alloc ob,hc⟩),h0.k1,(fun h h2=>by obtain⟨bl,e,hb,hc⟩:=h0.k2 h h2;exact⟨bl,e,hb.alloc ob,hc⟩),h0.k3,(fun h h2=>by obtain⟨bl,t1,t2,e,hb,hc,s1,s2⟩:=h0.k4 h h2;exact⟨bl,t1,t2,e,hb.alloc ob,hc,s1,s2⟩),h0.k5,h0.k6,(fun h h2=>by obtain⟨bl,n,t1,t2,hn,e,hb,hc,s1,s2⟩:=h0.k7 h h2;exact⟨bl,n,t1,t2,hn,e,hb.alloc ob,hc,s1,s2⟩),h0.k8,h0.k9⟩
theorem RJ.lt {B c g2 g len cap:Nat} {ad:Option Addr} {w0:World} {L:Nat->Bool} {v27 v28 v29 v30 v31 v32 v33 v34 v35 v36:Value} {w:World} (h0:RJ B c g2 g len cap ad w0 L v27 v28 v29 v30 v31 v32 v33 v34 v35 v36 w):g<w.heap.size:=by
 obtain⟨x,hx⟩:=h0.d
 exact hx.b3.lt
theorem RJ.s0 {B c g2 g len cap:Nat} {ad:Option Addr} {w0:World} {L:Nat->Bool} {v27 v28 v29 v30 v31 v32 v33 v34 v35 v36 v:Value} {w:World} (h:RJ B c g2 g len cap ad w0 L v27 v28 v29 v30 v31 v32 v33 v34 v35 v36 w) (hv:upd L 0 1=false->∃ bl:Nat,v=.slice (some ⟨bl,0,none⟩) 40 40∧Bo.Box w bl (madeCells #[.int .u8 0] 40)∧g<bl):RJ B c g2 g len cap ad w0 (upd L 0) v v28 v29 v30 v31 v32 v33 v34 v35 v36 w :=
 ⟨h.d,(fun _=>hv),(h.k1),(h.k2),(h.k3),(h.k4),(h.k5),(h.k6),(h.k7),(h.k8),(h.k9)⟩
theorem RJ.s1 {B c g2 g len cap:Nat} {ad:Option Addr} {w0:World} {L:Nat->Bool} {v27 v28 v29 v30 v31 v32 v33 v34 v35 v36 v:Value} {w:World} (h:RJ B c g2 g len cap ad w0 L v27 v28 v29 v30 v31 v32 v33 v34 v35 v36 w) (hv:∃ t:ByteArray,v=.string t∧t.size<=41):RJ B c g2 g len cap ad w0 (upd L 1) v27 v v29 v30 v31 v32 v33 v34 v35 v36 w :=
 ⟨h.d,(fun _ q=>by cases q),(fun _=>hv),(h.k2),(h.k3),(h.k4),(h.k5),(h.k6),(h.k7),(h.k8),(h.k9)⟩
theorem RJ.s2 {B c g2 g len cap:Nat} {ad:Option Addr} {w0:World} {L:Nat->Bool} {v27 v28 v29 v30 v31 v32 v33 v34 v35 v36 v:Value} {w:World} (h:RJ B c g2 g len cap ad w0 L v27 v28 v29 v30 v31 v32 v33 v34 v35 v36 w) (hv:upd L 2 3=false->∃ bl:Nat,v=.slice (some ⟨bl,0,none⟩) 41 41∧Bo.Box w bl (madeCells #[.int .u8 0] 41)∧g<bl):RJ B c g2 g len cap ad w0 (upd L 2) v27 v28 v v30 v31 v32 v33 v34 v35 v36 w :=
 ⟨h.d,(h.k0),(h.k1),(fun _=>hv),(h.k3),(h.k4),(h.k5),(h.k6),(h.k7),(h.k8),(h.k9)⟩
theorem RJ.s3 {B c g2 g len cap:Nat} {ad:Option Addr} {w0:World} {L:Nat->Bool} {v27 v28 v29 v30 v31 v32 v33 v34 v35 v36 v:Value} {w:World} (h:RJ B c g2 g len cap ad w0 L v27 v28 v29 v30 v31 v32 v33 v34 v35 v36 w) (hv:∃ t:ByteArray,v=.string t∧t.size<=41):RJ B c g2 g len cap ad w0 (upd L 3) v27 v28 v29 v v31 v32 v33 v34 v35 v36 w :=
 ⟨h.d,(h.k0),(h.k1),(fun _ q=>by cases q),(fun _=>hv),(h.k4),(h.k5),(h.k6),(h.k7),(h.k8),(h.k9)⟩
theorem RJ.s4 {B c g2 g len cap:Nat} {ad:Option Addr} {w0:World} {L:Nat->Bool} {v27 v28 v29 v30 v31 v32 v33 v34 v35 v36 v:Value} {w:World} (h:RJ B c g2 g len cap ad w0 L v27 v28 v29 v30 v31 v32 v33 v34 v35 v36 w) (hv:upd L 4 7=false->∃ (bl:Nat) (t1 t2:ByteArray),v=.slice (some ⟨bl,0,none⟩) 3 3∧Bo.Box w bl #[.string ⟨#[]⟩,.string t1,.string t2]∧g<bl∧t1.size<=41∧t2.size<=41):RJ B c g2 g len cap ad w0 (upd L 4) v27 v28 v29 v30 v v32 v33 v34 v35 v36 w :=
 ⟨h.d,(h.k0),(h.k1),(h.k2),(h.k3),(fun _=>hv),(h.k5),(h.k6),(h.k7),(h.k8),(h.k9)⟩
theorem RJ.s5 {B c g2 g len cap:Nat} {ad:Option Addr} {w0:World} {L:Nat->Bool} {v27 v28 v29 v30 v31 v32 v33 v34 v35 v36 v:Value} {w:World} (h:RJ B c g2 g len cap ad w0 L v27 v28 v29 v30 v31 v32 v33 v34 v35 v36 w) (hv:v=.pointer (some ⟨c,0,none⟩)):RJ B c g2 g len cap ad w0 (upd L 5) v27 v28 v29 v30 v31 v v33 v34 v35 v36 w :=
 ⟨h.d,(h.k0),(h.k1),(h.k2),(h.k3),(h.k4),(fun _=>hv),(h.k6),(h.k7),(h.k8),(h.k9)⟩
theorem RJ.s6 {B c g2 g len cap:Nat} {ad:Option Addr} {w0:World} {L:Nat->Bool} {v27 v28 v29 v30 v31 v32 v33 v34 v35 v36 v:Value} {w:World} (h:RJ B c g2 g len cap ad w0 L v27 v28 v29 v30 v31 v32 v33 v34 v35 v36 w) (hv:∃ n:Nat,n<3∧v=.int .i64 n):RJ B c g2 g len cap ad w0 (upd L 6) v27 v28 v29 v30 v31 v32 v v34 v35 v36 w :=
 ⟨h.d,(h.k0),(h.k1),(h.k2),(h.k3),(h.k4),(h.k5),(fun _=>hv),(h.k7),(h.k8),(h.k9)⟩
theorem RJ.s7 {B c g2 g len cap:Nat} {ad:Option Addr} {w0:World} {L:Nat->Bool} {v27 v28 v29 v30 v31 v32 v33 v34 v35 v36 v:Value} {w:World} (h:RJ B c g2 g len cap ad w0 L v27 v28 v29 v30 v31 v32 v33 v34 v35 v36 w) (hv:upd L 7 8=false->∃ (bl n:Nat) (t1 t2:ByteArray),n<3∧v=.pointer (some ⟨bl,n,none⟩)∧Bo.Box w bl #[.string ⟨#[]⟩,.string t1,.string t2]∧g<bl∧t1.size<=41∧t2.size<=41):RJ B c g2 g len cap ad w0 (upd L 7) v27 v28 v29 v30 v31 v32 v33 v v35 v36 w :=
 ⟨h.d,(h.k0),(h.k1),(h.k2),(h.k3),(fun _ q=>by cases q),(h.k5),(h.k6),(fun _=>hv),(h.k8),(h.k9)⟩
theorem RJ.s8 {B c g2 g len cap:Nat} {ad:Option Addr} {w0:World} {L:Nat->Bool} {v27 v28 v29 v30 v31 v32 v33 v34 v35 v36 v:Value} {w:World} (h:RJ B c g2 g len cap ad w0 L v27 v28 v29 v30 v31 v32 v33 v34 v35 v36 w) (hv:∃ t:ByteArray,v=.string t∧t.size<=41):RJ B c g2 g len cap ad w0 (upd L 8) v27 v28 v29 v30 v31 v32 v33 v34 v v36 w :=
 ⟨h.d,(h.k0),(h.k1),(h.k2),(h.k3),(h.k4),(h.k5),(h.k6),(fun _ q=>by cases q),(fun _=>hv),(h.k9)⟩
theorem RJ.s9 {B c g2 g len cap:Nat} {ad:Option Addr} {w0:World} {L:Nat->Bool} {v27 v28 v29 v30 v31 v32 v33 v34 v35 v36 v:Value} {w:World} (h:RJ B c g2 g len cap ad w0 L v27 v28 v29 v30 v31 v32 v33 v34 v35 v36 w) (hv:v=.pointer (some ⟨g,0,none⟩)):RJ B c g2 g len cap ad w0 (upd L 9) v27 v28 v29 v30 v31 v32 v33 v34 v35 v w :=
 ⟨h.d,(h.k0),(h.k1),(h.k2),(h.k3),(h.k4),(h.k5),(h.k6),(h.k7),(h.k8),(fun _=>hv)⟩
theorem RJ.s10 {B c g2 g len cap:Nat} {ad:Option Addr} {w0:World} {L:Nat->Bool} {v27 v28 v29 v30 v31 v32 v33 v34 v35 v36:Value} {w:World} {t:ByteArray} (h:RJ B c g2 g len cap ad w0 L v27 v28 v29 v30 v31 v32 v33 v34 v35 v36 w) (h1:L 1=true) (h3:L 3=true) (h7:L 7=true) (h8:L 8=true) (ht:t.size<=41):RJ B c g2 g len cap ad w0 (upd L 10) v27 v28 v29 v30 v31 v32 v33 v34 v35 v36 (w.setCell ⟨g,0,none⟩ (.string t)):=by
 obtain⟨⟨xk,xv,xt,xn,xg⟩,hx⟩:=h.d
 exact⟨⟨(t,xv,xt,xn,xg),hx.set 0 (.string t) (by decide) rfl ht hx.s2⟩,(fun _ q=>absurd (h1.symm.trans q) (by decide)),(h.k1),(fun _ q=>absurd (h3.symm.trans q) (by decide)),(h.k3),(fun _ q=>absurd (h7.symm.trans q) (by decide)),(h.k5),(h.k6),(fun _ q=>absurd (h8.symm.trans q) (by decide)),(h.k8),(h.k9)⟩
theorem three_at {t1 t2:ByteArray} (n:Nat) (hn:n<3) (s1:t1.size<=41) (s2:t2.size<=41):∃ t:ByteArray,t.size<=41∧(#[.string ⟨#[]⟩,.string t1,.string t2]:Array Value)[n]?=some (.string t):=by
 match n,hn with
 | 0,_=>exact⟨⟨#[]⟩,(show (0:Nat)<=41 by decide),rfl⟩
 | 1,_=>exact⟨t1,s1,rfl⟩
 | 2,_=>exact⟨t2,s2,rfl⟩
def DrE (B:Nat) (w:World) (c:Nat) (ad:Option Addr) (len cap:Nat) (e:Ending) (w':World):Prop:=∃ x:Rw,e=.returned (rv x)∧x.1.size<=41∧x.2.1.size<=41∧Cur B w' c ad len cap∧Only c w w'
theorem l11DrawEntry_hid (B c:Nat) (ad:Option Addr) (len cap:Nat) (w:World) (hC:Cur B w c ad len cap) :
  Calls Tryz.prog 77 #[.pointer (some ⟨c,0,none⟩)] w (DrE B w c ad len cap):=by
 have hltw:=hC.lt
 have B2:=hidIt (Bo.Box.new w ze 60)
 have C:=hidIt (hC.kept ((Below.refl (c+1) w).alloc (by omega) (.cells ze 60)))
 have O:=hidIt ((Only.refl c w).alloc (.cells ze 60))
 clear hC
 go_enter Tryz.func77,Tryz.ntmps77
 go_wp2_with (fail)
 have hw0:w.heap.size<(w.alloc (.cells ze 60)).heap.size:=by simp
 generalize w.alloc (.cells ze 60)=W0 at *
 obtain⟨g2,hg2⟩:∃ g2,w.heap.size=g2:=⟨_,rfl⟩
 rw[hg2] at B2 hw0 ⊢
 have H0:RI B c g2 len cap ad w (fun i=>decide (15<=i)) undef undef undef undef undef undef undef undef undef undef undef undef undef undef W0.drew:=⟨C.out.drewN 1,O.out.drew,B2.out.drew,by omega,C.out.lt,hw0,O.out.size,(fun h=>by cases h),(fun h=>by cases h),(fun h=>by cases h),(fun h=>by cases h),(fun h=>by cases h),(fun h=>by cases h),(fun h=>by cases h),(fun h=>by cases h),(fun h=>by cases h),(fun h=>by cases h),(fun h=>by cases h),(fun h=>by cases h),(fun h=>by cases h),(fun h=>by cases h),(fun h=>by cases h)⟩
 refine wp_region_inv (by kernel_rfl) (by kernel_rfl) (II B c g2 len cap ad w) ⟨undef,undef,undef,undef,undef,undef,undef,undef,undef,undef,undef,undef,undef,undef,rfl,H0⟩ ?_ ?_
 case refine_1 =>
  clear H0 C O B2
  intro L a W i hi hI hL hD
  have hcases:i=0∨i=1∨i=2∨i=3∨i=4∨i=5∨i=6∨i=7∨i=8∨i=9∨i=10∨i=11∨i=12∨i=13∨i=14:=by simp at hi;omega
  clear hi
  rcases hcases with rfl | rfl | rfl | rfl | rfl | rfl | rfl | rfl | rfl | rfl | rfl | rfl | rfl | rfl | rfl
  ·
   obtain⟨u3,u4,u5,u6,u7,u8,u9,u10,u11,u12,u13,u14,u15,u16,rfl,R⟩:=hI
   refine op_at rfl (fun K hK=>?_)
   go_simp
   refine hK _ _ ?_
   exact⟨_,_,_,_,_,_,_,_,_,_,_,_,_,_,rfl,R.s0 rfl⟩
  ·
   obtain⟨u3,u4,u5,u6,u7,u8,u9,u10,u11,u12,u13,u14,u15,u16,rfl,R⟩:=hI
   have ep:=R.k0 (hD 0 (by kernel_rfl))
   subst ep
   refine op_at rfl (fun K hK=>?_)
   go_simp
   refine (l11DrawKey_any B c ad len cap _ R.cur).mono ?_
   rintro e W1 ⟨t,rfl,ht,hC,hO⟩
   go_simp
   refine hK _ _ ?_
   exact⟨_,_,_,_,_,_,_,_,_,_,_,_,_,_,rfl,(R.call hC hO).s1 ⟨t,rfl,ht⟩⟩
  ·
   obtain⟨u3,u4,u5,u6,u7,u8,u9,u10,u11,u12,u13,u14,u15,u16,rfl,R⟩:=hI
   refine op_at rfl (fun K hK=>?_)
   go_simp
   refine hK _ _ ?_
   exact⟨_,_,_,_,_,_,_,_,_,_,_,_,_,_,rfl,(R.alloc _).s2 (fun _=>⟨_,rfl,Bo.Box.new W kl 9,R.wc⟩)⟩
  ·
   obtain⟨u3,u4,u5,u6,u7,u8,u9,u10,u11,u12,u13,u14,u15,u16,rfl,R⟩:=hI
   refine op_at rfl (fun K hK=>?_)
   go_simp
   refine hK _ _ ?_
   exact⟨_,_,_,_,_,_,_,_,_,_,_,_,_,_,rfl,R.s3 rfl⟩
  ·
   obtain⟨u3,u4,u5,u6,u7,u8,u9,u10,u11,u12,u13,u14,u15,u16,rfl,R⟩:=hI
   have ep:=R.k3 (hD 3 (by kernel_rfl))
   subst ep
   refine op_at rfl (fun K hK=>?_)
   go_simp
   refine (l1Below_any B c ad len cap 6 _ (by decide) R.cur).mono ?_
   rintro e W1 ⟨x,x0,x1,rfl,hC,hO⟩
   go_simp
   refine hK _ _ ?_
   exact⟨_,_,_,_,_,_,_,_,_,_,_,_,_,_,rfl,(R.call hC hO).s4 ⟨x.toNat,by omega,by rw[Int.toNat_of_nonneg x0]⟩⟩
  ·
   obtain⟨u3,u4,u5,u6,u7,u8,u9,u10,u11,u12,u13,u14,u15,u16,rfl,R⟩:=hI
   obtain⟨bl,e6,hb,hcb⟩:=R.k2 (hD 2 (by kernel_rfl)) hL
   subst e6
   obtain⟨n,hn,e8⟩:=R.k4 (hD 4 (by kernel_rfl))
   subst e8
   have hn1:(n:Int)<6:=by omega
   refine op_at rfl (fun K hK=>?_)
   go_simp
   refine hK _ _ ?_
   exact⟨_,_,_,_,_,_,_,_,_,_,_,_,_,_,rfl,R.s5 (fun _=>⟨bl,n,hn,rfl,hb,hcb⟩)⟩
  ·
   obtain⟨u3,u4,u5,u6,u7,u8,u9,u10,u11,u12,u13,u14,u15,u16,rfl,R⟩:=hI
   obtain⟨bl,n,hn,e9,hb,hcb⟩:=R.k5 (hD 5 (by kernel_rfl)) hL
   subst e9
   obtain⟨t,ht,et⟩:=kl_at n hn
   have hc1:=hb.c n et
   refine op_at rfl (fun K hK=>?_)
   go_simp
   refine hK _ _ ?_
   exact⟨_,_,_,_,_,_,_,_,_,_,_,_,_,_,rfl,R.s6 ⟨t,rfl,ht⟩⟩
  ·
   obtain⟨u3,u4,u5,u6,u7,u8,u9,u10,u11,u12,u13,u14,u15,u16,rfl,R⟩:=hI
   refine op_at rfl (fun K hK=>?_)
   go_simp
   refine hK _ _ ?_
   exact⟨_,_,_,_,_,_,_,_,_,_,_,_,_,_,rfl,R.s7 rfl⟩
  ·
   obtain⟨u3,u4,u5,u6,u7,u8,u9,u10,u11,u12,u13,u14,u15,u16,rfl,R⟩:=hI
   have ep:=R.k7 (hD 7 (by kernel_rfl))
   subst ep
   refine op_at rfl (fun K hK=>?_)
   go_simp
   refine (l1Below_any B c ad len cap 6 _ (by decide) R.cur).mono ?_
   rintro e W1 ⟨x,x0,x1,rfl,hC,hO⟩
   go_simp
   refine hK _ _ ?_
   exact⟨_,_,_,_,_,_,_,_,_,_,_,_,_,_,rfl,(R.call hC hO).s8 ⟨x,x0,x1,rfl⟩⟩
  ·
   obtain⟨u3,u4,u5,u6,u7,u8,u9,u10,u11,u12,u13,u14,u15,u16,rfl,R⟩:=hI
   obtain⟨y,y0,y1,e12⟩:=R.k8 (hD 8 (by kernel_rfl))
   subst e12
   have hy1:¬ 9223372036854775807<1+y:=by omega
   have hy2:¬ 1+y < -9223372036854775808:=by omega
   refine op_at rfl (fun K hK=>?_)
   go_simp
   refine hK _ _ ?_
   exact⟨_,_,_,_,_,_,_,_,_,_,_,_,_,_,rfl,R.s9 ⟨_,rfl⟩⟩
  ·
   obtain⟨u3,u4,u5,u6,u7,u8,u9,u10,u11,u12,u13,u14,u15,u16,rfl,R⟩:=hI
   refine op_at rfl (fun K hK=>?_)
   go_simp
   refine hK _ _ ?_
   exact⟨_,_,_,_,_,_,_,_,_,_,_,_,_,_,rfl,R.s10 rfl⟩
  ·
   obtain⟨u3,u4,u5,u6,u7,u8,u9,u10,u11,u12,u13,u14,u15,u16,rfl,R⟩:=hI
   have ep:=R.k10 (hD 10 (by kernel_rfl))
   subst ep
   refine op_at rfl (fun K hK=>?_)
   go_simp
   refine (l1Below_any B c ad len cap 3 _ (by decide) R.cur).mono ?_
   rintro e W1 ⟨x,x0,x1,rfl,hC,hO⟩
   go_simp
   refine hK _ _ ?_
   exact⟨_,_,_,_,_,_,_,_,_,_,_,_,_,_,rfl,(R.call hC hO).s11 ⟨x,rfl⟩⟩
  ·
   obtain⟨u3,u4,u5,u6,u7,u8,u9,u10,u11,u12,u13,u14,u15,u16,rfl,R⟩:=hI
   obtain⟨t,e5,ht⟩:=R.k1 (hD 1 (by kernel_rfl))
   obtain⟨t2,e10,ht2⟩:=R.k6 (hD 6 (by kernel_rfl))
   obtain⟨y,e13⟩:=R.k9 (hD 9 (by kernel_rfl))
   obtain⟨z,e15⟩:=R.k11 (hD 11 (by kernel_rfl))
   subst e5 e10 e13 e15
   refine op_at rfl (fun K hK=>?_)
   go_simp
   refine hK _ _ ?_
   exact⟨_,_,_,_,_,_,_,_,_,_,_,_,_,_,rfl,R.s12 ⟨(t,t2,y,z,false),rfl,ht,ht2⟩⟩
  ·
   obtain⟨u3,u4,u5,u6,u7,u8,u9,u10,u11,u12,u13,u14,u15,u16,rfl,R⟩:=hI
   refine op_at rfl (fun K hK=>?_)
   go_simp
   refine hK _ _ ?_
   exact⟨_,_,_,_,_,_,_,_,_,_,_,_,_,_,rfl,(R.alloc _).s13 ⟨_,rfl,R.wg,R.wc,R.w0s,fun _=>Bo.Box.new W ze 60,fun q=>absurd (hL.symm.trans (R.o14 q)) (by decide)⟩⟩
  ·
   obtain⟨u3,u4,u5,u6,u7,u8,u9,u10,u11,u12,u13,u14,u15,u16,rfl,R⟩:=hI
   obtain⟨g,e3,hg,hc,hw,hb,_⟩:=R.k13 (hD 13 (by kernel_rfl))
   obtain⟨x,e16,s1,s2⟩:=R.k12 (hD 12 (by kernel_rfl))
   have hb:=hb hL
   subst e3 e16
   obtain⟨x0,x1,x2,x3,x4⟩:=x
   have q0:=hb.c 0 rfl
   have q1:=hb.c 1 rfl
   have q2:=hb.c 2 rfl
   have q3:=hb.c 3 rfl
   have q4:=hb.c 4 rfl
   have fz:=hb.fr
   refine op_at rfl (fun K hK=>?_)
   go_simp
   refine hK _ _ ?_
   exact⟨_,_,_,_,_,_,_,_,_,_,_,_,_,_,rfl,R.s14 (x:=(x0,x1,x2,x3,x4)) (hD 5 (by kernel_rfl)) (hD 6 (by kernel_rfl)) (hD 13 (by kernel_rfl)) rfl hg hc hw hb s1 s2⟩
 case refine_2 =>
  clear H0 C O B2
  intro L a W hI hall
  obtain⟨u3,u4,u5,u6,u7,u8,u9,u10,u11,u12,u13,u14,u15,u16,rfl,R⟩:=hI
  obtain⟨g,e3,hg,hcg,hwg,_,hx⟩:=R.k13 (hall 13)
  obtain⟨x,s1,s2,hb⟩:=hx (hall 14)
  subst e3
  have HD:Hid (De B w W c g2 g ad len cap x):=hidIt ⟨R.b2,hb,R.cur,R.only,hg,hcg,hwg,R.n2,by omega,by omega⟩
  clear R hall hx hb s1 s2 hg hcg hwg
  go_upto_if 18 with (go_at_call 47;refine (l1Once_any B c ad len cap 6 _ (by decide) HD.out.cur).mono ?_;rintro e W1 ⟨b1,rfl,hC1,hO1⟩;replace HD:=hidIt (HD.out.call hC1 hO1);clear hC1 hO1)
  go_cut [] from 17 to 20 (fun wq=>∃ x,Hid (De B w wq c g2 g ad len cap x))
  case first =>
   obtain⟨xk,xv,xt,xn,xg⟩:=x
   cases b1 with
   | false =>
    go_wp2_with (fail)
    go_meet
    case rel=>exact⟨_,HD⟩
   | true =>
    have q4:=HD.out.b3.c 4 rfl
    have q1:=HD.out.b3.c 1 rfl
    have fz:=HD.out.b3.fr
    have HD2:=hidIt ((HD.out.set (y:=(xk,xv,xt,xn,true)) 4 (.bool true) (by decide) rfl HD.out.s1 HD.out.s2).set (y:=(xk,⟨#[]⟩,xt,xn,true)) 1 (.string ⟨#[]⟩) (by decide) rfl HD.out.s1 (show (0:Nat)<=41 by decide))
    go_wp2_with (fail)
    go_meet
    case rel=>exact⟨_,HD2⟩
  case rest =>
   obtain⟨x,HD⟩:=hcut
   go_upto_if 22 with (go_at_call 47;refine (l1Once_any B c ad len cap 30 _ (by decide) HD.out.cur).mono ?_;rintro e W2 ⟨b2,rfl,hC1,hO1⟩;replace HD:=hidIt (HD.out.call hC1 hO1);clear hC1 hO1)
   go_cut [] from 21 to 60 (fun wq=>∃ x,Hid (De B w wq c g2 g ad len cap x))
   case first =>
    obtain⟨xk,xv,xt,xn,xg⟩:=x
    cases b2 with
    | false =>
     go_wp2_with (fail)
     go_meet
     case rel=>exact⟨_,HD⟩
    | true =>
     go_wp2_with (fail)
     refine (l1Below_any B c ad len cap 4 _ (by decide) HD.out.cur).mono ?_
     rintro e W3 ⟨y,y0,y1,rfl,hC3,hO3⟩
     replace HD:=hidIt (HD.out.call hC3 hO3)
     clear hC3 hO3
     have hy:y=0∨y=1∨y=2∨y=3:=by omega
     clear y0 y1
     rcases hy with rfl | rfl | rfl | rfl
     ·
      go_wp2_with (fail)
      have H0:RJ B c g2 g len cap ad w (fun i=>decide (11<=i)) undef undef undef undef undef undef undef undef undef undef W3.drew:=⟨⟨_,HD.out.drew⟩,(fun h=>by cases h),(fun h=>by cases h),(fun h=>by cases h),(fun h=>by cases h),(fun h=>by cases h),(fun h=>by cases h),(fun h=>by cases h),(fun h=>by cases h),(fun h=>by cases h),(fun h=>by cases h)⟩
      refine wp_region_inv (by kernel_rfl) (by kernel_rfl) (JJ B c g2 g len cap ad w u4 u5 u6 u7 u8 u9 u10 u11 u12 u13 u14 u15 u16 u17 u18 u19 u20) ⟨undef,undef,undef,undef,undef,undef,undef,undef,undef,undef,rfl,H0⟩ ?_ ?_
      case refine_1 =>
       clear H0 HD
       intro L a W i hi hI hL hD
       have hcases:i=0∨i=1∨i=2∨i=3∨i=4∨i=5∨i=6∨i=7∨i=8∨i=9∨i=10:=by simp at hi;omega
       clear hi
       rcases hcases with rfl | rfl | rfl | rfl | rfl | rfl | rfl | rfl | rfl | rfl | rfl
       ·
        obtain⟨v27,v28,v29,v30,v31,v32,v33,v34,v35,v36,rfl,R⟩:=hI
        have hmk:=mk_zero 40 (by decide) W
        skip
        refine op_at rfl (fun K hK=>?_)
        go_simp
        refine hK _ _ ?_
        exact⟨_,_,_,_,_,_,_,_,_,_,rfl,(R.alloc _).s0 (fun _=>⟨_,rfl,Bo.Box.new W (madeCells #[.int .u8 0] 40) 5,R.lt⟩)⟩
       ·
        obtain⟨v27,v28,v29,v30,v31,v32,v33,v34,v35,v36,rfl,R⟩:=hI
        obtain⟨bl,e,hb,hcb⟩:=R.k0 (hD 0 (by kernel_rfl)) hL
        subst e
        have hcv:=back_zero hb
        have hzs:=zeroS_size 40
        generalize zeroS 40=zs at hcv hzs
        refine op_at rfl (fun K hK=>?_)
        go_simp
        refine hK _ _ ?_
        exact⟨_,_,_,_,_,_,_,_,_,_,rfl,R.s1 ⟨zs,rfl,by omega⟩⟩
       ·
        obtain⟨v27,v28,v29,v30,v31,v32,v33,v34,v35,v36,rfl,R⟩:=hI
        have hmk:=mk_zero 41 (by decide) W
        skip
        refine op_at rfl (fun K hK=>?_)
        go_simp
        refine hK _ _ ?_
        exact⟨_,_,_,_,_,_,_,_,_,_,rfl,(R.alloc _).s2 (fun _=>⟨_,rfl,Bo.Box.new W (madeCells #[.int .u8 0] 41) 5,R.lt⟩)⟩
       ·
        obtain⟨v27,v28,v29,v30,v31,v32,v33,v34,v35,v36,rfl,R⟩:=hI
        obtain⟨bl,e,hb,hcb⟩:=R.k2 (hD 2 (by kernel_rfl)) hL
        subst e
        have hcv:=back_zero hb
        have hzs:=zeroS_size 41
        generalize zeroS 41=zs at hcv hzs
        refine op_at rfl (fun K hK=>?_)
        go_simp
        refine hK _ _ ?_
        exact⟨_,_,_,_,_,_,_,_,_,_,rfl,R.s3 ⟨zs,rfl,by omega⟩⟩
       ·
        obtain⟨v27,v28,v29,v30,v31,v32,v33,v34,v35,v36,rfl,R⟩:=hI
        obtain⟨t1,e1,ht1⟩:=R.k1 (hD 1 (by kernel_rfl))
        obtain⟨t2,e2,ht2⟩:=R.k3 (hD 3 (by kernel_rfl))
        subst e1 e2
        refine op_at rfl (fun K hK=>?_)
        go_simp
        refine hK _ _ ?_
        exact⟨_,_,_,_,_,_,_,_,_,_,rfl,(R.alloc _).s4 (fun _=>⟨_,t1,t2,rfl,Bo.Box.new W #[.string ⟨#[]⟩,.string t1,.string t2] 9,R.lt,ht1,ht2⟩)⟩
       ·
        obtain⟨v27,v28,v29,v30,v31,v32,v33,v34,v35,v36,rfl,R⟩:=hI
        refine op_at rfl (fun K hK=>?_)
        go_simp
        refine hK _ _ ?_
        exact⟨_,_,_,_,_,_,_,_,_,_,rfl,R.s5 rfl⟩
       ·
        obtain⟨v27,v28,v29,v30,v31,v32,v33,v34,v35,v36,rfl,R⟩:=hI
        have ep:=R.k5 (hD 5 (by kernel_rfl))
        subst ep
        obtain⟨xx,hxx⟩:=R.d
        refine op_at rfl (fun K hK=>?_)
        go_simp
        refine (l1Below_any B c ad len cap 3 _ (by decide) hxx.cur).mono ?_
        rintro e W1 ⟨x,x0,x1,rfl,hC,hO⟩
        go_simp
        refine hK _ _ ?_
        exact⟨_,_,_,_,_,_,_,_,_,_,rfl,(R.call hC hO).s6 ⟨x.toNat,by omega,by rw[Int.toNat_of_nonneg x0]⟩⟩
       ·
        obtain⟨v27,v28,v29,v30,v31,v32,v33,v34,v35,v36,rfl,R⟩:=hI
        obtain⟨bl,t1,t2,e,hb,hgb,s1,s2⟩:=R.k4 (hD 4 (by kernel_rfl)) hL
        obtain⟨n,hn,e2⟩:=R.k6 (hD 6 (by kernel_rfl))
        subst e e2
        have hn1:(n:Int)<3:=by omega
        refine op_at rfl (fun K hK=>?_)
        go_simp
        refine hK _ _ ?_
        exact⟨_,_,_,_,_,_,_,_,_,_,rfl,R.s7 (fun _=>⟨bl,n,t1,t2,hn,rfl,hb,hgb,s1,s2⟩)⟩
       ·
        obtain⟨v27,v28,v29,v30,v31,v32,v33,v34,v35,v36,rfl,R⟩:=hI
        obtain⟨bl,n,t1,t2,hn,e,hb,hgb,s1,s2⟩:=R.k7 (hD 7 (by kernel_rfl)) hL
        subst e
        obtain⟨t,ht,et⟩:∃ t:ByteArray,t.size<=41∧(#[.string ⟨#[]⟩,.string t1,.string t2]:Array Value)[n]?=some (.string t):=three_at n hn s1 s2
        have hc1:=hb.c n et
        refine op_at rfl (fun K hK=>?_)
        go_simp
        refine hK _ _ ?_
        exact⟨_,_,_,_,_,_,_,_,_,_,rfl,R.s8 ⟨t,rfl,ht⟩⟩
       ·
        obtain⟨v27,v28,v29,v30,v31,v32,v33,v34,v35,v36,rfl,R⟩:=hI
        refine op_at rfl (fun K hK=>?_)
        go_simp
        refine hK _ _ ?_
        exact⟨_,_,_,_,_,_,_,_,_,_,rfl,R.s9 rfl⟩
       ·
        obtain⟨v27,v28,v29,v30,v31,v32,v33,v34,v35,v36,rfl,R⟩:=hI
        have e9:=R.k9 (hD 9 (by kernel_rfl))
        obtain⟨t,e8,ht⟩:=R.k8 (hD 8 (by kernel_rfl))
        subst e9 e8
        obtain⟨⟨y0,y1,y2,y3,y4⟩,hy⟩:=R.d
        have q0:=hy.b3.c 0 rfl
        have fz:=hy.b3.fr
        refine op_at rfl (fun K hK=>?_)
        go_simp
        refine hK _ _ ?_
        exact⟨_,_,_,_,_,_,_,_,_,_,rfl,R.s10 (hD 1 (by kernel_rfl)) (hD 3 (by kernel_rfl)) (hD 7 (by kernel_rfl)) (hD 8 (by kernel_rfl)) ht⟩
      case refine_2 =>
       clear H0 HD
       intro L a W hI hall
       obtain⟨v27,v28,v29,v30,v31,v32,v33,v34,v35,v36,rfl,R⟩:=hI
       obtain⟨xz,hz⟩:=R.d
       have HZ:=hidIt hz
       clear R hall hz
       go_wp2_with (fail)
       go_meet
       case rel=>exact⟨_,HZ⟩
     ·
      go_wp2_with (fail)
      refine (l1Below_any B c ad len cap 2 _ (by decide) HD.out.cur).mono ?_
      rintro e W4 ⟨z,z0,z1,rfl,hC4,hO4⟩
      replace HD:=hidIt (HD.out.call hC4 hO4)
      clear hC4 hO4
      obtain⟨n,hn,ez⟩:∃ n:Nat,n<=41∧40+z=(n:Int):=⟨(40+z).toNat,by omega,by omega⟩
      have hmk:=mk_zero n (by omega) W4
      rw[<- ez] at hmk
      have hcv:=back_zero (Bo.Box.new W4 (madeCells #[.int .u8 0] n) 5)
      have hz2:¬ 9223372036854775807<40+z:=by omega
      have hz3:¬ 40+z < -9223372036854775808:=by omega
      have hD4:=HD.out.alloc (.cells (madeCells #[.int .u8 0] n) 5)
      have q1:=hD4.b3.c 1 rfl
      have fz:=hD4.b3.fr
      have HD4:=hidIt (hD4.set (y:=(xk,zeroS n,xt,xn,xg)) 1 (.string (zeroS n)) (by decide) rfl HD.out.s1 (by rw[zeroS_size];exact hn))
      clear hD4 ez z0 z1
      generalize zeroS n=zs at hcv HD4
      go_wp2_with (fail)
      go_meet
      case rel=>exact⟨_,HD4⟩
     ·
      go_wp2_with (fail)
      have HDa:=hidIt (HD.out.alloc (.cells #[.int .i64 0,.int .i64 1000000,.int .i64 1000001] 2))
      have LB:=hidIt (Bo.Box.new W3 #[.int .i64 0,.int .i64 1000000,.int .i64 1000001] 2)
      have hcl:c<W3.heap.size:=HD.out.cur.lt
      refine (l1Below_any B c ad len cap 3 _ (by decide) HDa.out.cur).mono ?_
      rintro e W4 ⟨z,z0,z1,rfl,hC4,hO4⟩
      have LB4:=hidIt (box_oth LB.out hO4 (by omega))
      have HD4:=hidIt (HDa.out.call hC4 hO4)
      clear hC4 hO4 HD HDa LB
      obtain⟨v,hv⟩:∃ v:Int,(#[.int .i64 0,.int .i64 1000000,.int .i64 1000001]:Array Value)[z.toNat]?=some (.int .i64 v):=by
       have hz:z=0∨z=1∨z=2:=by omega
       rcases hz with rfl | rfl | rfl
       ·
        exact⟨0,rfl⟩
       ·
        exact⟨1000000,rfl⟩
       ·
        exact⟨1000001,rfl⟩
      obtain⟨n,rfl⟩:=Int.eq_ofNat_of_zero_le z0
      have hn3:(n:Int)<3:=by omega
      have ql:=LB4.out.c n hv
      have q2:=HD4.out.b3.c 2 rfl
      have fz:=HD4.out.b3.fr
      have HD5:=hidIt (HD4.out.set (y:=(xk,xv,v,xn,xg)) 2 (.int .i64 v) (by decide) rfl HD4.out.s1 HD4.out.s2)
      clear z0 z1 hv
      go_wp2_with (fail)
      go_meet
      case rel=>exact⟨_,HD5⟩
     ·
      go_wp2_with (fail)
      have HDa:=hidIt (HD.out.alloc (.cells #[.int .i64 (-1),.int .i64 7,.int .i64 8] 2))
      have LB:=hidIt (Bo.Box.new W3 #[.int .i64 (-1),.int .i64 7,.int .i64 8] 2)
      have hcl:c<W3.heap.size:=HD.out.cur.lt
      refine (l1Below_any B c ad len cap 3 _ (by decide) HDa.out.cur).mono ?_
      rintro e W4 ⟨z,z0,z1,rfl,hC4,hO4⟩
      have LB4:=hidIt (box_oth LB.out hO4 (by omega))
      have HD4:=hidIt (HDa.out.call hC4 hO4)
      clear hC4 hO4 HD HDa LB
      obtain⟨v,hv⟩:∃ v:Int,(#[.int .i64 (-1),.int .i64 7,.int .i64 8]:Array Value)[z.toNat]?=some (.int .i64 v):=by
       have hz:z=0∨z=1∨z=2:=by omega
       rcases hz with rfl | rfl | rfl
       ·
        exact⟨-1,rfl⟩
       ·
        exact⟨7,rfl⟩
       ·
        exact⟨8,rfl⟩
      obtain⟨n,rfl⟩:=Int.eq_ofNat_of_zero_le z0
      have hn3:(n:Int)<3:=by omega
      have ql:=LB4.out.c n hv
      have q3:=HD4.out.b3.c 3 rfl
      have fz:=HD4.out.b3.fr
      have HD5:=hidIt (HD4.out.set (y:=(xk,xv,xt,v,xg)) 3 (.int .i64 v) (by decide) rfl HD4.out.s1 HD4.out.s2)
      clear z0 z1 hv
      go_wp2_with (fail)
      go_meet
      case rel=>exact⟨_,HD5⟩
   case rest =>
    obtain⟨x,HD⟩:=hcut
    obtain⟨xk,xv,xt,xn,xg⟩:=x
    have HL:=hidIt (HD.out.last (by omega))
    have HS:=hidIt (And.intro HD.out.s1 HD.out.s2)
    have q0:=HD.out.b3.c 0 rfl
    have q1:=HD.out.b3.c 1 rfl
    have q2:=HD.out.b3.c 2 rfl
    have q3:=HD.out.b3.c 3 rfl
    have q4:=HD.out.b3.c 4 rfl
    have r0:=HD.out.b2.c 0 rfl
    have r1:=HD.out.b2.c 1 rfl
    have r2:=HD.out.b2.c 2 rfl
    have r3:=HD.out.b2.c 3 rfl
    have r4:=HD.out.b2.c 4 rfl
    have fz:=HD.out.b2.fr
    clear HD
    simp only[pu5] at HL
    go_wp2_with (fail)
    generalize ((((wc.setCell ⟨g2,0,none⟩ (.string xk)).setCell ⟨g2,1,none⟩ (.string xv)).setCell ⟨g2,2,none⟩ (.int .i64 xt)).setCell ⟨g2,3,none⟩ (.int .i64 xn)).setCell ⟨g2,4,none⟩ (.bool xg)=w9 at HL ⊢
    have t0:=HL.out.1.c 0 rfl
    have t1:=HL.out.1.c 1 rfl
    have t2:=HL.out.1.c 2 rfl
    have t3:=HL.out.1.c 3 rfl
    have t4:=HL.out.1.c 4 rfl
    refine bodyPost_ret (v:=.agg #[.string xk,.string xv,.int .i64 xt,.int .i64 xn,.bool xg]) (by simp[results,Tryz.results77,go_sem,t0,t1,t2,t3,t4]) rfl ⟨(xk,xv,xt,xn,xg),rfl,HS.out.1,HS.out.2,HL.out.2.1,HL.out.2.2⟩
theorem l11DrawEntry_any (B c:Nat) (ad:Option Addr) (len cap:Nat) (w:World) (hC:Cur B w c ad len cap) :
  Calls Tryz.prog 77 #[.pointer (some ⟨c,0,none⟩)] w fun e w'=>∃ x:Rw,e=.returned (rv x)∧x.1.size<=41∧x.2.1.size<=41∧Cur B w' c ad len cap∧Only c w w':=l11DrawEntry_hid B c ad len cap w hC
end Go.Proofs.YtkeapmmochpcfaaGreat.En
namespace Go.Proofs.YtkeapmmochpcfaaGreat.En
open Go.ChangeShapes Go.WideShapes Go.ChangeAt Go.RowKit
open Bk (Bytes okE newB okBk look Ris IsJoin joinB)
open Dr
def Tame (L:List Rw):Prop:=L.length<=90∧∀ x∈L,x.1.size<=41∧x.2.1.size<=41
theorem Tame.nil:Tame []:=⟨by simp,fun x hx=>by cases hx⟩
theorem Tame.more {L:List Rw} {x:Rw} (h:Tame L) (hl:L.length<90) (h1:x.1.size<=41) (h2:x.2.1.size<=41):Tame (L++[x]) :=
 ⟨by simp;omega,fun y hy=>by
  rcases List.mem_append.1 hy with hy | hy
  ·
   exact h.2 y hy
  ·
   have:y=x:=by simpa using hy
   rw[this];exact⟨h1,h2⟩⟩
theorem Tame.at {L:List Rw} (h:Tame L) {i:Nat} (hi:i<L.length):(rat L i).1.size<=9223372036854775807∧(rat L i).2.1.size<=9223372036854775807:=by
 have:=h.2 _ (rat_mem hi)
 omega
theorem tame_join {A J:List Rw} {x:Rw} (h:Tame A) (j:IsJoin (toB A) (toB [x]) (toB J)) (hl:J.length<=90) (h1:x.1.size<=41) (h2:x.2.1.size<=41):Tame J:=by
 refine⟨hl,fun y hy=>?_⟩
 rcases j.mem (List.mem_map.2 ⟨y,hy,rfl⟩) with hm | hm
 ·
  obtain⟨z,hz,e⟩:=List.mem_map.1 hm
  rw[<- toE_inj e]
  exact h.2 z hz
 ·
  have e:toE y=toE x:=by simpa using hm
  rw[toE_inj e]
  exact⟨h1,h2⟩
theorem own_fr {w w':World} {base c:Nat} {v:Value} {L:List Rw} (h:Own w base v L) (k:Only c w w') (hc:c<base):Own w' base v L:=h.only k (.inl hc)
theorem l11Draw_any (B c:Nat) (ad:Option Addr) (len cap:Nat) (w:World) (hC:Cur B w c ad len cap) :
  Calls Tryz.prog 52 #[.pointer (some ⟨c,0,none⟩)] w fun e w'=>∃ v L,e=.returned v∧Tame L∧L.length<=6∧Own w' w.heap.size v L∧Cur B w' c ad len cap∧Only c w w':=by
 have hlt:=hC.lt
 have HC0:=hidIt (hC.kept ((Below.refl (c+1) w).alloc (by omega) (.cells #[] 60)))
 have HO0:=hidIt (Own.new w)
 have HY0:=hidIt ((Only.refl c w).alloc (.cells #[] 60))
 clear hC
 go_enter Tryz.func52,Tryz.ntmps52
 go_wp2_with (fail)
 refine (l1Below_any B c ad len cap 7 _ (by decide) HC0.out).mono ?_
 rintro e w1 ⟨x,x0,x1,rfl,hC1,hO1⟩
 obtain⟨n0,rfl⟩:=Int.eq_ofNat_of_zero_le x0
 have HC1:=hidIt hC1
 have HO1:=hidIt (own_fr HO0.out hO1 hlt)
 have HY1:=hidIt (HY0.out.trans hO1)
 have hn0:n0<=6:=by omega
 clear hC1 hO1 HC0 HO0 HY0 x0 x1
 go_wp2_with (fail)
 go_loopw [3,4] (fun s3 s4 wx=>∃ (n:Nat) (L:List Rw),s4=.int .i64 n∧n<=6∧Hid (L.length+n<=6)∧Hid (Own wx w.heap.size s3 L)∧Hid (Ris (toB L))∧Hid (Tame L)∧Hid (Cur B wx c ad len cap)∧Hid (Only c w wx)) (fun _ s4 _=>(intOf s4).toNat)
 case atStart=>exact⟨n0,[],rfl,hn0,hidIt (by simp;omega),HO1,hidIt List.Pairwise.nil,hidIt Tame.nil,HC1,HY1⟩
 case round =>
  obtain⟨n,L,rfl,hn,HL,HO,HR,HT,HC,HY⟩:=hrel
  clear HO1 HC1 HY1
  obtain⟨a,cp,ez,hle,hcm,hrd,hna,_⟩:=HO.out.form
  subst ez
  by_cases hp:0<n
  ·
   obtain⟨m,rfl⟩:∃ m,n=m+1:=⟨n - 1,by omega⟩
   have hp':(0:Int)<(m:Int)+1:=by omega
   have hm6:(m:Int)<=6:=by omega
   have hm0:(0:Int)<=(m:Int):=by omega
   clear hle hcm hrd
   have HNA:=hidIt hna
   clear hna
   generalize hll:L.length=ll at *
   have HLL:=hidIt hll
   clear hll
   go_wp2_with (fail)
   refine (l11DrawEntry_any B c ad len cap _ HC.out).mono ?_
   rintro e w2 ⟨x,rfl,s1,s2,hC2,hO2⟩
   obtain⟨xk,xv,xt,xn,xg⟩:=x
   simp only at s1 s2
   have hcl:=hC2.lt
   have hws:w.heap.size<=w2.heap.size:=Nat.le_trans HY.out.size hO2.size
   have ka:=(Below.refl w2.heap.size w2).alloc (Nat.le_refl _) (.cells #[.string xk,.string xv,.int .i64 xt,.int .i64 xn,.bool xg] 60)
   have BX:=hidIt (Bo.Box.new w2 #[.string xk,.string xv,.int .i64 xt,.int .i64 xn,.bool xg] 60)
   have HO2:=hidIt ((own_fr HO.out hO2 hlt).kept ka)
   have HC2:=hidIt (hC2.kept (ka.mono (by omega)))
   have HY2:=hidIt ((HY.out.trans hO2).trans (Only.of_below ka))
   have CE:=hidIt (fun W=>spec_EntryOk (xk,xv,xt,xn,xg) W (by simp only;omega) (by simp only;omega))
   have HRx:Hid (Ris (toB [((xk,xv,xt,xn,xg):Rw)])):=hidIt (List.pairwise_singleton _ _)
   simp only[rv] at CE
   clear hC2 hO2 ka HO HC HY
   generalize okE (toE (xk,xv,xt,xn,xg))=ok at CE
   go_wp2_with (fail)
   refine (CE.out _).mono ?_
   generalize w2.alloc (.cells #[.string xk,.string xv,.int .i64 xt,.int .i64 xn,.bool xg] 60)=wz at BX HO2 HC2 HY2 ⊢
   rintro e w3 ⟨rfl,k3⟩
   replace BX:=hidIt (BX.out.kept k3)
   replace HO2:=hidIt (HO2.out.kept k3)
   have hlz:=HC2.out.lt
   replace HC2:=hidIt (HC2.out.kept (k3.mono (by omega)))
   replace HY2:=hidIt (HY2.out.trans (Only.of_below k3))
   clear k3 CE
   cases ok with
   | false =>
    go_wp2_with (fail)
    exact⟨⟨m,L,by simp,by omega,hidIt (by have:=HL.out;have:=HLL.out;omega),HO2,HR,HT,HC2,HY2⟩,by simp[intOf]⟩
   | true =>
    have t0:=BX.out.c 0 rfl
    have t1:=BX.out.c 1 rfl
    have t2:=BX.out.c 2 rfl
    have t3:=BX.out.c 3 rfl
    have t4:=BX.out.c 4 rfl
    have kb:=(Below.refl w3.heap.size w3).alloc (Nat.le_refl _) (.cells #[.string xk,.string xv,.int .i64 xt,.int .i64 xn,.bool xg] 60)
    have HO3:=hidIt (HO2.out.kept kb)
    have hl3:=HC2.out.lt
    have HC3:=hidIt (HC2.out.kept (kb.mono (by omega)))
    have HY3:=hidIt (HY2.out.trans (Only.of_below kb))
    have hR3:Rd (w3.alloc (.cells #[.string xk,.string xv,.int .i64 xt,.int .i64 xn,.bool xg] 60)) (some ⟨w3.heap.size,0,none⟩) [(xk,xv,xt,xn,xg)]:=by
     obtain⟨_,_,e1,_,_,r,_⟩:=(Own.one w3 (xk,xv,xt,xn,xg) rfl).form
     rw[(Value.slice.inj e1).1]
     exact r
    have hrL:Rd (w3.alloc (.cells #[.string xk,.string xv,.int .i64 xt,.int .i64 xn,.bool xg] 60)) a L:=by
     obtain⟨a',_,e1,_,_,r,_⟩:=HO3.out.form
     rw[(Value.slice.inj e1).1]
     exact r
    have CJ:=hidIt (spec_l11Join a (some ⟨w3.heap.size,0,none⟩) cp 1 L [(xk,xv,xt,xn,xg)] _ hrL hR3 HNA.out HR.out HRx.out (by have:=HL.out;have:=HLL.out;simp;omega))
    rw[HLL.out] at CJ
    simp only[List.length_singleton] at CJ
    clear hR3 hrL kb BX HO2 HC2 HY2
    go_wp2_with (fail)
    refine CJ.out.mono ?_
    generalize w3.alloc (.cells #[.string xk,.string xv,.int .i64 xt,.int .i64 xn,.bool xg] 60)=wy at HO3 HC3 HY3 ⊢
    rintro e w4 ⟨v,J,rfl,_,o4,j4,l4,k4⟩
    have hl4:=HC3.out.lt
    have HC4:=hidIt (HC3.out.kept (k4.mono (by omega)))
    have HY4:=hidIt (HY3.out.trans (Only.of_below k4))
    have HO4:=hidIt (o4.mono HY3.out.size)
    have HR4:=hidIt j4.ris
    have HL4:Hid (J.length+m<=6):=hidIt (by have:=HL.out;have:=HLL.out;omega)
    have HT4:=hidIt (tame_join HT.out j4 (by have:=HL4.out;omega) s1 s2)
    clear o4 j4 l4 k4 CJ
    go_wp2_with (fail)
    exact⟨⟨m,J,by simp,by omega,HL4,HO4,HR4,HT4,HC4,HY4⟩,by simp[intOf]⟩
  ·
   have hz:n=0:=by omega
   subst hz
   go_wp2_with (fail)
   go_ret
   exact⟨_,L,rfl,HT.out,by have:=HL.out;omega,HO.out,HC.out,HY.out⟩
end Go.Proofs.YtkeapmmochpcfaaGreat.En
namespace Go.Proofs.YtkeapmmochpcfaaGreat.En
open Go.ChangeShapes Go.WideShapes Go.ChangeAt Go.RowKit
open Dr
theorem fresh_at {w:World} {k:Nat} (h:w.heap.size=k) (x:Rw) (T:TypeId):∀ j u,(rcells [x])[j]?=some u->(w.alloc (.cells (rc x) T)).cell? ((⟨k,0,none⟩:Addr).add j)=some u:=by subst h;exact fresh w x T
structure Da (B:Nat) (w wx:World) (c:Nat) (ad:Option Addr) (len cap:Nat) (v:Value) (L:List Rw):Prop where
 tame:Tame L
 own:Own wx w.heap.size v L
 cur:Cur B wx c ad len cap
 only:Only c w wx
theorem Da.call {B c len cap:Nat} {w wx w':World} {ad:Option Addr} {v:Value} {L:List Rw} (h:Da B w wx c ad len cap v L) (hC:Cur B w' c ad len cap) (k:Only c wx w') (hc:c<w.heap.size):Da B w w' c ad len cap v L :=
 ⟨h.tame,own_fr h.own k hc,hC,h.only.trans k⟩
theorem Da.low {B c len cap:Nat} {w wx w':World} {ad:Option Addr} {v:Value} {L:List Rw} (h:Da B w wx c ad len cap v L) (k:Below wx.heap.size wx w'):Da B w w' c ad len cap v L :=
 ⟨h.tame,h.own.kept k,h.cur.kept (k.mono (by have:=h.cur.lt;omega)),h.only.trans (Only.of_below k)⟩
theorem Da.grown {B c len cap:Nat} {w wx w':World} {ad:Option Addr} {v v':Value} {L M:List Rw} (h:Da B w wx c ad len cap v L) (hc:c<w.heap.size) (o:Own w' w.heap.size v' M) (g:wx.grownBy w' v.ownBlock) (t:Tame M):Da B w w' c ad len cap v' M:=by
 have kk:=grown_below h.own g (Nat.le_refl _) h.only.size
 exact⟨t,o,h.cur.kept (kk.mono (by omega)),⟨kk.os.trans h.only.os,kk.tape.trans h.only.tape,kk.output.trans h.only.output,Nat.le_trans h.only.size kk.size,fun i hi hne=>(kk.block i hi).trans (h.only.block i hi hne)⟩⟩
theorem Da.fresh {B c len cap:Nat} {w wx:World} {ad:Option Addr} {v:Value} {L:List Rw} (h:Da B w wx c ad len cap v L):Da B w (wx.alloc (.cells #[] 60)) c ad len cap (.slice (some ⟨wx.heap.size,0,none⟩) 0 0) [] :=
 have k:=(Below.refl wx.heap.size wx).alloc (Nat.le_refl _) (.cells #[] 60)
 ⟨Tame.nil,(Own.new wx).mono h.only.size,h.cur.kept (k.mono (by have:=h.cur.lt;omega)),h.only.trans (Only.of_below k)⟩
theorem l11DrawAny_any (B c:Nat) (ad:Option Addr) (len cap:Nat) (w:World) (hC:Cur B w c ad len cap) :
  Calls Tryz.prog 54 #[.pointer (some ⟨c,0,none⟩)] w fun e w'=>∃ v L,e=.returned v∧Tame L∧Own w' w.heap.size v L∧Cur B w' c ad len cap∧Only c w w':=by
 obtain⟨i0,hi0,hz0,hz1,hz2⟩:=info_parts infoRw
 have hlt:=hC.lt
 have HC0:=hidIt hC
 clear hC
 go_enter Tryz.func54,Tryz.ntmps54
 go_wp2_with (fail)
 refine (l11Draw_any B c ad len cap _ HC0.out).mono ?_
 rintro e w1 ⟨v,L,rfl,t1,l1,o1,hC1,hO1⟩
 have HD:Hid (Da B w w1 c ad len cap v L):=hidIt ⟨t1,o1,hC1,hO1⟩
 have HL:Hid (L.length<=6):=hidIt l1
 clear t1 l1 o1 hC1 hO1 HC0
 go_upto_if 8 with (go_at_call 47;refine (l1Once_any B c ad len cap 14 _ (by decide) HD.out.cur).mono ?_;rintro e W1 ⟨b1,rfl,hC1,hO1⟩;replace HD:=hidIt (HD.out.call hC1 hO1 hlt);clear hC1 hO1)
 go_cut [3] from 9 to 13 (fun s3 wq=>∃ L,Hid (Da B w wq c ad len cap s3 L))
 case first =>
  cases b1 with
  | false =>
   go_wp2_with (fail)
   go_meet
   case rel=>exact⟨_,HD⟩
  | true =>
   obtain⟨a,cp,ez,_⟩:=HD.out.own.form
   subst ez
   generalize hll:L.length=ll at *
   have HLL:=hidIt hll
   clear hll
   go_wp2_with (fail)
   refine (l11DrawEntry_any B c ad len cap _ HD.out.cur).mono ?_
   rintro e W2 ⟨x,rfl,s1,s2,hC2,hO2⟩
   replace HD:=hidIt (HD.out.call hC2 hO2 hlt)
   clear hC2 hO2
   obtain⟨xk,xv,xt,xn,xg⟩:=x
   simp only at s1 s2
   have HDa:=hidIt (HD.out.low ((Below.refl W2.heap.size W2).alloc (Nat.le_refl _) (.cells #[.string xk,.string xv,.int .i64 xt,.int .i64 xn,.bool xg] 60)))
   have HOw:Hid (World.ownsRow (W2.alloc (.cells #[.string xk,.string xv,.int .i64 xt,.int .i64 xn,.bool xg] 60)) w.heap.size 60 5 (.slice a ll cp) ll (rcells L)):=hidIt (by have:=HDa.out.own;unfold Own at this;rw[HLL.out] at this;exact this)
   go_wp2_with (first | (at_builtin;refine wpList_append_own _ rfl _ _ 29 rfl w.heap.size 60 i0 (.agg #[.string ByteArray.empty,.string ByteArray.empty,.int .i64 0,.int .i64 0,.bool false]) 5 56 Tryz.underlying29 hi0 hz0 hz1 hz2 rfl (by decide) _ _ _ rfl HOw.out ⟨W2.heap.size,0,none⟩ 1 1 [.string xk,.string xv,.int .i64 xt,.int .i64 xn,.bool xg] rfl rfl (fresh W2 (xk,xv,xt,xn,xg) 60) (rcells_one [(xk,xv,xt,xn,xg)]) ?ca1 ?ca2 ?ca3 ?_))
   case ca1=>unfold maxLen;have:=HL.out;omega
   case ca2=>have:=HL.out;omega
   case ca3=>exact HDa.out.only.size
   intro v' w9 hown hgrow _
   have HD9:=hidIt (HDa.out.grown hlt (M:=L++[(xk,xv,xt,xn,xg)]) (Own.more (L:=L) (M:=[(xk,xv,xt,xn,xg)]) (by rw[HLL.out];exact hown)) hgrow (HDa.out.tame.more (by have:=HL.out;have:=HLL.out;omega) s1 s2))
   clear hown hgrow
   go_wp2_with (fail)
   go_meet
   case rel=>exact⟨_,HD9⟩
 case rest =>
  obtain⟨L,HD⟩:=hcut
  clear HL
  go_upto_if 15 with (go_at_call 47;refine (l1Once_any B c ad len cap 40 _ (by decide) HD.out.cur).mono ?_;rintro e W1 ⟨b1,rfl,hC1,hO1⟩;replace HD:=hidIt (HD.out.call hC1 hO1 hlt);clear hC1 hO1)
  cases b1 with
  | false =>
   go_wp2_with (fail)
   go_ret
   exact⟨_,L,rfl,HD.out.tame,HD.out.own,HD.out.cur,HD.out.only⟩
  | true =>
   have HDf:=hidIt HD.out.fresh
   clear HD
   go_wp2_with (fail)
   go_loopw [3,4] (fun s3 s4 wx=>∃ (i:Nat) (L:List Rw),s4=.int .i64 i∧i<=80∧Hid (L.length=i)∧Hid (Da B w wx c ad len cap s3 L)) (fun _ s4 _=>(80 - intOf s4).toNat)
   case atStart=>exact⟨0,[],rfl,by omega,hidIt rfl,HDf⟩
   case round =>
    obtain⟨i,L,rfl,hi,HL,HD⟩:=hrel
    clear HDf
    obtain⟨a,cp,ez,_⟩:=HD.out.own.form
    subst ez
    by_cases hlt80:i<80
    ·
     have hi1:(i:Int)<80:=by omega
     have hi2:(0:Int)<=(i:Int):=by omega
     have hcv:=Nm.cv1 (48+i) (by omega) wr
     rw[show ((48+i:Nat):Int)=48+(i:Int) by omega] at hcv
     obtain⟨kt,ekt,hkt⟩:∃ kt:ByteArray,(⟨#[UInt8.ofNat (48+i)]⟩:ByteArray)=kt∧kt.size<=41:=⟨_,rfl,(show (1:Nat)<=41 by decide)⟩
     rw[ekt] at hcv
     clear ekt
     have HDb:=hidIt (HD.out.low (((Below.refl wr.heap.size wr).alloc (Nat.le_refl _) (.cells #[.int .u8 (48+(i:Int))] 5)).alloc (by simp) (.cells #[.string kt,.string ⟨#[]⟩,.int .i64 1,.int .i64 0,.bool false] 60)))
     generalize hll:L.length=ll at *
     have HLL:=hidIt hll
     clear hll
     have HOw:Hid (World.ownsRow ((wr.alloc (.cells #[.int .u8 (48+(i:Int))] 5)).alloc (.cells #[.string kt,.string ⟨#[]⟩,.int .i64 1,.int .i64 0,.bool false] 60)) w.heap.size 60 5 (.slice a ll cp) ll (rcells L)):=hidIt (by have:=HDb.out.own;unfold Own at this;rw[HLL.out] at this;exact this)
     go_wp2_with (first | (at_builtin;refine wpList_append_own _ rfl _ _ 29 rfl w.heap.size 60 i0 (.agg #[.string ByteArray.empty,.string ByteArray.empty,.int .i64 0,.int .i64 0,.bool false]) 5 56 Tryz.underlying29 hi0 hz0 hz1 hz2 rfl (by decide) _ _ _ rfl HOw.out ⟨wr.heap.size+1,0,none⟩ 1 1 [.string kt,.string ⟨#[]⟩,.int .i64 1,.int .i64 0,.bool false] rfl rfl (fresh_at (w:=wr.alloc (.cells #[.int .u8 (48+(i:Int))] 5)) (by simp) (kt,⟨#[]⟩,1,0,false) 60) (rcells_one [(kt,⟨#[]⟩,1,0,false)]) ?cb1 ?cb2 ?cb3 ?_))
     case cb1=>unfold maxLen;have:=HL.out;omega
     case cb2=>have:=HL.out;omega
     case cb3=>exact HDb.out.only.size
     intro v' w9 hown hgrow _
     have HD9:=hidIt (HDb.out.grown hlt (M:=L++[(kt,⟨#[]⟩,1,0,false)]) (Own.more (L:=L) (M:=[(kt,⟨#[]⟩,1,0,false)]) (by rw[HLL.out];exact hown)) hgrow (HDb.out.tame.more (x:=(kt,⟨#[]⟩,1,0,false)) (by have:=HL.out;have:=HLL.out;omega) hkt (show (0:Nat)<=41 by decide)))
     have HL9:Hid ((L++[((kt,⟨#[]⟩,1,0,false):Rw)]).length=i+1):=hidIt (by have:=HL.out;have:=HLL.out;simp;omega)
     clear hown hgrow hcv
     go_wp2_with (fail)
     exact⟨⟨i+1,_,by simp,by omega,HL9,HD9⟩,by simp[intOf];omega⟩
    ·
     have hi1:¬ (i:Int)<80:=by omega
     go_wp2_with (fail)
     go_ret
     first | exact⟨_,L,rfl,HD.out.tame,HD.out.own,HD.out.cur,HD.out.only⟩ | exact⟨_,rfl,L,HD.out.tame,HD.out.own,HD.out.cur,HD.out.only⟩
end Go.Proofs.YtkeapmmochpcfaaGreat.En
namespace Go.Proofs.YtkeapmmochpcfaaGreat.Nf
open Go Go.Conc
open Rg (upd depB all_of_ready count_upd getD_in getD_out)
section
variable {K : Rul} {P : Program} {m0 : Machine} {B : Nat → Prop} {v : World} {b : Frame} {a : Act} {k : List Item} {cs : List Frame}
theorem stand_draw {id:Nat} {ops:Array Oper} (h:Stand P m0 B (G (b.at a (.code (.region id ops true)::k)) cs) v):∃ t,Stand P m0 B (G (b.at a (.inRegion ops (Region.schedule (P.follows .mixedOrders) ops t)::k)) cs) v:=by
 obtain⟨w,h,hz⟩:=h
 obtain⟨g2,w',hh,⟨t,rfl⟩,hz'⟩:=here_goes (Stop:=fun g2 w'=>(∃ t,g2=G (b.at a (.inRegion ops (Region.schedule (P.follows .mixedOrders) ops t)::k)) cs)∧Pz B w' (on v w'.tape w'.drawn)) (fun g w h=>by obtain⟨⟨t,e⟩,_⟩:=h;rw[e];rfl) (n:=1) h (Goes.step rfl (fun w1 ⟨d,e1⟩=>by
  subst e1
  rw[stepG_region_draw,goes_go]
  refine⟨⟨Nat.le_refl _,fun e he=>by simp at he⟩,fun w3 ⟨d3,e3⟩=>?_⟩
  subst e3
  exact⟨⟨_,rfl⟩,hz.on w.tape d3⟩))
 exact⟨t,w',hh,hz'⟩
def Hands (P:Program) (m0:Machine) (b:Frame) (k:List Item) (cs:List Frame) (ops:Array Oper) (I:(Nat->Bool)->Act->World->(Nat->Prop)->Prop) (i:Nat):Prop :=
 ∀ (L:Nat->Bool) (a:Act) (v:World) (B:Nat->Prop) (rest:List Nat),I L a v B->L i=false->(∀ o,ops[i]?=some o->∀ e∈o.after,Region.binds .any e=true->L e.on=true) ->
  Stand P m0 B (G (b.at a (.inRegion ops (i::rest)::k)) cs) v->∃ a' v' B',Stand P m0 B' (G (b.at a' (.inRegion ops rest::k)) cs) v'∧I (upd L i) a' v' B'
theorem stand_go {ops:Array Oper} (hd:depB ops=true) {I:(Nat->Bool)->Act->World->(Nat->Prop)->Prop} (hs:∀ i,i<ops.size->Hands P m0 b k cs ops I i) :
  ∀ (fuel t:Nat) (l:Array Bool) (a:Act) (v:World) (B:Nat->Prop),l.size=ops.size->l.toList.count false<=fuel->I (fun i=>l.getD i true) a v B ->
   Stand P m0 B (G (b.at a (.inRegion ops (Region.linearise.go .any ops fuel t l [])::k)) cs) v->∃ a' v' B' L',Stand P m0 B' (G (b.at a' (.inRegion ops []::k)) cs) v'∧I L' a' v' B'∧∀ i,L' i=true:=by
 intro fuel
 induction fuel with
 | zero =>
  intro t l a v B hz hc hI h
  refine⟨a,v,B,_,by simpa [Region.linearise.go] using h,hI,fun i=>?_⟩
  by_cases hi:i<l.size
  ·
   cases e:l.getD i true with
   | true=>rfl
   | false =>
    exfalso
    have e':l[i]=false:=by simpa [Array.getD,hi] using e
    have:0<l.toList.count false:=List.count_pos_iff.2 (by rw[<- e'];simp)
    omega
  ·
   exact getD_out hi true
 | succ fuel ih =>
  intro t l a v B hz hc hI h
  simp only[Region.linearise.go] at h
  change Stand P m0 B (G (b.at a (.inRegion ops (match (Region.ready .any ops l)[t % (Region.ready .any ops l).length]? with
   | some i=>Region.linearise.go .any ops fuel (t / (Region.ready .any ops l).length) (l.setIfInBounds i true) [i]
   | none=>[].reverse)::k)) cs) v at h
  cases hi:(Region.ready .any ops l)[t % (Region.ready .any ops l).length]? with
  | none =>
   have hnil:Region.ready .any ops l=[]:=by
    cases hr:Region.ready .any ops l with
    | nil=>rfl
    | cons x xs =>
     rw[hr] at hi
     have hlt:t % (x::xs).length<(x::xs).length:=Nat.mod_lt _ (by simp)
     simp at hi
     simp at hlt
     omega
   rw[hi] at h
   exact⟨a,v,B,_,h,hI,all_of_ready hd hz hnil⟩
  | some i =>
   rw[hi] at h
   simp only[] at h
   rw[linearise_go_acc,List.reverse_singleton,List.singleton_append] at h
   obtain⟨h1,o,ho,h2⟩:=mem_ready.1 (List.mem_of_getElem? hi)
   have hlt:=(Array.getElem?_eq_some_iff.1 ho).1
   obtain⟨a',v',B',h',hI'⟩:=hs i hlt _ a v B _ hI h1 (fun o' ho' e he hb=>by
    rw[ho] at ho'
    cases ho'
    have hlt2:=Go.Proofs.YtkeapmmochpcfaaGreat.Rg.dep_of hd ho he hb
    rw[getD_in (by omega) true false]
    exact h2 e he hb) h
   refine ih _ _ a' v' B' (by simpa using hz) (count_upd (by omega) h1 hc) ?_ h'
   have e:(fun j=>(l.setIfInBounds i true).getD j true)=upd (fun j=>l.getD j true) i:=by
    funext j
    unfold upd
    by_cases q:j=i
    ·
     subst q
     rw[if_pos rfl]
     exact by simp[Array.getD,hz,hlt]
    ·
     rw[if_neg q]
     exact getD_set_ne true (fun z=>q z.symm)
   rw[e]
   exact hI'
theorem stand_any {id:Nat} {ops:Array Oper} (hm:P.follows .mixedOrders=true) (hd:depB ops=true) {I:(Nat->Bool)->Act->World->(Nat->Prop)->Prop} (hs:∀ i,i<ops.size->Hands P m0 b k cs ops I i) (h0:I (fun i=>decide (ops.size<=i)) a v B)
  (h:Stand P m0 B (G (b.at a (.code (.region id ops true)::k)) cs) v):∃ a' v' B' L',Stand P m0 B' (G (b.at a' k) cs) v'∧I L' a' v' B'∧∀ i,L' i=true:=by
 obtain⟨t,h⟩:=stand_draw h
 simp only[Region.schedule,hm,Bool.true_or,if_true] at h
 obtain⟨a',v',B',L',h',hI,hL⟩:=stand_go hd hs ops.size t (Array.replicate ops.size false) a v B (by simp) (by simp) (by
  have e:(fun i=>(Array.replicate ops.size false).getD i true)=fun i=>decide (ops.size<=i):=by
   funext i
   by_cases q:i<ops.size
   ·
    simp[Array.getD,q]
   ·
    simp[Array.getD,q];omega
  rw[e]
  exact h0) h
 exact⟨a',v',B',L',stand_region_end h',hI,hL⟩
end
end Go.Proofs.YtkeapmmochpcfaaGreat.Nf
