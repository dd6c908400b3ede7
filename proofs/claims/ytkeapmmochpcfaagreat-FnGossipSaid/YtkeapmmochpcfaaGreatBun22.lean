/- A list of Replicas as it lies in memory: two slices each, a book and Members; a list of the call's own, no two of whose slices share memory. -/
import Derived.Test.YtkeapmmochpcfaaGreatBun21
import Derived.Test.YtkeapmmochpcfaaGreatBun7
import Derived.Test.YtkeapmmochpcfaaGreatEntM
import Derived.Test.YtkeapmmochpcfaaGreatMem2M
import Derived.Test.YtkeapmmochpcfaaGreatBun1
import Derived.Test.YtkeapmmochpcfaaGreatMem2L
import Derived.Test.YtkeapmmochpcfaaGreatBoxM
set_option maxRecDepth 100000
set_option maxHeartbeats 32000000
set_option linter.unusedVariables false
namespace Go.Proofs.YtkeapmmochpcfaaGreat.Rp
open Go.ChangeShapes Go.WideShapes Go.ChangeAt Go.RowKit
open Vv (Sl sv hidIt)
def rat (L:List Rep) (i:Nat):Rep:=L.getD i ([],[])
theorem rat_at {L:List Rep} {i:Nat} (h:i<L.length):rat L i=L[i]:=by
 unfold rat
 rw[List.getD_eq_getElem?_getD,List.getElem?_eq_getElem h]
 rfl
theorem rat_mem {L:List Rep} {i:Nat} (h:i<L.length):rat L i∈L:=by rw[rat_at h];exact List.getElem_mem h
theorem rat_set {L:List Rep} {i j:Nat} {x:Rep} (h:i<L.length):rat (L.set i x) j=if i=j then x else rat L j:=by
 unfold rat
 rw[List.getD_eq_getElem?_getD,List.getD_eq_getElem?_getD,List.getElem?_set]
 by_cases e:i=j
 ·
  subst e;simp[h]
 ·
  simp[e]
theorem rat_app {L M:List Rep} {i:Nat} (h:i<L.length):rat (L++M) i=rat L i:=by
 unfold rat
 rw[List.getD_eq_getElem?_getD,List.getD_eq_getElem?_getD,List.getElem?_append_left h]
theorem rat_last (L:List Rep) (x:Rep):rat (L++[x]) L.length=x:=by
 unfold rat
 rw[List.getD_eq_getElem?_getD,List.getElem?_append_right (Nat.le_refl _)]
 simp
theorem take_rat {L:List Rep} {i:Nat} (h:i<L.length):L.take (i+1)=L.take i++[rat L i]:=by
 rw[List.take_add_one,List.getElem?_eq_getElem h,rat_at h]
 rfl
theorem ext_rat {L M:List Rep} (h:L.length=M.length) (e:∀ i,i<L.length->rat L i=rat M i):L=M:=by
 refine List.ext_getElem h (fun i h1 h2=>?_)
 rw[<- rat_at h1,<- rat_at h2]
 exact e i h1
theorem vat_app {L M:List Vv.Rw} {i:Nat} (h:i<L.length):Vv.rat (L++M) i=Vv.rat L i:=by
 unfold Vv.rat
 rw[List.getD_eq_getElem?_getD,List.getD_eq_getElem?_getD,List.getElem?_append_left h]
theorem vat_last (L:List Vv.Rw) (x:Vv.Rw):Vv.rat (L++[x]) L.length=x:=by
 unfold Vv.rat
 rw[List.getD_eq_getElem?_getD,List.getElem?_append_right (Nat.le_refl _)]
 simp
structure RdC (w:World) (a:Option Addr) (C:List Vv.Rw) (L:List Rep):Prop where
 len:C.length=L.length
 row:Vv.Rd w a C
 bk:∀ i,i<L.length->RdE w (Vv.rat C i).1 (rat L i).1
 mb:∀ i,i<L.length->RdM w (Vv.rat C i).2 (rat L i).2
def Rd (w:World) (a:Option Addr) (L:List Rep):Prop:=∃ C,RdC w a C L
theorem RdC.kept {w w':World} {a:Option Addr} {C:List Vv.Rw} {L:List Rep} (h:RdC w a C L) (k:Below w.heap.size w w'):RdC w' a C L :=
 ⟨h.len,h.row.kept k,fun i hi=>(h.bk i hi).kept k,fun i hi=>(h.mb i hi).kept k⟩
theorem Rd.kept {w w':World} {a:Option Addr} {L:List Rep} (h:Rd w a L) (k:Below w.heap.size w w'):Rd w' a L:=by
 obtain⟨C,h⟩:=h
 exact⟨C,h.kept k⟩
theorem Rd.one {w:World} {a:Option Addr} {L:List Rep} (h:Rd w a L) {i:Nat} (hi:i<L.length):∃ b off s t,a=some ⟨b,off,none⟩∧w.cell? ⟨b,off+i*2,none⟩=some (sv s)∧w.cell? ⟨b,off+i*2+1,none⟩=some (sv t)∧RdE w s (rat L i).1∧RdM w t (rat L i).2:=by
 obtain⟨C,h⟩:=h
 obtain⟨b,off,e,c0,c1⟩:=h.row.all (i:=i) (by rw[h.len];exact hi)
 exact⟨b,off,_,_,e,c0,c1,h.bk i hi,h.mb i hi⟩
theorem Rd.addr {w:World} {a:Option Addr} {L:List Rep} (h:Rd w a L) (hn:0<L.length):∃ b off,a=some ⟨b,off,none⟩:=by
 obtain⟨b,off,_,_,e,_⟩:=h.one hn
 exact⟨b,off,e⟩
structure OwnC (w:World) (lo hi:Nat) (v:Value) (C:List Vv.Rw) (L:List Rep):Prop where
 len:C.length=L.length
 row:Vv.Own w lo v C
 blk:∀ g,v.ownBlock=some g->g<hi
 bk:∀ i,i<L.length->En.Own w lo (sv (Vv.rat C i).1) (rat L i).1
 bb:∀ i,i<L.length->∀ g,(sv (Vv.rat C i).1).ownBlock=some g->g<hi
 mb:∀ i,i<L.length->Mm.Own w lo (sv (Vv.rat C i).2) (rat L i).2
 bm:∀ i,i<L.length->∀ g,(sv (Vv.rat C i).2).ownBlock=some g->g<hi
 db:∀ i j,i<L.length->j<L.length->i≠j->∀ g,(sv (Vv.rat C i).1).ownBlock=some g->(sv (Vv.rat C j).1).ownBlock≠some g
 dm:∀ i j,i<L.length->j<L.length->i≠j->∀ g,(sv (Vv.rat C i).2).ownBlock=some g->(sv (Vv.rat C j).2).ownBlock≠some g
 hi':hi<=w.heap.size
 lo':lo<=hi
def Own (w:World) (lo hi:Nat) (v:Value) (L:List Rep):Prop:=∃ C,OwnC w lo hi v C L
theorem OwnC.rd {w:World} {lo hi:Nat} {v:Value} {C:List Vv.Rw} {L:List Rep} (h:OwnC w lo hi v C L) {a:Option Addr} {m cap:Nat} (e:v=.slice a m cap):RdC w a C L:=by
 obtain⟨a',c',e',_,_,r,_⟩:=h.row.form
 rw[e] at e'
 obtain⟨rfl,_,_⟩:=Value.slice.inj e'
 exact⟨h.len,r,fun i hi=>rdE_of (h.bk i hi),fun i hi=>rdM_of (h.mb i hi)⟩
theorem Own.rd {w:World} {lo hi:Nat} {L:List Rep} {a:Option Addr} {m cap:Nat} (h:Own w lo hi (.slice a m cap) L):Rd w a L:=by
 obtain⟨C,h⟩:=h
 exact⟨C,h.rd rfl⟩
theorem Own.form {w:World} {lo hi:Nat} {v:Value} {L:List Rep} (h:Own w lo hi v L):∃ a cap,v=.slice a L.length cap∧L.length<=cap∧cap<=9223372036854775807∧(a=none->cap=0):=by
 obtain⟨C,h⟩:=h
 obtain⟨a',c',e',h1,h2,_,h4,_⟩:=h.row.form
 rw[h.len] at e' h1
 exact⟨a',c',e',h1,h2,h4⟩
theorem Own.formN {w:World} {lo hi m:Nat} {v:Value} {L:List Rep} (h:Own w lo hi v L) (hn:L.length=m):∃ a cap,v=.slice a m cap∧m<=cap∧cap<=9223372036854775807∧(a=none->cap=0):=by
 subst hn
 exact h.form
theorem OwnC.kept {w w':World} {lo hi:Nat} {v:Value} {C:List Vv.Rw} {L:List Rep} (h:OwnC w lo hi v C L) (k:Below w.heap.size w w'):OwnC w' lo hi v C L :=
 ⟨h.len,h.row.kept k,h.blk,fun i hi=>(h.bk i hi).kept k,h.bb,fun i hi=>(h.mb i hi).kept k,h.bm,h.db,h.dm,Nat.le_trans h.hi' k.size,h.lo'⟩
theorem Own.kept {w w':World} {lo hi:Nat} {v:Value} {L:List Rep} (h:Own w lo hi v L) (k:Below w.heap.size w w'):Own w' lo hi v L:=by
 obtain⟨C,h⟩:=h
 exact⟨C,h.kept k⟩
theorem OwnC.apart {w w':World} {lo hi lo' hi':Nat} {v:Value} {C:List Vv.Rw} {L:List Rep} (h:OwnC w lo hi v C L) (Y:OnlyIn lo' hi' w w') (hd:hi<=lo'∨hi'<=lo):OwnC w' lo hi v C L:=by
 have go:∀ (u:Value) (e s n:Nat) (xs:List Value),w.ownsRow lo e s u n xs->(∀ g,u.ownBlock=some g->g<hi)->w'.ownsRow lo e s u n xs:=fun u e s n xs hu hb =>
  row_in hu Y (fun g hg=>by have h1:=(World.ownsRow.lt hu g hg).1;have h2:=hb g hg;omega)
 exact⟨h.len,go _ _ _ _ _ h.row h.blk,h.blk,fun i hi=>go _ _ _ _ _ (h.bk i hi) (h.bb i hi),h.bb,fun i hi=>go _ _ _ _ _ (h.mb i hi) (h.bm i hi),h.bm,h.db,h.dm,Nat.le_trans h.hi' Y.size,h.lo'⟩
theorem Own.apart {w w':World} {lo hi lo' hi':Nat} {v:Value} {L:List Rep} (h:Own w lo hi v L) (Y:OnlyIn lo' hi' w w') (hd:hi<=lo'∨hi'<=lo):Own w' lo hi v L:=by
 obtain⟨C,h⟩:=h
 exact⟨C,h.apart Y hd⟩
theorem Own.mono {w:World} {lo hi lo2 hi2:Nat} {v:Value} {L:List Rep} (h:Own w lo hi v L) (h1:lo2<=lo) (h2:hi<=hi2) (h3:hi2<=w.heap.size):Own w lo2 hi2 v L:=by
 obtain⟨C,h⟩:=h
 exact⟨C,h.len,h.row.mono h1,fun g hg=>Nat.lt_of_lt_of_le (h.blk g hg) h2,fun i hi=>(h.bk i hi).mono h1,fun i hi g hg=>Nat.lt_of_lt_of_le (h.bb i hi g hg) h2,fun i hi=>(h.mb i hi).mono h1,fun i hi g hg=>Nat.lt_of_lt_of_le (h.bm i hi g hg) h2,h.db,h.dm,h3,by have:=h.lo';omega⟩
theorem Own.new (w:World):Own (w.alloc (.cells #[] 32)) w.heap.size (w.heap.size+1) (.slice (some ⟨w.heap.size,0,none⟩) 0 0) [] :=
 ⟨[],rfl,Vv.Own.new w,fun g hg=>by simp[Value.ownBlock] at hg;omega,fun i hi=>absurd hi (Nat.not_lt_zero _),fun i hi=>absurd hi (Nat.not_lt_zero _),fun i hi=>absurd hi (Nat.not_lt_zero _),fun i hi=>absurd hi (Nat.not_lt_zero _),fun i j hi=>absurd hi (Nat.not_lt_zero _),fun i j hi=>absurd hi (Nat.not_lt_zero _),by simp,by omega⟩
theorem Own.lo_le {w:World} {lo hi:Nat} {v:Value} {L:List Rep} (h:Own w lo hi v L):lo<=hi∧hi<=w.heap.size:=by
 obtain⟨C,h⟩:=h
 exact⟨h.lo',h.hi'⟩
theorem setTwo_only {w:World} {g o:Nat} {u v:Value}:Only g w ((w.setCell ⟨g,o,none⟩ u).setCell ⟨g,o+1,none⟩ v):=((Only.refl g w).setCell o u).setCell (o+1) v
theorem OwnC.put {w:World} {lo hi g m cap i:Nat} {C:List Vv.Rw} {L:List Rep} (h:OwnC w lo hi (.slice (some ⟨g,0,none⟩) m cap) C L) (hi':i<L.length) {s t:Sl} {r:Rep} (hs:En.Own w hi (sv s) r.1) (ht:Mm.Own w hi (sv t) r.2) :
  OwnC ((w.setCell ⟨g,i*2,none⟩ (sv s)).setCell ⟨g,i*2+1,none⟩ (sv t)) lo w.heap.size (.slice (some ⟨g,0,none⟩) m cap) (C.set i (s,t)) (L.set i r):=by
 have hC:i<C.length:=by rw[h.len];exact hi'
 have Y:=setTwo_only (w:=w) (g:=g) (o:=i*2) (u:=sv s) (v:=sv t)
 have sz:((w.setCell ⟨g,i*2,none⟩ (sv s)).setCell ⟨g,i*2+1,none⟩ (sv t)).heap.size=w.heap.size:=by simp[World.setCell]
 have hlo:=h.lo'
 have apE:∀ {b:Nat} {u:Value} {M:List En.Rw},En.Own w b u M->∀ x,u.ownBlock=some x->x≠g:=fun hu x hx e=>own_apart hu h.row (by decide) x hx (by rw[e];rfl)
 have apM:∀ {b:Nat} {u:Value} {M:List Mm.Rw},Mm.Own w b u M->∀ x,u.ownBlock=some x->x≠g:=fun hu x hx e=>own_apart hu h.row (by decide) x hx (by rw[e];rfl)
 refine⟨by rw[List.length_set,List.length_set];exact h.len,h.row.whole hC (s,t),fun x hx=>Nat.lt_of_lt_of_le (h.blk x hx) h.hi',fun j hj=>?_,fun j hj x hx=>?_,fun j hj=>?_,fun j hj x hx=>?_,fun j k hj hk hne x hx hy=>?_,fun j k hj hk hne x hx hy=>?_,by rw[sz];exact Nat.le_refl _,Nat.le_trans hlo h.hi'⟩
 all_goals rw[List.length_set] at hj
 ·
  rw[Vv.rat_set hC,rat_set hi']
  by_cases e:i=j
  ·
   rw[if_pos e,if_pos e]
   exact (hs.mono hlo).only Y (.inr (apE hs))
  ·
   rw[if_neg e,if_neg e]
   exact (h.bk j hj).only Y (.inr (apE (h.bk j hj)))
 ·
  rw[Vv.rat_set hC] at hx
  by_cases e:i=j
  ·
   rw[if_pos e] at hx
   exact (World.ownsRow.lt hs x hx).2
  ·
   rw[if_neg e] at hx
   exact Nat.lt_of_lt_of_le (h.bb j hj x hx) h.hi'
 ·
  rw[Vv.rat_set hC,rat_set hi']
  by_cases e:i=j
  ·
   rw[if_pos e,if_pos e]
   exact (ht.mono hlo).only Y (.inr (apM ht))
  ·
   rw[if_neg e,if_neg e]
   exact (h.mb j hj).only Y (.inr (apM (h.mb j hj)))
 ·
  rw[Vv.rat_set hC] at hx
  by_cases e:i=j
  ·
   rw[if_pos e] at hx
   exact (World.ownsRow.lt ht x hx).2
  ·
   rw[if_neg e] at hx
   exact Nat.lt_of_lt_of_le (h.bm j hj x hx) h.hi'
 ·
  rw[List.length_set] at hk
  rw[Vv.rat_set hC] at hx hy
  by_cases e:i=j
  ·
   rw[if_pos e] at hx
   rw[if_neg (by omega)] at hy
   have h1:=(World.ownsRow.lt hs x hx).1
   have h2:=h.bb k hk x hy
   omega
  ·
   rw[if_neg e] at hx
   by_cases e2:i=k
   ·
    rw[if_pos e2] at hy
    have h1:=(World.ownsRow.lt hs x hy).1
    have h2:=h.bb j hj x hx
    omega
   ·
    rw[if_neg e2] at hy
    exact h.db j k hj hk hne x hx hy
 ·
  rw[List.length_set] at hk
  rw[Vv.rat_set hC] at hx hy
  by_cases e:i=j
  ·
   rw[if_pos e] at hx
   rw[if_neg (by omega)] at hy
   have h1:=(World.ownsRow.lt ht x hx).1
   have h2:=h.bm k hk x hy
   omega
  ·
   rw[if_neg e] at hx
   by_cases e2:i=k
   ·
    rw[if_pos e2] at hy
    have h1:=(World.ownsRow.lt ht x hy).1
    have h2:=h.bm j hj x hx
    omega
   ·
    rw[if_neg e2] at hy
    exact h.dm j k hj hk hne x hx hy
theorem Own.put {w:World} {lo hi g m cap i:Nat} {L:List Rep} (h:Own w lo hi (.slice (some ⟨g,0,none⟩) m cap) L) (hi':i<L.length) {s t:Sl} {r:Rep} (hs:En.Own w hi (sv s) r.1) (ht:Mm.Own w hi (sv t) r.2) :
  Own ((w.setCell ⟨g,i*2,none⟩ (sv s)).setCell ⟨g,i*2+1,none⟩ (sv t)) lo w.heap.size (.slice (some ⟨g,0,none⟩) m cap) (L.set i r):=by
 obtain⟨C,h⟩:=h
 exact⟨_,h.put hi' hs ht⟩
theorem Own.cells {w:World} {lo hi g m cap i:Nat} {L:List Rep} (h:Own w lo hi (.slice (some ⟨g,0,none⟩) m cap) L) (hi':i<L.length):∃ s t:Sl,w.cell? ⟨g,i*2,none⟩=some (sv s)∧w.cell? ⟨g,i*2+1,none⟩=some (sv t)∧w.frozen? ⟨g,i*2,none⟩=false∧w.frozen? ⟨g,i*2+1,none⟩=false∧En.Own w lo (sv s) (rat L i).1∧Mm.Own w lo (sv t) (rat L i).2:=by
 obtain⟨C,h⟩:=h
 have hC:i<C.length:=by rw[h.len];exact hi'
 have c0:=h.row.at hC (j:=0) (by omega)
 have c1:=h.row.at hC (j:=1) (by omega)
 simp only[Vv.rcell,Nat.add_zero] at c0 c1
 exact⟨_,_,c0,c1,h.row.free _,h.row.free _,h.bk i hi',h.mb i hi'⟩
theorem Own.grow {w:World} {lo hi:Nat} {v:Value} {L:List Rep} (h:Own w lo hi v L):Own w lo w.heap.size v L:=h.mono (Nat.le_refl _) h.lo_le.2 (Nat.le_refl _)
theorem row_grown {w w':World} {b b' e e' s s' n n':Nat} {u v:Value} {xs ys:List Value} (hu:w.ownsRow b e s u n xs) (hv:w.ownsRow b' e' s' v n' ys) (g:w.grownBy w' v.ownBlock) (hd:∀ x,u.ownBlock=some x->v.ownBlock≠some x):w'.ownsRow b e s u n xs :=
 World.ownsRow.kept hu g (by
  cases hub:u.ownBlock with
  | none=>exact .inl rfl
  | some x=>exact .inr (fun e=>hd x hub e.symm))
theorem OwnC.more {w w':World} {lo hi N:Nat} {v v':Value} {C:List Vv.Rw} {L:List Rep} (h:OwnC w lo hi v C L) {s t:Sl} {r:Rep} (hv':Vv.Own w' lo v' (C++[(s,t)])) (g:w.grownBy w' v.ownBlock) (hs:En.Own w N (sv s) r.1) (ht:Mm.Own w N (sv t) r.2) (hN:hi<=N):OwnC w' lo w'.heap.size v' (C++[(s,t)]) (L++[r]):=by
 have hlo:=h.lo'
 have sz:=g.size
 have E:∀ {b:Nat} {u:Value} {M:List En.Rw},En.Own w b u M->En.Own w' b u M:=fun hu=>row_grown hu h.row g (own_apart hu h.row (by decide))
 have M:∀ {b:Nat} {u:Value} {M:List Mm.Rw},Mm.Own w b u M->Mm.Own w' b u M:=fun hu=>row_grown hu h.row g (own_apart hu h.row (by decide))
 have cs:∀ j,j<(L++[r]).length->(j<L.length∧Vv.rat (C++[(s,t)]) j=Vv.rat C j∧rat (L++[r]) j=rat L j)∨(j=L.length∧Vv.rat (C++[(s,t)]) j=(s,t)∧rat (L++[r]) j=r):=fun j hj=>by
  rw[List.length_append,List.length_singleton] at hj
  by_cases q:j<L.length
  ·
   exact .inl ⟨q,vat_app (by rw[h.len];exact q),rat_app q⟩
  ·
   obtain rfl:j=L.length:=by omega
   exact .inr ⟨rfl,by rw[<- h.len];exact vat_last C (s,t),rat_last L r⟩
 refine⟨by rw[List.length_append,List.length_append,h.len];rfl,hv',fun x hx=>(World.ownsRow.lt hv' x hx).2,fun j hj=>?_,fun j hj x hx=>?_,fun j hj=>?_,fun j hj x hx=>?_,fun j k hj hk hne x hx hy=>?_,fun j k hj hk hne x hx hy=>?_,Nat.le_refl _,Nat.le_trans hlo (Nat.le_trans h.hi' sz)⟩
 ·
  rcases cs j hj with ⟨q,e1,e2⟩ | ⟨q,e1,e2⟩
  ·
   rw[e1,e2];exact E (h.bk j q)
  ·
   rw[e1,e2];exact (E hs).mono (by omega)
 ·
  rcases cs j hj with ⟨q,e1,e2⟩ | ⟨q,e1,e2⟩
  ·
   rw[e1] at hx;exact Nat.lt_of_lt_of_le (h.bb j q x hx) (Nat.le_trans h.hi' sz)
  ·
   rw[e1] at hx;exact Nat.lt_of_lt_of_le (World.ownsRow.lt hs x hx).2 sz
 ·
  rcases cs j hj with ⟨q,e1,e2⟩ | ⟨q,e1,e2⟩
  ·
   rw[e1,e2];exact M (h.mb j q)
  ·
   rw[e1,e2];exact (M ht).mono (by omega)
 ·
  rcases cs j hj with ⟨q,e1,e2⟩ | ⟨q,e1,e2⟩
  ·
   rw[e1] at hx;exact Nat.lt_of_lt_of_le (h.bm j q x hx) (Nat.le_trans h.hi' sz)
  ·
   rw[e1] at hx;exact Nat.lt_of_lt_of_le (World.ownsRow.lt ht x hx).2 sz
 ·
  rcases cs j hj with ⟨q,e1,e2⟩ | ⟨q,e1,e2⟩<;>rcases cs k hk with ⟨q',e1',e2'⟩ | ⟨q',e1',e2'⟩<;>rw[e1] at hx<;>rw[e1'] at hy
  ·
   exact h.db j k q q' hne x hx hy
  ·
   have a1:=h.bb j q x hx;have a2:=(World.ownsRow.lt hs x hy).1;omega
  ·
   have a1:=h.bb k q' x hy;have a2:=(World.ownsRow.lt hs x hx).1;omega
  ·
   omega
 ·
  rcases cs j hj with ⟨q,e1,e2⟩ | ⟨q,e1,e2⟩<;>rcases cs k hk with ⟨q',e1',e2'⟩ | ⟨q',e1',e2'⟩<;>rw[e1] at hx<;>rw[e1'] at hy
  ·
   exact h.dm j k q q' hne x hx hy
  ·
   have a1:=h.bm j q x hx;have a2:=(World.ownsRow.lt ht x hy).1;omega
  ·
   have a1:=h.bm k q' x hy;have a2:=(World.ownsRow.lt ht x hx).1;omega
  ·
   omega
end Go.Proofs.YtkeapmmochpcfaaGreat.Rp
namespace Go.Proofs.YtkeapmmochpcfaaGreat.Rp
open Go.ChangeShapes Go.WideShapes Go.ChangeAt Go.RowKit
open Vv (Sl sv hidIt)
open Rc (BelowBy BelowBy.one wp_region_below calls_below calls_same)
def Short (L:List Rep):Prop:=∀ i,i<L.length->∀ j,j<(rat L i).1.length->(En.rat (rat L i).1 j).1.size<=9223372036854775807∧(En.rat (rat L i).1 j).2.1.size<=9223372036854775807
end Go.Proofs.YtkeapmmochpcfaaGreat.Rp
namespace Go.Proofs.YtkeapmmochpcfaaGreat.Rp
open Go.ChangeShapes Go.WideShapes Go.ChangeAt Go.RowKit
open Vv (Sl sv hidIt)
open Rc (BelowBy BelowBy.one wp_region_below calls_below calls_same)
def LstP (w:World) (L:List Rep) (e:Ending) (w':World):Prop:=∃ v,e=.returned v∧Own w' w.heap.size w'.heap.size v L∧Below w.heap.size w w'
theorem LstP.of {w w':World} {L:List Rep} {e:Ending} {v:Value} (h:e=.returned v) (h1:Own w' w.heap.size w'.heap.size v L) (h2:Below w.heap.size w w'):LstP w L e w':=⟨v,h,h1,h2⟩
theorem LstP.out {w w':World} {L:List Rep} {e:Ending} (h:LstP w L e w'):∃ v,e=.returned v∧Own w' w.heap.size w'.heap.size v L∧Below w.heap.size w w':=h
end Go.Proofs.YtkeapmmochpcfaaGreat.Rp
