/- What FnGossip asks of Told, in plain words; what DrawTold answers. -/
import Derived.Test.YtkeapmmochpcfaaGreatBun27
import Derived.Test.YtkeapmmochpcfaaGreatBun3
import Derived.Test.YtkeapmmochpcfaaGreatBun7
import Derived.Test.YtkeapmmochpcfaaGreatBun20
import Derived.Test.YtkeapmmochpcfaaGreatBun19
import Derived.Test.YtkeapmmochpcfaaGreatBun13
import Derived.Test.YtkeapmmochpcfaaGreatBun26
set_option maxRecDepth 100000
set_option maxHeartbeats 32000000
set_option linter.unusedVariables false
namespace Go.Proofs.YtkeapmmochpcfaaGreat.Rp
open Go.ChangeShapes Go.WideShapes Go.ChangeAt Go.RowKit
open Vv (Sl sv hidIt)
open Dr (Cur Code l1Below_any l1Once_any l1New_any)
theorem from_6 (B c:Nat) (a:Option Addr) (len cap:Nat) (w:World) (hC:Cur B w c a len cap) :
  Calls Tryz.prog 27 #[.pointer (some ⟨c,0,none⟩),.int .i64 (-1),.int .i64 6] w fun e w'=>∃ x:Int,e=.returned (.int .i64 x)∧Cur B w' c a len cap∧Only c w w':=by
 have HC:=hidIt hC
 clear hC
 go_enter Tryz.func27,Tryz.ntmps27
 go_wp2_with (fail)
 refine (l1Below_any B c a len cap _ _ (by decide) HC.out).mono ?_
 rintro e w1 ⟨x,x0,x1,rfl,hC1,hO1⟩
 have C1:=hidIt hC1
 have O1:=hidIt hO1
 clear hC1 hO1
 go_wp2_with (fail)
 go_ret
 exact⟨_,rfl,C1.out,O1.out⟩
def DtP (w:World) (e:Ending) (w':World):Prop:=∃ v L f t,e=.returned (.tuple #[v,.int .i64 f,.int .i64 t])∧Sm L∧Own w' w.heap.size w'.heap.size v L∧Below w.heap.size w w'
theorem DtP.of {w w':World} {e:Ending} {v:Value} {L:List Rep} {f t:Int} (h:e=.returned (.tuple #[v,.int .i64 f,.int .i64 t])) (h1:Sm L) (h2:Own w' w.heap.size w'.heap.size v L) (h3:Below w.heap.size w w'):DtP w e w':=⟨v,L,f,t,h,h1,h2,h3⟩
theorem DtP.out {w w':World} {e:Ending} (h:DtP w e w'):∃ v L f t,e=.returned (.tuple #[v,.int .i64 f,.int .i64 t])∧Sm L∧Own w' w.heap.size w'.heap.size v L∧Below w.heap.size w w':=h
theorem DrawTold_any (a:Option Addr) (len cap:Nat) (w:World) (hc:Dr.Code w.heap.size w a len) (hl:len<=4096) :
  Calls Tryz.prog 6 #[.slice a len cap] w fun e w'=>DtP w e w':=by
 have HC:=hidIt hc
 clear hc
 go_enter Tryz.func6,Tryz.ntmps6
 go_wp2_with (fail)
 refine (l1New_any _ a len cap _ (Nat.le_refl _) HC.out hl).mono ?_
 rintro e w1 ⟨c,rfl,hC1,k1⟩
 have HC1:=hidIt hC1
 have HB:=hidIt k1
 have hcl:=hC1.lt
 clear hC1 k1
 go_wp2_with (fail)
 refine (l13Draw_any _ c a len cap _ HC1.out).mono ?_
 rintro e w2 ⟨v,L,rfl,t2,o2,hC2,hO2⟩
 have HO:=hidIt o2
 have HB2:=hidIt (HB.out.trans (hO2.below (B:=w.heap.size) HC1.out.here HB.out.size))
 have HT:=hidIt t2
 have HC2:=hidIt hC2
 have HH:=hidIt HC1.out.here
 clear t2 o2 hC2 hO2 HC1
 go_wp2_with (fail)
 refine (from_6 _ c a len cap _ HC2.out).mono ?_
 rintro e w3 ⟨f,rfl,hC3,hO3⟩
 have HC3:=hidIt hC3
 have HO3:=hidIt (apart_c HO.out hO3 hcl)
 have HB3:=hidIt (HB2.out.trans (hO3.below (B:=w.heap.size) HH.out HB2.out.size))
 clear hC3 hO3 HO HB2 HC2
 go_wp2_with (fail)
 refine (from_6 _ c a len cap _ HC3.out).mono ?_
 rintro e w4 ⟨t,rfl,hC4,hO4⟩
 have HO4:=hidIt ((apart_c HO3.out hO4 hcl).grow.mono HB.out.size (Nat.le_refl _) (Nat.le_refl _))
 have HB4:=hidIt (HB3.out.trans (hO4.below (B:=w.heap.size) HH.out HB3.out.size))
 clear hC4 hO4 HO3 HB3 HC3
 go_wp2_with (fail)
 refine bodyPost_end (v:=.tuple #[v,.int .i64 f,.int .i64 t]) (by simp[results,Tryz.results6,go_sem]) rfl ?_
 exact DtP.of rfl HT.out HO4.out HB4.out
theorem told_rest {L M:List Rep} {f t:Nat} (h:TellR L M f t) (ht:t<L.length) {i:Nat} (hi:i<L.length) (hne:i≠t):rat M i=rat L i:=by
 have hm:i<M.length:=by rw[h.len];exact hi
 have e1:En.toB (rat M i).1=En.toB (rat L i).1:=by
  rw[<- bks_at hm,h.bk,Bk.tell_at (by rw[bks_length];exact ht),if_neg (fun e=>hne e.symm),bks_at hi]
 have e2:Mm.toB (rat M i).2=Mm.toB (rat L i).2:=by
  rw[<- mbs_at hm,h.mb,Mk.tell_at (by rw[mbs_length];exact ht),if_neg (fun e=>hne e.symm),mbs_at hi]
 exact Prod.ext (En.toB_inj e1) (Mm.toB_inj e2)
theorem told_bk {L M:List Rep} {f t:Nat} (h:TellR L M f t) (hf:f<L.length) (ht:t<L.length):En.toB (rat M t).1=Bk.mergeE (En.toB (rat L t).1) (En.toB (rat L f).1):=by
 have hm:t<M.length:=by rw[h.len];exact ht
 rw[<- bks_at hm,h.bk,Bk.tell_at (by rw[bks_length];exact ht),if_pos rfl,bks_at ht,bks_at hf]
theorem told_mb {L M:List Rep} {f t:Nat} (h:TellR L M f t) (hf:f<L.length) (ht:t<L.length):Mm.toB (rat M t).2=Mk.mergeE (Mm.toB (rat L t).2) (Mm.toB (rat L f).2):=by
 have hm:t<M.length:=by rw[h.len];exact ht
 rw[<- mbs_at hm,h.mb,Mk.tell_at (by rw[mbs_length];exact ht),if_pos rfl,mbs_at ht,mbs_at hf]
theorem told_join {L M:List Rep} {f t:Nat} (ok:okG L=true) (h:TellR L M f t) (hf:f<L.length) (ht:t<L.length):(Bk.joinB (En.toB (rat L t).1) (En.toB (rat L f).1)).2=true∧(Bk.joinB (En.toB (rat L t).1) (En.toB (rat L f).1)).1=En.toB (rat M t).1:=by
 have hm:t<M.length:=by rw[h.len];exact ht
 have okM:=okG_tell ok hf ht h
 have hl:=(okG_tame okM).bl t hm
 rw[<- En.toB_length,told_bk h hf ht] at hl
 have o1:=(okG_all ok).2.2.1 t ht
 have o2:=(okG_all ok).2.2.1 f hf
 unfold okR at o1 o2
 rw[Bool.and_eq_true] at o1 o2
 unfold Bk.joinB
 rw[if_pos ⟨o1.1,o2.1,hl⟩]
 exact⟨rfl,(told_bk h hf ht).symm⟩
theorem told_merge {L M:List Rep} {f t:Nat} (ok:okG L=true) (h:TellR L M f t) (hf:f<L.length) (ht:t<L.length):Mk.mergeB (Mm.toB (rat L t).2) (Mm.toB (rat L f).2)=Mm.toB (rat M t).2:=by
 have o1:=(okG_all ok).2.2.1 t ht
 have o2:=(okG_all ok).2.2.1 f hf
 unfold okR at o1 o2
 rw[Bool.and_eq_true] at o1 o2
 unfold Mk.mergeB
 rw[if_pos ⟨o1.2,o2.2⟩]
 exact (told_mb h hf ht).symm
theorem told_whl {L M:List Rep} {J:Rep} {f t:Nat} (ok:okG L=true) (h:TellR L M f t) (hf:f<L.length) (ht:t<L.length) (hJ:WhlR L J):WhlR M J:=by
 have hT:=okG_tame ok
 have okM:=okG_tell ok hf ht h
 refine⟨(fun q=>by rw[okM] at q;cases q),fun _=>?_,fun _=>?_⟩
 ·
  rw[hJ.bk ok,h.bk]
  exact (Bk.tell_whole hT.bris (by rw[bks_length];exact hf) (by rw[bks_length];exact ht)).symm
 ·
  rw[hJ.mb ok,h.mb]
  exact (Mk.tell_whole hT.mris (by rw[mbs_length];exact hf) (by rw[mbs_length];exact ht)).symm
end Go.Proofs.YtkeapmmochpcfaaGreat.Rp
namespace Go.Proofs.YtkeapmmochpcfaaGreat.Rp
open Go.ChangeShapes Go.WideShapes Go.ChangeAt Go.RowKit
open Vv (Sl sv hidIt)
section
variable {w : World} {t : Go.Proofs.YtkeapmmochpcfaaGreat.Nf.Tp} {d : Nat}
theorem RdE.tape {s:Sl} {L:List En.Rw} (h:RdE w s L):RdE (Nf.on w t d) s L:=⟨h.len,⟨h.rd.cell⟩,h.na,h.le,h.cap⟩
theorem RdM.tape {s:Sl} {L:List Mm.Rw} (h:RdM w s L):RdM (Nf.on w t d) s L:=⟨h.len,⟨h.rd.cell⟩,h.na,h.le,h.cap⟩
theorem Rd.tape {a:Option Addr} {L:List Rep} (h:Rd w a L):Rd (Nf.on w t d) a L:=by
 obtain⟨C,h⟩:=h
 exact⟨C,h.len,⟨h.row.cell⟩,fun i hi=>(h.bk i hi).tape,fun i hi=>(h.mb i hi).tape⟩
theorem Own.tape {lo hi:Nat} {v:Value} {L:List Rep} (h:Own w lo hi v L):Own (Nf.on w t d) lo hi v L:=by
 obtain⟨C,h⟩:=h
 exact⟨C,h.len,h.row,h.blk,h.bk,h.bb,h.mb,h.bm,h.db,h.dm,h.hi',h.lo'⟩
variable {x : World}
theorem RdE.bel {s:Sl} {L:List En.Rw} (h:RdE w s L) (k:Nf.Bel w.heap.size w x):RdE x s L:=(h.tape (t:=x.tape) (d:=0)).kept (k.below x.tape 0 x.drawn)
theorem RdM.bel {s:Sl} {L:List Mm.Rw} (h:RdM w s L) (k:Nf.Bel w.heap.size w x):RdM x s L:=(h.tape (t:=x.tape) (d:=0)).kept (k.below x.tape 0 x.drawn)
theorem Rd.bel {a:Option Addr} {L:List Rep} (h:Rd w a L) (k:Nf.Bel w.heap.size w x):Rd x a L:=(h.tape (t:=x.tape) (d:=0)).kept (k.below x.tape 0 x.drawn)
theorem RdC.bel {a:Option Addr} {C:List Vv.Rw} {L:List Rep} (h:RdC w a C L) (k:Nf.Bel w.heap.size w x):RdC x a C L :=
 (show RdC (Nf.on w x.tape 0) a C L from ⟨h.len,⟨h.row.cell⟩,fun i hi=>(h.bk i hi).tape,fun i hi=>(h.mb i hi).tape⟩).kept (k.below x.tape 0 x.drawn)
theorem Own.bel {lo hi:Nat} {v:Value} {L:List Rep} (h:Own w lo hi v L) (k:Nf.Bel w.heap.size w x):Own x lo hi v L:=(h.tape (t:=x.tape) (d:=0)).kept (k.below x.tape 0 x.drawn)
theorem box_tape {b:Nat} {c:Array Value} (h:Bo.Box w b c):Bo.Box (Nf.on w t d) b c:=⟨h.lt,h.at',h.fr⟩
theorem box_bel {b:Nat} {c:Array Value} (h:Bo.Box w b c) (k:Nf.Bel w.heap.size w x):Bo.Box x b c:=(box_tape (t:=x.tape) (d:=0) h).kept (k.below x.tape 0 x.drawn)
theorem bel_from {n:Nat} (h:Below n (Nf.on w t d) x):Nf.Bel n w x:=⟨h.os,h.output,h.size,h.block⟩
end
end Go.Proofs.YtkeapmmochpcfaaGreat.Rp
namespace Go.Proofs.YtkeapmmochpcfaaGreat.Sd
open Go Go.Conc Go.RowKit
open Nf (Stand Bel Here Pz cutN restN EndQ HasEnd)
section
variable {a : Act} {o : Oper} {w : World}
theorem run_load {x:Operand} (hop:o.op=.load 32 x) {c q:Nat} {u v:Value} (hx:a.eval x=.pointer (some ⟨c,q,none⟩)) (h0:w.cell? ⟨c,q,none⟩=some u) (h1:w.cell? ⟨c,q+1,none⟩=some v):(execOp a.eval o).run Tryz.prog w=.ok (.value (.agg #[u,v])) w:=by
 unfold execOp
 simp only[hop,hx]
 simp[go_sem,h0,h1]
theorem run_alloc (hop:o.op=.alloc 32):(execOp a.eval o).run Tryz.prog w=.ok (.value (.pointer (some ⟨w.heap.size,0,none⟩))) (w.alloc (.cells #[.slice none 0 0,.slice none 0 0] 32)):=by
 unfold execOp
 simp only[hop]
 simp[go_sem,Instr.alloc,newVar,newRow,Value.cells]
theorem run_store {x y:Operand} (hop:o.op=.store 32 x y) {c:Nat} {u v:Value} {C:Array Value} (hx:a.eval x=.pointer (some ⟨c,0,none⟩)) (hy:a.eval y=.agg #[u,v]) (hu:∃ p l q,u=.slice p l q) (hv:∃ p l q,v=.slice p l q) (hb:Bo.Box w c C) (hC:C.size=2) :
  (execOp a.eval o).run Tryz.prog w=.ok .skip ((w.setCell ⟨c,0,none⟩ u).setCell ⟨c,1,none⟩ v):=by
 obtain⟨p,l,q,rfl⟩:=hu
 obtain⟨p',l',q',rfl⟩:=hv
 have h0:=hb.c 0 (Array.getElem?_eq_getElem (show 0<C.size by omega))
 have hb2:=hb.put 0 (.slice p l q) (by omega) rfl
 have h2:=hb2.c 1 (Array.getElem?_eq_getElem (show 1<(C.setIfInBounds 0 (.slice p l q)).size by simp;omega))
 have f0:=hb.fr 0
 have f2:=hb2.fr 1
 unfold execOp
 simp only[hop,hx,hy]
 simp[go_sem,stored,h0,f0,h2,f2]
end
theorem enter_said (lb lo n cap:Nat):Frame.enter Tryz.prog 30 #[.slice (some ⟨lb,lo,none⟩) n cap] .normal=b18.at ⟨sl0 lb lo n cap,[]⟩ [.code body18]:=by
 rw[enter_at (fn:=Tryz.f30) (c:=body18) _ Tryz.func30 rfl]
 unfold sl0
 simp only[Tryz.ntmps30,List.size_toArray,List.length_cons,List.length_nil,Nat.reduceAdd,Nat.reduceSub,Array.replicate_succ,Array.replicate_zero,List.push_toArray,List.append_toArray,List.nil_append,List.cons_append]
theorem stand_said [Go.ConcR.Payload] {m0:Machine} {B:Nat->Prop} {lb lo n cap:Nat} {xs ys:Nat->Value} {b₀:Frame} {a₀:Act} {ops:Array Oper} {i:Nat} {rest:List Nat} {k:List Item} {cs:List Frame} {v:World} (hn:n<1000000) (h0:0<n)
  (h:Stand Tryz.prog m0 B (G (Frame.enter Tryz.prog 30 #[.slice (some ⟨lb,lo,none⟩) n cap] .normal) (b₀.at a₀ (.inRegion ops (i::rest)::k)::cs)) v)
  (hx:∀ j,j<n->v.cell? ⟨lb,lo+j*2,none⟩=some (xs j)) (hy:∀ j,j<n->v.cell? ⟨lb,lo+j*2+1,none⟩=some (ys j))
  (hxs:∀ j,j<n->∃ p l q,xs j=.slice p l q) (hys:∀ j,j<n->∃ p l q,ys j=.slice p l q) :
  ∃ (v':World) (B':Nat->Prop) (l:List Nat) (tm:Bool),Stand Tryz.prog m0 B' (G (b₀.at (a₀.put ((ops[i]?).bind (·.dst)) (.chan (some v.heap.size))) (.inRegion ops rest::k)) cs) v' ∧
   v'.heap[v.heap.size]?=some (.chan n (l.map fun j=>rep (xs j) (ys j)).toArray true l.length 0 tm)∧l.Perm (List.range n)∧Bel v.heap.size v v'∧∀ b,B' b->B b∨v.heap.size<=b:=by
 obtain⟨w,h,hz⟩:=h
 rw[enter_said] at h
 obtain⟨w',v',B',l,tm,h1,h2,h3,h4,h5,h6⟩:=here_said hn h0 h hz hx hy hxs hys
 exact⟨v',B',l,tm,⟨w',h1,h2⟩,h3,h4,h5,h6⟩
end Go.Proofs.YtkeapmmochpcfaaGreat.Sd
namespace Go.Proofs.YtkeapmmochpcfaaGreat.Bk
theorem part_ris {G G':List (List En)} (h:AllRis G) (hs:∀ b∈G',b∈G):AllRis G':=fun b hb=>h b (hs b hb)
theorem part_len {G G':List (List En)} (h:AllRis G) (hs:∀ b∈G',b∈G):(whole G').length<=(whole G).length :=
 sub_len _ _ (whole_ris (part_ris h hs)) (whole_ris h) (fun k hk=>by
  have t:=whole_top h k
  rw[hk] at t
  rcases (whole_top (part_ris h hs) k).mem with q | ⟨b,hb,q⟩
  ·
   exact q
  ·
   rw[<- q];exact t.none_of (hs b hb))
theorem perm_whole {G G':List (List En)} (h:AllRis G) (hs:∀ b,b∈G'↔b∈G):whole G'=whole G :=
 whole_of (part_ris h (fun b hb=>(hs b).1 hb)) (whole_ris h) (fun k=>⟨(whole_top h k).key,fun b hb=>(whole_top h k).ub b ((hs b).1 hb),(whole_top h k).mem.imp id (fun ⟨b,hb,q⟩=>⟨b,(hs b).2 hb,q⟩)⟩)
theorem part_ok {G G':List (List En)} (h:Gok G) (hs:∀ b∈G',b∈G):okBk (whole G')=true :=
 ok_mk (Nat.le_trans (part_len h.ris hs) h.len) (fun e he=>by
  obtain⟨b,hb,hm⟩:=whole_mem (part_ris h.ris hs) he
  exact ok_all (h.ok b (hs b hb)) hm) (whole_ris (part_ris h.ris hs))
end Go.Proofs.YtkeapmmochpcfaaGreat.Bk
namespace Go.Proofs.YtkeapmmochpcfaaGreat.Mk
theorem part_ris {G G':List (List En)} (h:AllRis G) (hs:∀ b∈G',b∈G):AllRis G':=fun b hb=>h b (hs b hb)
theorem perm_whole {G G':List (List En)} (h:AllRis G) (hs:∀ b,b∈G'↔b∈G):whole G'=whole G :=
 whole_of (part_ris h (fun b hb=>(hs b).1 hb)) (whole_ris h) (fun k=>⟨(whole_top h k).key,fun b hb=>(whole_top h k).ub b ((hs b).1 hb),(whole_top h k).mem.imp id (fun ⟨b,hb,q⟩=>⟨b,(hs b).2 hb,q⟩)⟩)
theorem fold_ok:∀ (G:List (List En)) (A:List En),okBk A=true->(∀ b∈G,okBk b=true)->okBk (G.foldl mergeE A)=true
 | [],A,hA,_=>hA
 | b::G,A,hA,hG=>by
  have hb:=hG b (List.mem_cons_self ..)
  exact fold_ok G (mergeE A b) (merge_ok hA hb (merge_join _ _ (ok_ris hA) (ok_ris hb))) (fun c hc=>hG c (List.mem_cons_of_mem _ hc))
theorem part_ok {G G':List (List En)} (h:Gok G) (hs:∀ b∈G',b∈G):okBk (whole G')=true:=fold_ok G' [] (by decide) (fun b hb=>h.ok b (hs b hb))
end Go.Proofs.YtkeapmmochpcfaaGreat.Mk
namespace Go.Proofs.YtkeapmmochpcfaaGreat.Rp
def taken (L:List Rep) (l:List Nat):List Rep:=l.map (rat L)
structure Acc (L:List Rep) (l:List Nat) (J:Rep):Prop where
 bk:En.toB J.1=Bk.whole (bks (taken L l))
 mb:Mm.toB J.2=Mk.whole (mbs (taken L l))
theorem Acc.nil (L:List Rep):Acc L [] ([],[]):=⟨rfl,rfl⟩
theorem taken_bks {L:List Rep} {l:List Nat} (hl:∀ i∈l,i<L.length):∀ b∈bks (taken L l),b∈bks L:=by
 intro b hb
 obtain⟨r,hr,rfl⟩:=List.mem_map.1 hb
 obtain⟨i,hi,rfl⟩:=List.mem_map.1 hr
 exact List.mem_map.2 ⟨_,rat_mem (hl i hi),rfl⟩
theorem taken_mbs {L:List Rep} {l:List Nat} (hl:∀ i∈l,i<L.length):∀ b∈mbs (taken L l),b∈mbs L:=by
 intro b hb
 obtain⟨r,hr,rfl⟩:=List.mem_map.1 hb
 obtain⟨i,hi,rfl⟩:=List.mem_map.1 hr
 exact List.mem_map.2 ⟨_,rat_mem (hl i hi),rfl⟩
theorem Acc.ok {L:List Rep} {l:List Nat} {J:Rep} (h:Acc L l J) (ok:okG L=true) (hl:∀ i∈l,i<L.length):okR J=true:=by
 obtain⟨_,_,h3,h4⟩:=(okG_iff L).1 ok
 unfold okR
 rw[h.bk,h.mb,Bk.part_ok h3 (taken_bks hl),Mk.part_ok h4 (taken_mbs hl)]
 rfl
theorem taken_snoc (L:List Rep) (l:List Nat) (i:Nat):taken L (l++[i])=taken L l++[rat L i]:=by simp[taken]
theorem Acc.step {L:List Rep} {l:List Nat} {J J':Rep} {i:Nat} (h:Acc L l J) (h1:En.toB J'.1=Bk.mergeE (En.toB J.1) (En.toB (rat L i).1)) (h2:Mm.toB J'.2=Mk.mergeE (Mm.toB J.2) (Mm.toB (rat L i).2)):Acc L (l++[i]) J':=by
 refine⟨?_,?_⟩
 ·
  rw[taken_snoc,h1,h.bk]
  unfold bks
  rw[List.map_append,List.map_singleton,Bk.whole_snoc]
 ·
  rw[taken_snoc,h2,h.mb]
  unfold mbs
  rw[List.map_append,List.map_singleton,Mk.whole_snoc]
theorem Acc.len {L:List Rep} {l:List Nat} {J:Rep} {i:Nat} (h:Acc L l J) (ok:okG L=true) (hl:∀ i∈l,i<L.length) (hi:i<L.length):(Bk.mergeE (En.toB J.1) (En.toB (rat L i).1)).length<=80:=by
 obtain⟨_,_,h3,h4⟩:=(okG_iff L).1 ok
 have e:Bk.mergeE (En.toB J.1) (En.toB (rat L i).1)=Bk.whole (bks (taken L (l++[i]))):=by
  rw[taken_snoc,h.bk]
  unfold bks
  rw[List.map_append,List.map_singleton,Bk.whole_snoc]
 rw[e]
 exact Nat.le_trans (Bk.part_len h3.ris (taken_bks (fun j hj=>by
  rcases List.mem_append.1 hj with q | q
  ·
   exact hl j q
  ·
   rw[List.mem_singleton.1 q];exact hi))) h3.len
theorem Acc.whl {L:List Rep} {l:List Nat} {J:Rep} (h:Acc L l J) (ok:okG L=true) (hp:l.Perm (List.range L.length)):WhlR L J:=by
 obtain⟨_,_,h3,h4⟩:=(okG_iff L).1 ok
 have hm:∀ i,i∈l↔i<L.length:=fun i=>by rw[hp.mem_iff,List.mem_range]
 have hr:∀ r,r∈taken L l↔r∈L:=fun r=>by
  constructor
  ·
   intro q
   obtain⟨i,hi,rfl⟩:=List.mem_map.1 q
   exact rat_mem ((hm i).1 hi)
  ·
   intro q
   obtain⟨i,hi,rfl⟩:=List.mem_iff_getElem.1 q
   exact List.mem_map.2 ⟨i,(hm i).2 hi,rat_at hi⟩
 refine⟨(fun q=>by rw[ok] at q;cases q),fun _=>?_,fun _=>?_⟩
 ·
  rw[h.bk]
  refine Bk.perm_whole h3.ris (fun b=>?_)
  unfold bks
  simp only[List.mem_map]
  exact exists_congr (fun r=>and_congr (hr r) Iff.rfl)
 ·
  rw[h.mb]
  refine Mk.perm_whole h4.ris (fun b=>?_)
  unfold mbs
  simp only[List.mem_map]
  exact exists_congr (fun r=>and_congr (hr r) Iff.rfl)
end Go.Proofs.YtkeapmmochpcfaaGreat.Rp
namespace Go.Proofs.YtkeapmmochpcfaaGreat.Sd
open Go Go.Conc Go.ChangeShapes Go.WideShapes Go.ChangeAt Go.RowKit
open Nf (Stand Bel Pz cutN restN EndQ HasEnd on)
open Bo (Box)
open Vv (Sl sv hidIt)
def body7 (fz:Func:=Tryz.f8):Code:=fz.body.getD .skip
def nil2:Array Value:=#[.slice none 0 0,.slice none 0 0]
def W0F (a:Option Addr) (m cap:Nat) (v:World) (T:Array Value) (x:World):Prop :=
 ∃ u:Nat->Value,T=#[.slice a m cap,u 1,.pointer (some ⟨v.heap.size,0,none⟩),.pointer (some ⟨v.heap.size+1,0,none⟩),u 4,u 5,u 6,u 7,u 8,u 9,u 10,u 11,u 12,u 13,u 14,u 15,u 16,u 17,u 18]∧Bel v.heap.size v x∧x.heap.size=v.heap.size+2∧Box x v.heap.size nil2∧Box x (v.heap.size+1) nil2
theorem W0F.tape {a:Option Addr} {m cap:Nat} {v:World}:∀ (T:Array Value) (x:World) (t:Nf.Tp) (d:Nat),W0F a m cap v T x->W0F a m cap v T (on x t d) :=
 fun T x t d ⟨u,h1,h2,h3,h4,h5⟩=>⟨u,h1,h2.on v.tape t v.drawn d,h3,Rp.box_tape h4,Rp.box_tape h5⟩
theorem whole_p0 (a:Option Addr) (m cap:Nat) (v:World) (t:Nf.Tp) (d:Nat):(cutN 2 body7).wp Tryz.prog (EndQ false (W0F a m cap v)) ⟨#[.slice a m cap,undef,undef,undef,undef,undef,undef,undef,undef,undef,undef,undef,undef,undef,undef,undef,undef,undef,undef],[]⟩ (on v t d):=by
 simp only[body7,cutN,Tryz.f8,Option.getD_some]
 go_wp2_with (fail)
 exact⟨rfl,rfl,fun i=>if i=5 then .agg nil2 else undef,rfl,(Bel.of (((Below.refl v.heap.size v).alloc (Nat.le_refl _) _).alloc (by simp) _)).on v.tape t v.drawn d,by simp[on],Rp.box_tape (w:=(v.alloc (.cells nil2 32)).alloc (.cells nil2 32)) ((Box.new v nil2 _).alloc _),Rp.box_tape (w:=(v.alloc (.cells nil2 32)).alloc (.cells nil2 32)) (Box.newAt (by simp))⟩
theorem enter_whole (a:Option Addr) (m cap:Nat):Frame.enter Tryz.prog 8 #[.slice a m cap] .normal=(base 8).at ⟨#[.slice a m cap,undef,undef,undef,undef,undef,undef,undef,undef,undef,undef,undef,undef,undef,undef,undef,undef,undef,undef],[]⟩ [.code body7]:=by
 rw[enter_at (fn:=Tryz.f8) (c:=body7) _ Tryz.func8 rfl]
 simp only[Tryz.ntmps8,List.size_toArray,List.length_cons,List.length_nil,Nat.reduceAdd,Nat.reduceSub,Array.replicate_succ,Array.replicate_zero,List.push_toArray,List.append_toArray,List.nil_append,List.cons_append]
theorem init7:Tryz.prog.inits.idxOf? 8=none:=by kernel_rfl
theorem code7a:Nf.codeB K Tryz.prog 8 (cutN 2 body7)=true:=by kernel_rfl
end Go.Proofs.YtkeapmmochpcfaaGreat.Sd
namespace Go.Proofs.YtkeapmmochpcfaaGreat.Sd
open Go Go.Conc Go.ChangeShapes Go.WideShapes Go.ChangeAt Go.RowKit
open Nf (Stand Bel Pz cutN restN EndQ HasEnd on wpB)
open Bo (Box)
open Vv (Sl sv hidIt)
structure Ac (L:List Rp.Rep) (n0 Ch n:Nat) (l:List Nat) (xs ys:Nat->Value) (tm:Bool) (W0:World) (r j:Nat) (s t:Sl) (J:Rp.Rep) (w:World):Prop where
 b2:Box w n0 nil2
 b3:Box w (n0+1) #[sv s,sv t]
 oE:En.Own w (n0+2) (sv s) J.1
 oM:Mm.Own w (n0+2) (sv t) J.2
 acc:Rp.Acc L (l.take j) J
 ch:w.heap[Ch]?=some (.chan n ((l.drop r).map fun i=>rep (xs i) (ys i)).toArray true n r tm)
 be:Below n0 W0 w
 gt:n0+2<=Ch
section
variable {L : List Rp.Rep} {n0 Ch n : Nat} {l : List Nat} {xs ys : Nat → Value} {tm : Bool} {W0 : World} {r j : Nat} {s t : Sl} {J : Rp.Rep} {w : World}
theorem Ac.kept {w':World} (h:Ac L n0 Ch n l xs ys tm W0 r j s t J w) (k:Below w.heap.size w w'):Ac L n0 Ch n l xs ys tm W0 r j s t J w':=by
 have hc:Ch<w.heap.size:=(Array.getElem?_eq_some_iff.1 h.ch).1
 have hb:=h.b3.lt
 exact⟨h.b2.kept k,h.b3.kept k,h.oE.kept k,h.oM.kept k,h.acc,by rw[k.block Ch hc];exact h.ch,h.be.trans (k.mono (by omega)),h.gt⟩
theorem chan_apart {C:Nat} {o:Obj} {e sz m b:Nat} {v:Value} {ys:List Value} (h:w.ownsRow b e sz v m ys) (hC:w.heap[C]?=some o) (ho:∀ c e z,o≠.cells c e z):∀ g,v.ownBlock=some g->g≠C:=by
 intro g hg eg
 subst eg
 rcases h.2 with ⟨e1,_⟩ | ⟨x,cap,cur,e1,_,hx,_⟩
 ·
  rw[e1] at hg;cases hg
 ·
  rw[e1] at hg
  cases hg
  rw[hC] at hx
  cases hx
  exact ho _ _ _ rfl
theorem setChan_only (c cap:Nat) (buf:Array Value) (cl:Bool) (p q:Nat) (tm:Bool) (w:World):Only c w (w.setChan c cap buf cl p q tm) :=
 ⟨rfl,rfl,rfl,by simp[World.setChan],fun k hk hne=>by simp[World.setChan,Array.getElem?_setIfInBounds_ne (Ne.symm hne)]⟩
theorem box_only {b c:Nat} {C:Array Value} {w w':World} (h:Box w b C) (k:Only c w w') (hne:b≠c):Box w' b C:=by
 have e:=k.block b h.lt hne
 refine⟨Nat.lt_of_lt_of_le h.lt k.size,fun i=>?_,fun i=>?_⟩
 ·
  rw[<- h.at' i];unfold World.cell?;rw[e]
 ·
  rw[<- h.fr i];unfold World.frozen?;rw[e]
theorem Ac.recv (h:Ac L n0 Ch n l xs ys tm W0 r j s t J w):Ac L n0 Ch n l xs ys tm W0 (r+1) j s t J (w.setChan Ch n ((((l.drop r).map fun i=>rep (xs i) (ys i)).toArray).extract 1 (((l.drop r).map fun i=>rep (xs i) (ys i)).toArray).size) true n (r+1) tm):=by
 have k:=setChan_only Ch n ((((l.drop r).map fun i=>rep (xs i) (ys i)).toArray).extract 1 (((l.drop r).map fun i=>rep (xs i) (ys i)).toArray).size) true n (r+1) tm w
 have hgt:=h.gt
 have hc:Ch<w.heap.size:=(Array.getElem?_eq_some_iff.1 h.ch).1
 refine⟨box_only h.b2 k (by omega),box_only h.b3 k (by omega),h.oE.only k (.inr (chan_apart h.oE h.ch (by intro c e z;simp))),h.oM.only k (.inr (chan_apart h.oM h.ch (by intro c e z;simp))),h.acc,?_,⟨k.os.trans h.be.os,k.tape.trans h.be.tape,k.output.trans h.be.output,Nat.le_trans h.be.size k.size,fun i hi=>?_⟩,h.gt⟩
 ·
  show (w.heap.setIfInBounds Ch _)[Ch]?=_
  rw[Array.getElem?_setIfInBounds_self_of_lt hc]
  congr 2
  rw[show r+1=1+r by omega,<- List.drop_drop]
  simp[List.extract_toArray,List.map_drop]
  exact List.take_of_length_le (by simp;omega)
 ·
  rw[k.block i (by have:=h.b2.lt;omega) (by omega)]
  exact h.be.block i hi
theorem Ac.store {s' t':Sl} {J':Rp.Rep} (h:Ac L n0 Ch n l xs ys tm W0 r j s t J w) (h1:En.Own w (n0+2) (sv s') J'.1) (h2:Mm.Own w (n0+2) (sv t') J'.2) (ha:Rp.Acc L (l.take (j+1)) J') :
  Ac L n0 Ch n l xs ys tm W0 r (j+1) s' t' J' ((w.setCell ⟨n0+1,0,none⟩ (sv s')).setCell ⟨n0+1,1,none⟩ (sv t')):=by
 have k:Only (n0+1) w ((w.setCell ⟨n0+1,0,none⟩ (sv s')).setCell ⟨n0+1,1,none⟩ (sv t')):=((Only.refl (n0+1) w).setCell 0 (sv s')).setCell 1 (sv t')
 have hgt:=h.gt
 have hc:Ch<w.heap.size:=(Array.getElem?_eq_some_iff.1 h.ch).1
 refine⟨box_only h.b2 k (by omega),(h.b3.put 0 (sv s') (by simp) rfl).put 1 (sv t') (by simp) (by simp),h1.only k (.inl (by omega)),h2.only k (.inl (by omega)),ha,?_,⟨k.os.trans h.be.os,k.tape.trans h.be.tape,k.output.trans h.be.output,Nat.le_trans h.be.size k.size,fun i hi=>?_⟩,h.gt⟩
 ·
  rw[k.block Ch hc (by omega)];exact h.ch
 ·
  rw[k.block i (by have:=h.b2.lt;omega) (by omega)]
  exact h.be.block i hi
end
def loop7 (fz:Func:=Tryz.f8):Code:=match restN 3 (body7 fz) with
 | .seq (.seq _ (.block _ (.loop c))) _=>c
 | c=>c
def fst:Code->Code
 | .seq a _=>a
 | c=>c
def snd:Code->Code
 | .seq _ b=>b
 | c=>c
def LI (a0:Option Addr) (m cap:Nat) (L:List Rp.Rep) (n0 Ch n:Nat) (l:List Nat) (xs ys:Nat->Value) (tm:Bool) (W0:World) (a:Act) (w:World):Prop :=
 ∃ (j:Nat) (s t:Sl) (J:Rp.Rep) (u:Nat->Value),a=⟨#[.slice a0 m cap,u 1,.pointer (some ⟨n0,0,none⟩),.pointer (some ⟨n0+1,0,none⟩),u 4,u 5,u 6,u 7,u 8,u 9,u 10,.chan (some Ch),u 12,u 13,u 14,u 15,u 16,u 17,u 18],[]⟩∧j<=n∧Ac L n0 Ch n l xs ys tm W0 j j s t J w
def mu (Ch:Nat) (_:Act) (w:World):Nat:=match w.heap[Ch]? with
 | some (.chan _ b _ _ _ _)=>b.size
 | _=>0
theorem round7 {a0:Option Addr} {m cap:Nat} {L:List Rp.Rep} {n0 Ch n:Nat} {l:List Nat} {S:List Vv.Rw} {tm:Bool} {W0:World} {j i:Nat} {s t p q:Sl} {J:Rp.Rep} {w:World} {Q:Exit->Act->World->Prop} {u:Nat->Value} {K:Nat}
  (ok:Rp.okG L=true) (hl:∀ i∈l,i<L.length) (hn:l.length=n) (hj:j<n) (hi:l[j]?=some i) (hS:Rp.RdC W0 a0 S L) (h0:W0.heap.size=n0) (hp:(Vv.rat S i).1=p) (hq:(Vv.rat S i).2=q) (hK:K=n - j)
  (h:Ac L n0 Ch n l (fun i=>sv (Vv.rat S i).1) (fun i=>sv (Vv.rat S i).2) tm W0 (j+1) j s t J w) :
  (snd loop7).wp Tryz.prog (Exit.then (fun a' w'=>LI a0 m cap L n0 Ch n l (fun i=>sv (Vv.rat S i).1) (fun i=>sv (Vv.rat S i).2) tm W0 a' w'∧mu Ch a' w'<K) Q)
   ⟨#[.slice a0 m cap,u 1,.pointer (some ⟨n0,0,none⟩),.pointer (some ⟨n0+1,0,none⟩),u 4,u 5,u 6,u 7,u 8,u 9,u 10,.chan (some Ch),.tuple #[.agg #[sv p,sv q],.bool true],.bool true,u 14,u 15,u 16,u 17,u 18],[]⟩ w:=by
 have hiL:i<L.length:=hl i (List.mem_of_getElem? hi)
 have rE:Rp.RdE W0 p (Rp.rat L i).1:=by rw[<- hp];exact hS.bk i hiL
 have rM:Rp.RdM W0 q (Rp.rat L i).2:=by rw[<- hq];exact hS.mb i hiL
 have htk:l.take (j+1)=l.take j++[i]:=by rw[List.take_add_one,hi];rfl
 have hlt:∀ x∈l.take j,x<L.length:=fun x hx=>hl x (List.mem_of_mem_take hx)
 have HA:=hidIt h
 have okJ:=h.acc.ok ok hlt
 have okI:Rp.okR (Rp.rat L i)=true:=(Rp.okG_all ok).2.2.1 i hiL
 have hlen:=h.acc.len ok hlt hiL
 obtain⟨s0,s1,s2⟩:=s
 obtain⟨t0,t1,t2⟩:=t
 obtain⟨p0,p1,p2⟩:=p
 obtain⟨q0,q1,q2⟩:=q
 have CB:Hid (∀ W,Ac L n0 Ch n l (fun i=>sv (Vv.rat S i).1) (fun i=>sv (Vv.rat S i).2) tm W0 (j+1) j (s0,s1,s2) (t0,t1,t2) J W->Calls Tryz.prog 29 #[.agg #[.slice s0 s1 s2,.slice t0 t1 t2],.agg #[.slice p0 p1 p2,.slice q0 q1 q2]] W fun e w'=>Rp.BotP J (Rp.rat L i) W e w'):=hidIt (fun W hW =>
  Rp.impl_bothOf (s0,s1,s2) (t0,t1,t2) (p0,p1,p2) (q0,q1,q2) J (Rp.rat L i) W (Rp.rdE_of hW.oE) (Rp.rdM_of hW.oM) (rE.kept (by rw[h0];exact hW.be)) (rM.kept (by rw[h0];exact hW.be)) (Rp.okR_short okJ) (Rp.okR_short okI) okJ okI hlen)
 have HF:Hid (∀ (x y:Sl) (J':Rp.Rep) (W:World),Ac L n0 Ch n l (fun i=>sv (Vv.rat S i).1) (fun i=>sv (Vv.rat S i).2) tm W0 (j+1) (j+1) x y J' W->∀ v4 v12 v13 v14 v15 v16 v17:Value,LI a0 m cap L n0 Ch n l (fun i=>sv (Vv.rat S i).1) (fun i=>sv (Vv.rat S i).2) tm W0 ⟨#[.slice a0 m cap,u 1,.pointer (some ⟨n0,0,none⟩),.pointer (some ⟨n0+1,0,none⟩),v4,u 5,u 6,u 7,u 8,u 9,u 10,.chan (some Ch),v12,v13,v14,v15,v16,v17,u 18],[]⟩ W):=hidIt (fun x y J' W hW v4 v12 v13 v14 v15 v16 v17=>⟨j+1,x,y,J',fun i=>match i with
  | 4=>v4
  | 12=>v12
  | 13=>v13
  | 14=>v14
  | 15=>v15
  | 16=>v16
  | 17=>v17
  | k=>u k,rfl,by omega,hW⟩)
 have HMU:Hid (∀ (x y:Sl) (J':Rp.Rep) (W:World) (a:Act),Ac L n0 Ch n l (fun i=>sv (Vv.rat S i).1) (fun i=>sv (Vv.rat S i).2) tm W0 (j+1) (j+1) x y J' W->mu Ch a W<K):=hidIt (fun x y J' W a hW=>by
  unfold mu
  rw[hW.ch]
  simp
  omega)
 have HST:=hidIt htk
 clear h rE rM htk hS hp hq okJ okI hlen
 generalize LI a0 m cap L n0 Ch n l (fun i=>sv (Vv.rat S i).1) (fun i=>sv (Vv.rat S i).2) tm W0=LQ at HF ⊢
 generalize mu Ch=MU at HMU ⊢
 generalize hx:(fun i=>sv (Vv.rat S i).1)=xs at HA CB HF HMU
 generalize hy:(fun i=>sv (Vv.rat S i).2)=ys at HA CB HF HMU
 clear hx hy
 have HA1:Hid (Ac L n0 Ch n l xs ys tm W0 (j+1) j (s0,s1,s2) (t0,t1,t2) J (w.alloc (.cells #[.slice p0 p1 p2,.slice q0 q1 q2] 32))):=hidIt (HA.out.kept ((Below.refl _ w).alloc (Nat.le_refl _) _))
 have c0:=HA1.out.b3.c 0 rfl
 have c1:=HA1.out.b3.c 1 rfl
 have bz:=HA1.out.b3.lt
 simp only[sv] at c0 c1 ⊢
 simp only[loop7,snd,restN,body7,Tryz.f8,Option.getD_some]
 go_wp2_with (fail)
 refine (CB.out _ HA1.out).mono ?_
 intro e w1 hz
 obtain⟨⟨x0,x1,x2⟩,⟨y0,y1,y2⟩,J',rfl,oE,oM,e1,e2,kk⟩:=hz.out
 clear hz
 have hA2:=HA1.out.kept kk
 have hJ:=hA2.acc.step e1 e2
 rw[<- HST.out] at hJ
 have HS:=hidIt (hA2.store (oE.mono (by omega)) (oM.mono (by omega)) hJ)
 have d0:=hA2.b3.c 0 rfl
 have f0:=hA2.b3.fr 0
 have b9:=hA2.b3.put 0 (.slice x0 x1 x2) (by simp) rfl
 have d1:=b9.c 1 rfl
 have f1:=b9.fr 1
 clear hA2 hJ oE oM e1 e2 kk c0 c1 b9 HA HA1 CB HST hi hiL hlt ok hl
 simp only[sv] at HS d0 d1 ⊢
 go_wp2_with (fail)
 exact⟨HF.out _ _ _ _ HS.out _ _ _ _ _ _ _,HMU.out _ _ _ _ _ HS.out⟩
def W2F (L:List Rp.Rep) (v:World) (T:Array Value) (x:World):Prop :=
 ∃ (s t:Sl) (J:Rp.Rep),Rp.WhlR L J∧(results Tryz.f8 T).run Tryz.prog x=.ok (.agg #[sv s,sv t]) x∧En.Own x v.heap.size (sv s) J.1∧Mm.Own x v.heap.size (sv t) J.2∧Bel v.heap.size v x
theorem W2F.tape {L:List Rp.Rep} {v:World}:∀ (T:Array Value) (x:World) (t:Nf.Tp) (d:Nat),W2F L v T x->W2F L v T (on x t d) :=
 fun T x t d ⟨s,q,J,h1,h2,h3,h4,h5⟩=>⟨s,q,J,h1,Nf.results_on h2 t d,h3,h4,h5.on v.tape t v.drawn d⟩
theorem recv_run {a:Act} {o:Oper} {w:World} {x:Operand} {Ch:Nat} (hop:o.op=.recv 49 x true) (hx:a.eval x=.chan (some Ch)):(execOp a.eval o).run Tryz.prog w=.ok (.comm #[rcase Ch (.agg nil2)] true (.recv true)) w:=by
 unfold execOp
 simp only[hop,hx]
 simp[go_sem,rcase]
 rfl
def tail7 (fz:Func:=Tryz.f8):Code:=snd (restN 3 (body7 fz))
theorem loop7_eq:loop7=.seq (fst loop7) (snd loop7):=by simp only[loop7,fst,snd,restN,body7,Tryz.f8,Option.getD_some]
theorem tail7_wp {a0:Option Addr} {m cap:Nat} {L:List Rp.Rep} {n0 Ch n:Nat} {l:List Nat} {xs ys:Nat->Value} {tm:Bool} {v:World} {t':Nf.Tp} {d':Nat} {r j:Nat} {s t:Sl} {J:Rp.Rep} {w:World} {u:Nat->Value}
  (h0:v.heap.size=n0) (hW:Rp.WhlR L J) (h:Ac L n0 Ch n l xs ys tm (on v t' d') r j s t J w) :
  tail7.wp Tryz.prog (EndQ true (W2F L v)) ⟨#[.slice a0 m cap,u 1,.pointer (some ⟨n0,0,none⟩),.pointer (some ⟨n0+1,0,none⟩),u 4,u 5,u 6,u 7,u 8,u 9,u 10,.chan (some Ch),u 12,u 13,u 14,u 15,u 16,u 17,u 18],[]⟩ w:=by
 have HA:=hidIt h
 obtain⟨s0,s1,s2⟩:=s
 obtain⟨t0,t1,t2⟩:=t
 have c0:=h.b3.c 0 rfl
 have c1:=h.b3.c 1 rfl
 have d0:=h.b2.c 0 rfl
 have f0:=h.b2.fr 0
 have b9:=h.b2.put 0 (.slice s0 s1 s2) (by simp[nil2]) rfl
 have d1:=b9.c 1 rfl
 have f1:=b9.fr 1
 have bT:=b9.put 1 (.slice t0 t1 t2) (by simp[nil2]) rfl
 have r0:=bT.c 0 rfl
 have r1:=bT.c 1 rfl
 clear h b9 bT
 have HW:=hidIt hW
 clear hW
 simp only[sv,nil2] at c0 c1 d0 d1 r0 r1
 simp only[tail7,snd,restN,body7,Tryz.f8,Option.getD_some]
 go_wp2_with (fail)
 have k:Only n0 w ((w.setCell ⟨n0,0,none⟩ (.slice s0 s1 s2)).setCell ⟨n0,1,none⟩ (.slice t0 t1 t2)):=((Only.refl n0 w).setCell 0 _).setCell 1 _
 have be:=HA.out.be
 have hsz:=HA.out.b2.lt
 refine⟨rfl,rfl,(s0,s1,s2),(t0,t1,t2),J,HW.out,by simp[results,Tryz.results8,go_sem,r0,r1,sv],(HA.out.oE.only k (.inl (by omega))).mono (by omega),(HA.out.oM.only k (.inl (by omega))).mono (by omega),⟨k.os.trans be.os,k.output.trans be.output,Nat.le_trans be.size k.size,fun i hi=>?_⟩⟩
 rw[k.block i (by omega) (by omega)]
 exact be.block i (by omega)
theorem rest7_wp {a0:Option Addr} {m cap:Nat} {L:List Rp.Rep} {n0 Ch n:Nat} {l:List Nat} {S:List Vv.Rw} {tm:Bool} {v:World} {t':Nf.Tp} {d':Nat} {w:World} {u:Nat->Value}
  (h0:v.heap.size=n0) (ok:Rp.okG L=true) (hp:l.Perm (List.range L.length)) (hL:L.length=n) (hS:Rp.RdC (on v t' d') a0 S L)
  (h:Ac L n0 Ch n l (fun i=>sv (Vv.rat S i).1) (fun i=>sv (Vv.rat S i).2) tm (on v t' d') 0 0 (none,0,0) (none,0,0) ([],[]) w) :
  wpB Tryz.prog (base 8) (.seq (.block 0 (.loop loop7)) tail7) (EndQ true (W2F L v)) ⟨#[.slice a0 m cap,u 1,.pointer (some ⟨n0,0,none⟩),.pointer (some ⟨n0+1,0,none⟩),u 4,u 5,u 6,u 7,u 8,u 9,u 10,.chan (some Ch),u 12,u 13,u 14,u 15,u 16,u 17,u 18],[]⟩ w:=by
 have hln:l.length=n:=by rw[hp.length_eq,List.length_range,hL]
 have hl:∀ i∈l,i<L.length:=fun i hi=>List.mem_range.1 (hp.mem_iff.1 hi)
 refine Nf.wpB_seq (Nf.wpB_block (Nf.wpB_loop (LI a0 m cap L n0 Ch n l (fun i=>sv (Vv.rat S i).1) (fun i=>sv (Vv.rat S i).2) tm (on v t' d')) (mu Ch) ⟨0,_,_,_,u,rfl,Nat.zero_le _,h⟩ ?_))
 rintro a w ⟨j,s,t,J,u,rfl,hjn,hA⟩
 rw[loop7_eq]
 by_cases hj:j<n
 ·
  have hi:l[j]?=some l[j]:=List.getElem?_eq_getElem (by omega)
  have hmu:∀ a,mu Ch a w=n - j:=fun a=>by unfold mu;rw[hA.ch];simp;omega
  have hbuf:((l.drop j).map fun i=>rep (sv (Vv.rat S i).1) (sv (Vv.rat S i).2)).toArray.getD 0 undef=rep (sv (Vv.rat S l[j]).1) (sv (Vv.rat S l[j]).2):=by
   rw[Array.getD_eq_getD_getElem?]
   simp[hi]
  refine Nf.wpB_seq ?_
  refine Go.Proofs.YtkeapmmochpcfaaGreat.Nf.wpB_recv (o := { dst := some 12, op := .recv 49 (.tmp 11) true, type := 0, pos := "l13_gossip.go:123", after := #[], guard := none }) (l := [{ dst := some 13, op := .extract (.tmp 12) 1, type := 4, pos := "l13_gossip.go:123", after := #[{ on := 0, ground := .data }], guard := none }]) (by decide) rfl (recv_run rfl rfl) hA.ch (by simp; omega) ?_
  rw[hbuf]
  have hA2:=hA.recv
  have HR:=fun Q u=>round7 (a0:=a0) (m:=m) (cap:=cap) (Q:=Q) (u:=u) ok hl hln hj hi hS h0 rfl rfl rfl hA2
  generalize w.setChan Ch n _ true n (j+1) tm=w2 at HR ⊢
  simp only[hmu]
  generalize Exit.inBlock 0 (Exit.then (wpB Tryz.prog (base 8) tail7 (EndQ true (W2F L v))) (EndQ true (W2F L v)))=Q0
  replace HR:=HR Q0
  generalize hq:(Exit.then (fun a' w'=>LI a0 m cap L n0 Ch n l (fun i=>sv (Vv.rat S i).1) (fun i=>sv (Vv.rat S i).2) tm (on v t' d') a' w'∧mu Ch a' w'<n - j) Q0)=Q1 at HR ⊢
  clear hq hA hA2 h hbuf hmu
  generalize (Vv.rat S l[j]).1=p at HR ⊢
  generalize (Vv.rat S l[j]).2=q at HR ⊢
  simp only[Act.put,List.setIfInBounds_toArray,List.set_cons_succ,List.set_cons_zero,rep]
  go_wp2_with (fail)
  exact Nf.wpB_of (HR _)
 ·
  have ej:j=n:=by omega
  subst ej
  have hch:=hA.ch
  rw[List.drop_of_length_le (by omega),List.map_nil] at hch
  have HT:=fun u=>tail7_wp (a0:=a0) (m:=m) (cap:=cap) (u:=u) h0 (hA.acc.whl ok (by rw[List.take_of_length_le (by omega)];exact hp)) hA
  refine Nf.wpB_seq ?_
  refine Go.Proofs.YtkeapmmochpcfaaGreat.Nf.wpB_recv0 (o := { dst := some 12, op := .recv 49 (.tmp 11) true, type := 0, pos := "l13_gossip.go:123", after := #[], guard := none }) (l := [{ dst := some 13, op := .extract (.tmp 12) 1, type := 4, pos := "l13_gossip.go:123", after := #[{ on := 0, ground := .data }], guard := none }]) (by decide) rfl (recv_run rfl rfl) hch ?_
  have hx:∀ (R:Act->World->Prop) a' w',tail7.wp Tryz.prog (EndQ true (W2F L v)) a' w'->(Exit.then R (Exit.inBlock 0 (Exit.then (wpB Tryz.prog (base 8) tail7 (EndQ true (W2F L v))) (EndQ true (W2F L v))))) (.exit 0) a' w':=fun R a' w' h=>Nf.wpB_of h
  have hx2:=hx (fun a' w'=>LI a0 m cap L n0 Ch j l (fun i=>sv (Vv.rat S i).1) (fun i=>sv (Vv.rat S i).2) tm (on v t' d') a' w'∧mu Ch a' w'<mu Ch ⟨#[.slice a0 m cap,u 1,.pointer (some ⟨n0,0,none⟩),.pointer (some ⟨n0+1,0,none⟩),u 4,u 5,u 6,u 7,u 8,u 9,u 10,.chan (some Ch),u 12,u 13,u 14,u 15,u 16,u 17,u 18],[]⟩ w)
  clear hx
  generalize (Exit.then (fun a' w'=>LI a0 m cap L n0 Ch j l (fun i=>sv (Vv.rat S i).1) (fun i=>sv (Vv.rat S i).2) tm (on v t' d') a' w'∧mu Ch a' w'<mu Ch _ w) (Exit.inBlock 0 (Exit.then (wpB Tryz.prog (base 8) tail7 (EndQ true (W2F L v))) (EndQ true (W2F L v)))))=Q1 at hx2 ⊢
  clear hch hA h hp ok hS hl hln hL hj hjn
  simp only[Act.put,List.setIfInBounds_toArray,List.set_cons_succ,List.set_cons_zero]
  go_wp2_with (fail)
  refine Nf.wpB_of ?_
  simp only[loop7,snd,restN,body7,Tryz.f8,Option.getD_some]
  go_wp2_with (fail)
  exact HT (fun i=>match i with
   | 12=>.tuple #[.agg nil2,.bool false]
   | 13=>.bool false
   | k=>u k)
end Go.Proofs.YtkeapmmochpcfaaGreat.Sd
