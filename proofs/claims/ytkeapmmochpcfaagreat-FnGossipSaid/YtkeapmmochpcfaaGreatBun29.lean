/- impl.Whole beside goroutines that only leave: from its call to its return. -/
import Derived.Test.YtkeapmmochpcfaaGreatBun28
import Derived.Test.YtkeapmmochpcfaaGreatBun7
import Derived.Test.YtkeapmmochpcfaaGreatBun18
import Derived.Test.YtkeapmmochpcfaaGreatBun27
set_option maxRecDepth 100000
set_option maxHeartbeats 32000000
set_option linter.unusedVariables false
set_option linter.unusedSimpArgs false
namespace Go.Proofs.YtkeapmmochpcfaaGreat.Sd
open Go Go.Conc Go.ChangeShapes Go.WideShapes Go.ChangeAt Go.RowKit
open Nf (Stand Bel Pz cutN restN EndQ HasEnd on wpB)
open Bo (Box)
open Vv (Sl sv hidIt)
theorem whole_stand [Go.ConcR.Payload] {m0:Machine} {B:Nat->Prop} {c:Frame} {cs:List Frame} {v:World} (a:Option Addr) (cap:Nat) (L:List Rp.Rep) (hR:Rp.Rd v a L) (hs:Rp.Short L) (hl:L.length<=9223372036854775807) (hlb:∀ i,i<L.length->(Rp.rat L i).1.length<=9223372036854775807∧(Rp.rat L i).2.length<=9223372036854775807)
  (h:Stand Tryz.prog m0 B (G (Frame.enter Tryz.prog 8 #[.slice a L.length cap] .normal) (c::cs)) v) :
  ∃ (s t:Sl) (J:Rp.Rep) (v':World) (B':Nat->Prop),Stand Tryz.prog m0 B' (G (c.finish (.agg #[sv s,sv t])) cs) v'∧Rp.WhlR L J∧En.Own v' v.heap.size (sv s) J.1∧Mm.Own v' v.heap.size (sv t) J.2∧Bel v.heap.size v v'∧∀ b,B' b->B b∨v.heap.size<=b:=by
 rw[enter_whole] at h
 obtain⟨T1,v1,h1,u,rfl,hb1,hs1,bx0,bx1⟩:=Nf.stand_pieceM good quiets init7 (fun i=>rfl) (td:=[.code (cutN 2 body7)]) (r:=restN 2 body7) rfl (by intro x hx;simp only[List.mem_singleton] at hx;subst hx;exact code7a) ⟨[],_,rfl,rfl⟩ W0F.tape h (fun t d=>Nf.hasEnd_code (whole_p0 a L.length cap v t d))
 simp only[restN,body7,Tryz.f8,Option.getD_some] at h1
 replace h1:=Nf.stand_region (Nf.stand_seq (Nf.stand_seq h1))
 simp only[List.size_toArray,List.length_cons,List.length_nil,Nat.reduceAdd,Nat.zero_add,List.range,List.range.loop] at h1
 replace h1:=Nf.stand_oper good (fun i=>rfl) rfl rfl (by decide) (by rfl) (.inl rfl) (fun t d=>rfl) h1
 try simp only[Act.put,Act.eval,List.map_toArray,List.map_cons,List.map_nil,Array.getD_eq_getD_getElem?,List.getElem?_toArray,List.getElem?_cons_succ,List.getElem?_cons_zero,Option.getD_some,Option.bind_some,List.size_toArray,List.length_cons,List.length_nil,Nat.reduceAdd,Nat.reduceSub,Nat.zero_add,List.range,List.range.loop,Array.replicate_succ,Array.replicate_zero,List.push_toArray,List.append_toArray,List.nil_append,List.cons_append,List.setIfInBounds_toArray,List.set_cons_succ,List.set_cons_zero,List.getElem_toArray,List.getElem_cons_succ,List.getElem_cons_zero] at h1
 replace h1:=Nf.stand_enter rfl rfl (by decide) rfl Tryz.func11 (by decide) rfl h1
 try simp only[Act.put,Act.eval,List.map_toArray,List.map_cons,List.map_nil,Array.getD_eq_getD_getElem?,List.getElem?_toArray,List.getElem?_cons_succ,List.getElem?_cons_zero,Option.getD_some,Option.bind_some,List.size_toArray,List.length_cons,List.length_nil,Nat.reduceAdd,Nat.reduceSub,Nat.zero_add,List.range,List.range.loop,Array.replicate_succ,Array.replicate_zero,List.push_toArray,List.append_toArray,List.nil_append,List.cons_append,List.setIfInBounds_toArray,List.set_cons_succ,List.set_cons_zero,List.getElem_toArray,List.getElem_cons_succ,List.getElem_cons_zero] at h1
 have hR1:Rp.Rd v1 a L:=hR.bel hb1
 obtain⟨val,v2,h2,rfl,hb2⟩:=Nf.stand_call good quiets (R:=fun val x=>val=.bool (Rp.okG L)∧Bel v1.heap.size v1 x) (fun x w t d ⟨h1,h2⟩=>⟨h1,h2.on v1.tape t v1.drawn d⟩) Tryz.func11 rfl (by kernel_rfl) (by kernel_rfl) (fun i=>rfl) h1
  (fun t d=>(Rp.impl_GroupOk a cap L (on v1 t d) hR1.tape hs hl hlb).mono (fun e w' hz=>⟨_,hz.1,rfl,Rp.bel_from hz.2⟩))
 rw[Nf.finish_mid rfl] at h2
 clear h1
 have h1:=h2
 clear h2
 have hb3:=hb1.trans (hb2.mono (by have:=hb1.size;omega))
 have bx0':=Rp.box_bel bx0 hb2
 have bx1':=Rp.box_bel bx1 hb2
 have hn2:v1.heap.size<=v2.heap.size:=hb2.size
 try simp only[Act.put,Act.eval,List.map_toArray,List.map_cons,List.map_nil,Array.getD_eq_getD_getElem?,List.getElem?_toArray,List.getElem?_cons_succ,List.getElem?_cons_zero,Option.getD_some,Option.bind_some,List.size_toArray,List.length_cons,List.length_nil,Nat.reduceAdd,Nat.reduceSub,Nat.zero_add,List.range,List.range.loop,Array.replicate_succ,Array.replicate_zero,List.push_toArray,List.append_toArray,List.nil_append,List.cons_append,List.setIfInBounds_toArray,List.set_cons_succ,List.set_cons_zero,List.getElem_toArray,List.getElem_cons_succ,List.getElem_cons_zero] at h1
 cases ok:Rp.okG L with
 | false =>
  rw[ok] at h1
  replace h1:=Nf.stand_oper good (fun i=>rfl) rfl rfl (by decide) (by rfl) (.inl rfl) (fun t d=>rfl) h1
  try simp only[Act.put,Act.eval,List.map_toArray,List.map_cons,List.map_nil,Array.getD_eq_getD_getElem?,List.getElem?_toArray,List.getElem?_cons_succ,List.getElem?_cons_zero,Option.getD_some,Option.bind_some,List.size_toArray,List.length_cons,List.length_nil,Nat.reduceAdd,Nat.reduceSub,Nat.zero_add,List.range,List.range.loop,Array.replicate_succ,Array.replicate_zero,List.push_toArray,List.append_toArray,List.nil_append,List.cons_append,List.setIfInBounds_toArray,List.set_cons_succ,List.set_cons_zero,List.getElem_toArray,List.getElem_cons_succ,List.getElem_cons_zero,if_true,if_false,Bool.false_eq_true,↓reduceIte] at h1
  replace h1:=Nf.stand_cond rfl (Nf.stand_region_end h1)
  try simp only[Act.put,Act.eval,List.map_toArray,List.map_cons,List.map_nil,Array.getD_eq_getD_getElem?,List.getElem?_toArray,List.getElem?_cons_succ,List.getElem?_cons_zero,Option.getD_some,Option.bind_some,List.size_toArray,List.length_cons,List.length_nil,Nat.reduceAdd,Nat.reduceSub,Nat.zero_add,List.range,List.range.loop,Array.replicate_succ,Array.replicate_zero,List.push_toArray,List.append_toArray,List.nil_append,List.cons_append,List.setIfInBounds_toArray,List.set_cons_succ,List.set_cons_zero,List.getElem_toArray,List.getElem_cons_succ,List.getElem_cons_zero,if_true,if_false,Bool.false_eq_true,↓reduceIte] at h1
  replace h1:=Nf.stand_region (Nf.stand_seq h1)
  try simp only[Act.put,Act.eval,List.map_toArray,List.map_cons,List.map_nil,Array.getD_eq_getD_getElem?,List.getElem?_toArray,List.getElem?_cons_succ,List.getElem?_cons_zero,Option.getD_some,Option.bind_some,List.size_toArray,List.length_cons,List.length_nil,Nat.reduceAdd,Nat.reduceSub,Nat.zero_add,List.range,List.range.loop,Array.replicate_succ,Array.replicate_zero,List.push_toArray,List.append_toArray,List.nil_append,List.cons_append,List.setIfInBounds_toArray,List.set_cons_succ,List.set_cons_zero,List.getElem_toArray,List.getElem_cons_succ,List.getElem_cons_zero,if_true,if_false,Bool.false_eq_true,↓reduceIte] at h1
  replace h1:=Nf.stand_oper good (fun i=>rfl) rfl rfl (by decide) (by rfl) (v':=v2) (.inl rfl) (fun t d=>run_load rfl rfl (bx1'.c 0 rfl) (bx1'.c 1 rfl)) h1
  try simp only[Act.put,Act.eval,List.map_toArray,List.map_cons,List.map_nil,Array.getD_eq_getD_getElem?,List.getElem?_toArray,List.getElem?_cons_succ,List.getElem?_cons_zero,Option.getD_some,Option.bind_some,List.size_toArray,List.length_cons,List.length_nil,Nat.reduceAdd,Nat.reduceSub,Nat.zero_add,List.range,List.range.loop,Array.replicate_succ,Array.replicate_zero,List.push_toArray,List.append_toArray,List.nil_append,List.cons_append,List.setIfInBounds_toArray,List.set_cons_succ,List.set_cons_zero,List.getElem_toArray,List.getElem_cons_succ,List.getElem_cons_zero,if_true,if_false,Bool.false_eq_true,↓reduceIte] at h1
  replace h1:=Nf.stand_oper good (fun i=>rfl) rfl rfl (by decide) (by rfl) (v':=(v2.setCell ⟨v.heap.size,0,none⟩ (.slice none 0 0)).setCell ⟨v.heap.size,1,none⟩ (.slice none 0 0)) (.inr ⟨rfl,rfl⟩) (fun t d=>run_store rfl rfl rfl ⟨_,_,_,rfl⟩ ⟨_,_,_,rfl⟩ (Rp.box_tape bx0') rfl) h1
  try simp only[Act.put,Act.eval,List.map_toArray,List.map_cons,List.map_nil,Array.getD_eq_getD_getElem?,List.getElem?_toArray,List.getElem?_cons_succ,List.getElem?_cons_zero,Option.getD_some,Option.bind_some,List.size_toArray,List.length_cons,List.length_nil,Nat.reduceAdd,Nat.reduceSub,Nat.zero_add,List.range,List.range.loop,Array.replicate_succ,Array.replicate_zero,List.push_toArray,List.append_toArray,List.nil_append,List.cons_append,List.setIfInBounds_toArray,List.set_cons_succ,List.set_cons_zero,List.getElem_toArray,List.getElem_cons_succ,List.getElem_cons_zero,if_true,if_false,Bool.false_eq_true,↓reduceIte] at h1
  replace h1:=Nf.stand_goret rfl (Nf.stand_region_end h1)
  have b9:=(bx0'.put 0 (.slice none 0 0) (by simp[nil2]) rfl).put 1 (.slice none 0 0) (by simp[nil2]) rfl
  have r0:=b9.c 0 rfl
  have r1:=b9.c 1 rfl
  replace h1:=Nf.stand_ret (val:=.agg #[.slice none 0 0,.slice none 0 0]) Tryz.func8 h1 (by simp[results,Tryz.results8,go_sem,r0,r1];rfl)
  refine⟨(none,0,0),(none,0,0),([],[]),_,_,h1,⟨fun _=>rfl,(fun q=>by rw[ok] at q;cases q),(fun q=>by rw[ok] at q;cases q)⟩,⟨rfl,.inl ⟨rfl,rfl⟩⟩,⟨rfl,.inl ⟨rfl,rfl⟩⟩,hb3.trans (Bel.of (((Below.refl _ _).setCell (p:=⟨v.heap.size,0,none⟩) (Nat.le_refl _) _).setCell (p:=⟨v.heap.size,1,none⟩) (Nat.le_refl _) _)),fun b hb=>.inl hb⟩
 | true =>
  rw[ok] at h1
  replace h1:=Nf.stand_oper good (fun i=>rfl) rfl rfl (by decide) (by rfl) (.inl rfl) (fun t d=>rfl) h1
  try simp only[Act.put,Act.eval,List.map_toArray,List.map_cons,List.map_nil,Array.getD_eq_getD_getElem?,List.getElem?_toArray,List.getElem?_cons_succ,List.getElem?_cons_zero,Option.getD_some,Option.bind_some,List.size_toArray,List.length_cons,List.length_nil,Nat.reduceAdd,Nat.reduceSub,Nat.zero_add,List.range,List.range.loop,Array.replicate_succ,Array.replicate_zero,List.push_toArray,List.append_toArray,List.nil_append,List.cons_append,List.setIfInBounds_toArray,List.set_cons_succ,List.set_cons_zero,List.getElem_toArray,List.getElem_cons_succ,List.getElem_cons_zero,if_true,if_false,Bool.false_eq_true,↓reduceIte] at h1
  replace h1:=Nf.stand_cond rfl (Nf.stand_region_end h1)
  try simp only[Act.put,Act.eval,List.map_toArray,List.map_cons,List.map_nil,Array.getD_eq_getD_getElem?,List.getElem?_toArray,List.getElem?_cons_succ,List.getElem?_cons_zero,Option.getD_some,Option.bind_some,List.size_toArray,List.length_cons,List.length_nil,Nat.reduceAdd,Nat.reduceSub,Nat.zero_add,List.range,List.range.loop,Array.replicate_succ,Array.replicate_zero,List.push_toArray,List.append_toArray,List.nil_append,List.cons_append,List.setIfInBounds_toArray,List.set_cons_succ,List.set_cons_zero,List.getElem_toArray,List.getElem_cons_succ,List.getElem_cons_zero,if_true,if_false,Bool.false_eq_true,↓reduceIte] at h1
  replace h1:=Nf.stand_region (Nf.stand_seq (Nf.stand_seq (Nf.stand_skip h1)))
  try simp only[Act.put,Act.eval,List.map_toArray,List.map_cons,List.map_nil,Array.getD_eq_getD_getElem?,List.getElem?_toArray,List.getElem?_cons_succ,List.getElem?_cons_zero,Option.getD_some,Option.bind_some,List.size_toArray,List.length_cons,List.length_nil,Nat.reduceAdd,Nat.reduceSub,Nat.zero_add,List.range,List.range.loop,Array.replicate_succ,Array.replicate_zero,List.push_toArray,List.append_toArray,List.nil_append,List.cons_append,List.setIfInBounds_toArray,List.set_cons_succ,List.set_cons_zero,List.getElem_toArray,List.getElem_cons_succ,List.getElem_cons_zero,if_true,if_false,Bool.false_eq_true,↓reduceIte] at h1
  replace h1:=Nf.stand_oper good (fun i=>rfl) rfl rfl (by decide) (by rfl) (.inl rfl) (fun t d=>rfl) h1
  try simp only[Act.put,Act.eval,List.map_toArray,List.map_cons,List.map_nil,Array.getD_eq_getD_getElem?,List.getElem?_toArray,List.getElem?_cons_succ,List.getElem?_cons_zero,Option.getD_some,Option.bind_some,List.size_toArray,List.length_cons,List.length_nil,Nat.reduceAdd,Nat.reduceSub,Nat.zero_add,List.range,List.range.loop,Array.replicate_succ,Array.replicate_zero,List.push_toArray,List.append_toArray,List.nil_append,List.cons_append,List.setIfInBounds_toArray,List.set_cons_succ,List.set_cons_zero,List.getElem_toArray,List.getElem_cons_succ,List.getElem_cons_zero,if_true,if_false,Bool.false_eq_true,↓reduceIte] at h1
  replace h1:=Nf.stand_enter rfl rfl (by decide) rfl Tryz.func30 (by decide) rfl h1
  try simp only[Act.put,Act.eval,List.map_toArray,List.map_cons,List.map_nil,Array.getD_eq_getD_getElem?,List.getElem?_toArray,List.getElem?_cons_succ,List.getElem?_cons_zero,Option.getD_some,Option.bind_some,List.size_toArray,List.length_cons,List.length_nil,Nat.reduceAdd,Nat.reduceSub,Nat.zero_add,List.range,List.range.loop,Array.replicate_succ,Array.replicate_zero,List.push_toArray,List.append_toArray,List.nil_append,List.cons_append,List.setIfInBounds_toArray,List.set_cons_succ,List.set_cons_zero,List.getElem_toArray,List.getElem_cons_succ,List.getElem_cons_zero,if_true,if_false,Bool.false_eq_true,↓reduceIte] at h1
  obtain⟨hn1,hn6,_,_⟩:=Rp.okG_all ok
  obtain⟨S,hS⟩:=hR
  obtain⟨lb,lo,rfl⟩:=Rp.Rd.addr ⟨S,hS⟩ hn1
  have hS2:Rp.RdC v2 (some ⟨lb,lo,none⟩) S L:=hS.bel hb3
  have hcell:∀ j,j<L.length->v2.cell? ⟨lb,lo+j*2,none⟩=some (sv (Vv.rat S j).1)∧v2.cell? ⟨lb,lo+j*2+1,none⟩=some (sv (Vv.rat S j).2):=fun j hj=>by
   obtain⟨b,off,e,c0,c1⟩:=hS2.row.all (i:=j) (by rw[hS2.len];exact hj)
   cases e
   exact⟨c0,c1⟩
  obtain⟨v3,B3,l,tm,h3,hch,hp,hb4,hB3⟩:=stand_said (xs:=fun j=>sv (Vv.rat S j).1) (ys:=fun j=>sv (Vv.rat S j).2) (by omega) hn1 h1 (fun j hj=>(hcell j hj).1) (fun j hj=>(hcell j hj).2) (fun j _=>⟨_,_,_,rfl⟩) (fun j _=>⟨_,_,_,rfl⟩)
  have hll:l.length=L.length:=by rw[hp.length_eq,List.length_range]
  rw[hll] at hch
  clear h1
  have h1:=Nf.stand_region_end h3
  clear h3
  try simp only[Act.put,Act.eval,List.map_toArray,List.map_cons,List.map_nil,Array.getD_eq_getD_getElem?,List.getElem?_toArray,List.getElem?_cons_succ,List.getElem?_cons_zero,Option.getD_some,Option.bind_some,List.size_toArray,List.length_cons,List.length_nil,Nat.reduceAdd,Nat.reduceSub,Nat.zero_add,List.range,List.range.loop,Array.replicate_succ,Array.replicate_zero,List.push_toArray,List.append_toArray,List.nil_append,List.cons_append,List.setIfInBounds_toArray,List.set_cons_succ,List.set_cons_zero,List.getElem_toArray,List.getElem_cons_succ,List.getElem_cons_zero,if_true,if_false,Bool.false_eq_true,↓reduceIte] at h1
  have hb5:=hb3.trans (hb4.mono (by have:=hb3.size;omega))
  obtain⟨T',li,v4,h4,s,t,J,hW,hres,oE,oM,hb6⟩:=Nf.stand_pieceL good quiets init7 (fun i=>rfl) (td:=[.code (.block 0 (.loop loop7)),.code tail7]) (F:=W2F L v) (by
    intro x hx
    simp only[List.mem_cons,List.not_mem_nil,or_false] at hx
    rcases hx with rfl | rfl
    ·
     show Nf.codeB K Tryz.prog 8 _=true
     kernel_rfl
    ·
     show Nf.codeB K Tryz.prog 8 _=true
     kernel_rfl) ⟨[.code (.block 0 (.loop loop7))],tail7,rfl,by kernel_rfl⟩ W2F.tape h1 (fun t d=>Nf.hasEndB_seq (rest7_wp (n0:=v.heap.size) (Ch:=v2.heap.size) (S:=S) (tm:=tm) (t':=t) (d':=d) (l:=l) (n:=L.length) (u:=fun i=>match i with
    | 6=>.slice (some ⟨lb,lo,none⟩) L.length cap
    | 7=>.bool true
    | 8=>.bool !true
    | 10=>.slice (some ⟨lb,lo,none⟩) L.length cap
    | k=>u k) rfl ok hp rfl (Rp.RdC.bel hS (x:=on v t d) ⟨rfl,rfl,Nat.le_refl _,fun _ _=>rfl⟩) ⟨Rp.box_tape (Rp.box_bel bx0' hb4),Rp.box_tape (Rp.box_bel bx1' hb4),⟨rfl,.inl ⟨rfl,rfl⟩⟩,⟨rfl,.inl ⟨rfl,rfl⟩⟩,Rp.Acc.nil L,hch,hb5.below t d d,by omega⟩))
  exact⟨s,t,J,v4,B3,Nf.stand_ret Tryz.func8 h4 hres,hW,oE,oM,hb6,fun b hb=>(hB3 b hb).imp id (fun h=>by have:=hb3.size;omega)⟩
end Go.Proofs.YtkeapmmochpcfaaGreat.Sd
namespace Go.Proofs.YtkeapmmochpcfaaGreat.Gg
open Go Go.Conc Go.ChangeShapes Go.WideShapes Go.ChangeAt Go.RowKit
open Nf (Stand Bel Pz cutN restN EndQ HasEnd on)
open Bo (Box)
open Vv (Sl sv hidIt)
def body3 (fz:Func:=Tryz.f3):Code:=fz.body.getD .skip
section
variable (a0 : Option Addr) (len0 cap0 : Nat) (W0 : World)
def S1 (p:Option Addr) (m q:Nat) (f t:Int) (p2:Option Addr) (m2 q2:Nat) (b:Bool) (u:Nat->Value):Array Value:=#[.slice a0 len0 cap0,u 1,.bool false,.slice p m q,.int .i64 f,.int .i64 t,.slice p2 m2 q2,.bool b,u 8,u 9,u 10,u 11,u 12,u 13,u 14,u 15,u 16,u 17,u 18,u 19,u 20,u 21,u 22,u 23,u 24,u 25,u 26,u 27,u 28,u 29,u 30,u 31,u 32,u 33,u 34,u 35,u 36,u 37,u 38,u 39,u 40,u 41,u 42,u 43,u 44,u 45,u 46,u 47,u 48,u 49,u 50,u 51,u 52,u 53,u 54,u 55,u 56,u 57,u 58,u 59,u 60,u 61,u 62,u 63,u 64,u 65,u 66,u 67,u 68,u 69,u 70,u 71,u 72,u 73,u 74,u 75,u 76,u 77,u 78,u 79,u 80,u 81,u 82,u 83,u 84,u 85,u 86,u 87,u 88,u 89,u 90,u 91,u 92,u 93,u 94,u 95,u 96,u 97,u 98,u 99,u 100,u 101,u 102,u 103,u 104,u 105,u 106,u 107,u 108,u 109,u 110,u 111,u 112,u 113,u 114,u 115,u 116,u 117,u 118,u 119,u 120,u 121,u 122,u 123,u 124,u 125,u 126,u 127,u 128,u 129,u 130,u 131,u 132,u 133,u 134,u 135,u 136,u 137,u 138,u 139,u 140,u 141,u 142,u 143,u 144,u 145,u 146,u 147,u 148,u 149,u 150]
structure G1 (p:Option Addr) (m q:Nat) (f t:Int) (p2:Option Addr) (m2 q2:Nat) (b:Bool) (lo hi lo2 hi2:Nat) (L M:List Rp.Rep) (x:World):Prop where
 be:Bel W0.heap.size W0 x
 om:Rp.Own x lo hi (.slice p m q) L
 oa:Rp.Own x lo2 hi2 (.slice p2 m2 q2) M
 ml:L.length=m
 ml2:M.length=m2
 mc:m<=q
 mc2:m2<=q2
 tr:Rp.ToldR L f t M b
 sm:Rp.Sm L
def F1 (T:Array Value) (x:World):Prop:=∃ p m q f t p2 m2 q2 b lo hi lo2 hi2 L M,T=S1 a0 len0 cap0 p m q f t p2 m2 q2 b (fun i=>T.getD i undef)∧G1 W0 p m q f t p2 m2 q2 b lo hi lo2 hi2 L M x
end
theorem F1.tape {a0:Option Addr} {len0 cap0:Nat} {W0:World}:∀ (T:Array Value) (x:World) (k:Nf.Tp) (d:Nat),F1 a0 len0 cap0 W0 T x->F1 a0 len0 cap0 W0 T (on x k d) :=
 fun T x k d ⟨p,m,q,f,t,p2,m2,q2,b,lo,hi,lo2,hi2,L,M,h1,h⟩=>⟨p,m,q,f,t,p2,m2,q2,b,lo,hi,lo2,hi2,L,M,h1,⟨h.be.on W0.tape k W0.drawn d,h.om.tape,h.oa.tape,h.ml,h.ml2,h.mc,h.mc2,h.tr,h.sm⟩⟩
theorem law_p1 (a0:Option Addr) (len0 cap0:Nat) (W0 W:World) (hc:Dr.Code W.heap.size W a0 len0) (hl:len0<=4096) (be:Bel W0.heap.size W0 W) :
  (cutN 4 body3).wp Tryz.prog (EndQ false (F1 a0 len0 cap0 W0)) ⟨#[.slice a0 len0 cap0,undef,undef,undef,undef,undef,undef,undef,undef,undef,undef,undef,undef,undef,undef,undef,undef,undef,undef,undef,undef,undef,undef,undef,undef,undef,undef,undef,undef,undef,undef,undef,undef,undef,undef,undef,undef,undef,undef,undef,undef,undef,undef,undef,undef,undef,undef,undef,undef,undef,undef,undef,undef,undef,undef,undef,undef,undef,undef,undef,undef,undef,undef,undef,undef,undef,undef,undef,undef,undef,undef,undef,undef,undef,undef,undef,undef,undef,undef,undef,undef,undef,undef,undef,undef,undef,undef,undef,undef,undef,undef,undef,undef,undef,undef,undef,undef,undef,undef,undef,undef,undef,undef,undef,undef,undef,undef,undef,undef,undef,undef,undef,undef,undef,undef,undef,undef,undef,undef,undef,undef,undef,undef,undef,undef,undef,undef,undef,undef,undef,undef,undef,undef,undef,undef,undef,undef,undef,undef,undef,undef,undef,undef,undef,undef,undef,undef,undef,undef,undef,undef],[]⟩ W:=by
 have HC:=hidIt hc
 have hsz:=be.size
 have hbig:decide (4096<(len0:Int))=false:=by simp;omega
 have HF:Hid (∀ p m q f t p2 m2 q2 b lo hi lo2 hi2 L M x T,T=S1 a0 len0 cap0 p m q f t p2 m2 q2 b (fun i=>T.getD i undef)->Below W.heap.size W x->(Bel W0.heap.size W0 x->G1 W0 p m q f t p2 m2 q2 b lo hi lo2 hi2 L M x)->F1 a0 len0 cap0 W0 T x):=hidIt (fun p m q f t p2 m2 q2 b lo hi lo2 hi2 L M x T h1 h2 h3=>⟨p,m,q,f,t,p2,m2,q2,b,lo,hi,lo2,hi2,L,M,h1,h3 (be.trans ((Bel.of h2).mono hsz))⟩)
 clear hc be hsz
 generalize F1 a0 len0 cap0 W0=FF at HF ⊢
 simp only[body3,cutN,Tryz.f3,Option.getD_some]
 go_wp2_with (fail)
 refine (Dr.big_any a0 len0 cap0 _).mono ?_
 rintro e w1 ⟨rfl,rfl⟩
 rw[hbig]
 go_wp2_with (fail)
 refine (Rp.DrawTold_any a0 len0 cap0 _ HC.out hl).mono ?_
 intro e w2 hz
 obtain⟨v,L,f,t,rfl,sm,o,k⟩:=hz.out
 obtain⟨p,q,rfl,hq,hqc,hqn⟩:=o.form
 have HS:=hidIt sm
 have HO:=hidIt o
 have HB:=hidIt k
 have CI:=hidIt (fun V (r:Rp.Rd V p L)=>Rp.impl_Told p q L f t V r sm.s sm.l sm.lb)
 have HQ:=hidIt hq
 clear hz sm o k hq hqc hqn
 generalize hm:L.length=m at *
 have HM:=hidIt hm
 clear hm
 go_wp2_with (fail)
 refine (CI.out _ HO.out.rd).mono ?_
 intro e w3 hz
 obtain⟨v,M,b,rfl,hA,o,k⟩:=hz.out
 obtain⟨p2,q2,rfl,hq2,hqc2,hqn2⟩:=o.form
 have HA:=hidIt hA
 have HO2:=hidIt o
 replace HO:=hidIt (HO.out.kept k)
 have HB3:=hidIt (HB.out.trans (k.mono HB.out.size))
 have HQ2:=hidIt hq2
 clear hz o k hA hq2 hqc2 hqn2 HB CI
 generalize hm2:M.length=m2 at *
 have HM2:=hidIt hm2
 clear hm2
 go_wp2_with (fail)
 exact⟨rfl,rfl,HF.out p m q f t p2 m2 q2 b _ _ _ _ L M w3 _ rfl HB3.out (fun be=>⟨be,HO.out,HO2.out,HM.out,HM2.out,HQ.out,HQ2.out,HA.out,HS.out⟩)⟩
end Go.Proofs.YtkeapmmochpcfaaGreat.Gg
namespace Go.Proofs.YtkeapmmochpcfaaGreat.Gg
open Go Go.Conc Go.ChangeShapes Go.WideShapes Go.ChangeAt Go.RowKit
open Nf (Stand Bel Pz cutN restN EndQ HasEnd on)
open Bo (Box)
open Vv (Sl sv hidIt)
open Sd (K good quiets whole_stand)
structure Pr where
 a0:Option Addr
 len0:Nat
 cap0:Nat
 p:Option Addr
 m:Nat
 q:Nat
 f:Int
 t:Int
 p2:Option Addr
 m2:Nat
 q2:Nat
 b:Bool
 L:List Rp.Rep
 M:List Rp.Rep
 J:Rp.Rep
 s:Sl
 r:Sl
 b8:Nat
structure Ev (e:Pr) (v:World):Prop where
 rg:Rp.Rd v e.p e.L
 rx:Rp.Rd v e.p2 e.M
 ml:e.L.length=e.m
 ml2:e.M.length=e.m2
 mc:e.m<=e.q
 mc2:e.m2<=e.q2
 tr:Rp.ToldR e.L e.f e.t e.M e.b
 sm:Rp.Sm e.L
 sM:Rp.Sm e.M
 hJ:Rp.WhlR e.L e.J
 bx:Box v e.b8 #[sv e.s,sv e.r]
 hE:Rp.RdE v e.s e.J.1
 hM:Rp.RdM v e.r e.J.2
theorem Ev.bel {e:Pr} {v v':World} (h:Ev e v) (k:Bel v.heap.size v v'):Ev e v':=⟨h.rg.bel k,h.rx.bel k,h.ml,h.ml2,h.mc,h.mc2,h.tr,h.sm,h.sM,h.hJ,Rp.box_bel h.bx k,h.hE.bel k,h.hM.bel k⟩
theorem Ev.tape {e:Pr} {v:World} (h:Ev e v) (t:Nf.Tp) (d:Nat):Ev e (on v t d):=⟨h.rg.tape,h.rx.tape,h.ml,h.ml2,h.mc,h.mc2,h.tr,h.sm,h.sM,h.hJ,Rp.box_tape h.bx,h.hE.tape,h.hM.tape⟩
def pG (e:Pr):Value:=.slice e.p e.m e.q
def pX (e:Pr):Value:=.slice e.p2 e.m2 e.q2
def base6 (e:Pr):List (Nat × Value):=[(0,.slice e.a0 e.len0 e.cap0),(2,.bool false),(3,pG e),(4,.int .i64 e.f),(5,.int .i64 e.t),(6,pX e),(7,.bool e.b),(8,.pointer (some ⟨e.b8,0,none⟩))]
section
variable {a : Act} {w : World} {o : Oper}
theorem ev_not {T:TypeId} {x:Operand} {c:Bool} (hop:o.op=.unOp .not T x) (hx:a.eval x=.bool c):(execOp a.eval o).run Tryz.prog w=.ok (.value (.bool (!c))) w:=by
 unfold execOp
 simp only[hop,hx]
 simp[go_sem]
theorem ev_neqB {x y:Operand} {c d:Bool} (hop:o.op=.binOp .neq 4 x y 4) (hx:a.eval x=.bool c) (hy:a.eval y=.bool d):(execOp a.eval o).run Tryz.prog w=.ok (.value (.bool (c != d))) w:=by
 unfold execOp
 simp only[hop,hx,hy]
 simp[go_sem]
 cases c<;>cases d<;>rfl
theorem ev_len {n:Nat} {p:Option Addr} {m q:Nat} (hop:o.op=.call { callee:=.builtin .len,args:=#[.tmp n],argTypes:=#[24] }) (hx:a.eval (.tmp n)=.slice p m q):(execOp a.eval o).run Tryz.prog w=.ok (.value (.int .i64 m)) w:=by
 have hx':a.tmps[n]?.getD undef=.slice p m q:=by simpa [Act.eval,Array.getD_eq_getD_getElem?] using hx
 unfold execOp
 simp only[hop]
 simp[go_sem,hx']
theorem ev_eq0 {x:Operand} {i:Int} (hop:o.op=.binOp .eql 3 x (.const (.int .i64 0)) 3) (hx:a.eval x=.int .i64 i) (hi:i=0):(execOp a.eval o).run Tryz.prog w=.ok (.value (.bool true)) w:=by
 subst hi
 unfold execOp
 simp only[hop,hx]
 simp[go_sem,Act.eval]
theorem ev_zero (hop:o.op=.build 32 #[]):(execOp a.eval o).run Tryz.prog w=.ok (.value (.agg #[.slice none 0 0,.slice none 0 0])) w:=by
 unfold execOp
 simp only[hop]
 simp[go_sem]
theorem ev_index {x y:Operand} {b c m q n:Nat} {i:Int} (hop:o.op=.indexAddr 24 x y) (hx:a.eval x=.slice (some ⟨b,c,none⟩) m q) (hy:a.eval y=.int .i64 i) (hi:i=(n:Int)) (hn:n<m):(execOp a.eval o).run Tryz.prog w=.ok (.value (.pointer (some ⟨b,c+n*2,none⟩))) w:=by
 subst hi
 have h1:(n:Int)<(m:Int):=by omega
 have h0:(0:Int)<=(n:Int):=by omega
 unfold execOp
 simp only[hop,hx,hy]
 simp[go_sem,h1,h0]
theorem ev_field0 {x:Operand} {b c:Nat} (hop:o.op=.fieldAddr 32 x 0) (hx:a.eval x=.pointer (some ⟨b,c,none⟩)):(execOp a.eval o).run Tryz.prog w=.ok (.value (.pointer (some ⟨b,c,none⟩))) w:=by
 unfold execOp
 simp only[hop,hx]
 simp[go_sem]
theorem ev_field1 {x:Operand} {b c:Nat} (hop:o.op=.fieldAddr 32 x 1) (hx:a.eval x=.pointer (some ⟨b,c,none⟩)):(execOp a.eval o).run Tryz.prog w=.ok (.value (.pointer (some ⟨b,c+1,none⟩))) w:=by
 unfold execOp
 simp only[hop,hx]
 simp[go_sem]
theorem ev_loadE {x:Operand} {b c:Nat} {y:Sl} (hop:o.op=.load 29 x) (hx:a.eval x=.pointer (some ⟨b,c,none⟩)) (hc:w.cell? ⟨b,c,none⟩=some (sv y)):(execOp a.eval o).run Tryz.prog w=.ok (.value (sv y)) w:=by
 unfold execOp
 simp only[hop,hx]
 simp[go_sem,hc,sv]
theorem ev_loadM {x:Operand} {b c:Nat} {y:Sl} (hop:o.op=.load 30 x) (hx:a.eval x=.pointer (some ⟨b,c,none⟩)) (hc:w.cell? ⟨b,c,none⟩=some (sv y)):(execOp a.eval o).run Tryz.prog w=.ok (.value (sv y)) w:=by
 unfold execOp
 simp only[hop,hx]
 simp[go_sem,hc,sv]
end
theorem whl_small {L:List Rp.Rep} {J:Rp.Rep} (h:Rp.WhlR L J):Rp.bulk1 J<=1048576:=by
 cases ok:Rp.okG L with
 | false =>
  rw[h.no ok]
  decide
 | true =>
  obtain⟨_,_,h3,h4⟩:=(Rp.okG_iff L).1 ok
  have e1:J.1.length<=80:=by
   have:=h3.len
   rw[<- h.bk ok,En.toB_length] at this
   exact this
  have e2:J.2.length<=8:=by
   have:=Mk.part_ok h4 (G':=Rp.mbs L) (fun b hb=>hb)
   rw[<- h.mb ok] at this
   unfold Mk.okBk at this
   simp only[Bool.and_eq_true,decide_eq_true_eq] at this
   have h5:=this.1.1
   rw[Mm.toB_length] at h5
   exact h5
  unfold Rp.bulk1
  omega
def regOf (n:Nat):Code->Option (Array Oper)
 | .region i o _=>if i=n then some o else none
 | .seq x y=>match regOf n x with
  | some o=>some o
  | none=>regOf n y
 | .cond _ x y=>match regOf n x with
  | some o=>some o
  | none=>regOf n y
 | .block _ x=>regOf n x
 | .loop x=>regOf n x
 | _=>none
def ops (n:Nat) (fz:Func:=Tryz.f3):Array Oper:=(regOf n (body3 fz)).getD #[]
theorem code4:restN 4 body3=.seq (.region 5 (ops 5) false) (restN 5 body3):=by kernel_rfl
theorem code5:restN 5 body3=.seq (.seq (.region 6 (ops 6) false) (.seq (.region 7 (ops 7) true) (.cond (.tmp 60) (.seq (.region 8 (ops 8) false) .ret) .skip))) (restN 6 body3):=by kernel_rfl
theorem code6:restN 6 body3=.seq (.seq (.region 9 (ops 9) false) (.cond (.tmp 63) (.seq (.region 10 (ops 10) false) .ret) .skip)) (restN 7 body3):=by kernel_rfl
theorem code7:restN 7 body3=.seq (.seq (.region 11 (ops 11) false) (.cond (.tmp 73) (.seq (.region 12 (ops 12) false) .ret) .skip)) (restN 8 body3):=by kernel_rfl
theorem code9:restN 9 body3=.seq (.region 18 (ops 18) true) (.seq (.region 19 (ops 19) true) .ret):=by kernel_rfl
end Go.Proofs.YtkeapmmochpcfaaGreat.Gg
namespace Go.Proofs.YtkeapmmochpcfaaGreat.Gg
open Go Go.Conc Go.ChangeShapes Go.WideShapes Go.ChangeAt Go.RowKit
open Nf (Stand Bel Pz cutN restN EndQ HasEnd on)
open Bo (Box)
open Vv (Sl sv hidIt)
open Sd (K good quiets whole_stand)
variable {m0 : Machine} {k : List Item} {cs : List Frame}
def D6 (i:Nat):Nat:=([32,33,34,35,31,36,37,9,10]:List Nat).getD i 0
def V6 (e:Pr) (z:Sl) (i:Nat):Option Value:=([pG e,.int .i64 e.f,.int .i64 e.t,.tuple #[sv z,.bool e.b],.tuple #[sv z,.bool e.b],sv z,.bool e.b,sv z,.bool e.b]:List Value)[i]?
def U6 (e:Pr):Sl->(Nat->Bool)->World->Prop:=Nf.Uc 3 [4,5,7] (fun z v=>Rp.Rd v z.1 e.M∧z.2.1=e.m2)
def I6 (e:Pr) (v0:World) (B0:Nat->Prop):=Nf.Ki 9 151 D6 (V6 e) (base6 e) (Nf.Xc v0 B0 (U6 e))
theorem h6_0 (e:Pr) (v0:World) (B0:Nat->Prop) (hE:Ev e v0):Nf.Hands Tryz.prog m0 (base 3) k cs (ops 6) (I6 e v0 B0) 0:=by
 refine Nf.hands_op good (fun i=>rfl) (o:=((ops 6)[0]?).getD default) (by kernel_rfl) (by kernel_rfl) (by decide) (by decide) (by rfl) (x:=fun z=>pG e) (fun z=>rfl) (by decide) (by kernel_rfl) ?_ (fun z L a hk hD=>Nf.wanted_none (by kernel_rfl)) ?_
 ·
  exact fun z L v hu hD=>hu.put (by decide) (fun h=>absurd h (by decide))
 ·
  intro z L a v hk be hu hD t d
  have x3:a.eval (.tmp 3)=pG e:=Nf.eval_tmp (hk.bs (3,pG e) (by simp[base6]))
  exact Nf.ev_move (x:=.tmp 3) (by kernel_rfl) x3
theorem h6_1 (e:Pr) (v0:World) (B0:Nat->Prop) (hE:Ev e v0):Nf.Hands Tryz.prog m0 (base 3) k cs (ops 6) (I6 e v0 B0) 1:=by
 refine Nf.hands_op good (fun i=>rfl) (o:=((ops 6)[1]?).getD default) (by kernel_rfl) (by kernel_rfl) (by decide) (by decide) (by rfl) (x:=fun z=>.int .i64 e.f) (fun z=>rfl) (by decide) (by kernel_rfl) ?_ (fun z L a hk hD=>Nf.wanted_none (by kernel_rfl)) ?_
 ·
  exact fun z L v hu hD=>hu.put (by decide) (fun h=>absurd h (by decide))
 ·
  intro z L a v hk be hu hD t d
  have x4:a.eval (.tmp 4)=.int .i64 e.f:=Nf.eval_tmp (hk.bs (4,.int .i64 e.f) (by simp[base6]))
  exact Nf.ev_move (x:=.tmp 4) (by kernel_rfl) x4
theorem h6_2 (e:Pr) (v0:World) (B0:Nat->Prop) (hE:Ev e v0):Nf.Hands Tryz.prog m0 (base 3) k cs (ops 6) (I6 e v0 B0) 2:=by
 refine Nf.hands_op good (fun i=>rfl) (o:=((ops 6)[2]?).getD default) (by kernel_rfl) (by kernel_rfl) (by decide) (by decide) (by rfl) (x:=fun z=>.int .i64 e.t) (fun z=>rfl) (by decide) (by kernel_rfl) ?_ (fun z L a hk hD=>Nf.wanted_none (by kernel_rfl)) ?_
 ·
  exact fun z L v hu hD=>hu.put (by decide) (fun h=>absurd h (by decide))
 ·
  intro z L a v hk be hu hD t d
  have x5:a.eval (.tmp 5)=.int .i64 e.t:=Nf.eval_tmp (hk.bs (5,.int .i64 e.t) (by simp[base6]))
  exact Nf.ev_move (x:=.tmp 5) (by kernel_rfl) x5
theorem h6_3 (e:Pr) (v0:World) (B0:Nat->Prop) (hE:Ev e v0):Nf.Hands Tryz.prog m0 (base 3) k cs (ops 6) (I6 e v0 B0) 3:=by
 refine Nf.hands_call good quiets (o:=((ops 6)[3]?).getD default) (by kernel_rfl) (by kernel_rfl) (by decide) (by decide) (by rfl) (by decide) (f:=9) (args:=#[.tmp 32,.tmp 33,.tmp 34]) (ats:=#[24,2,2]) (by kernel_rfl) Tryz.func9 (by decide) rfl (by kernel_rfl) (by kernel_rfl) (fun i=>rfl) (R:=fun z v x w=>∃ y:Sl,x=.tuple #[sv y,.bool e.b]∧(Rp.Rd w y.1 e.M∧y.2.1=e.m2)∧Bel v.heap.size v w) ?_ ?_ (fun z L a hk hD=>Nf.wanted_none (by kernel_rfl)) ?_
 ·
  exact fun z v x w t d ⟨y,h1,h2,h3⟩=>⟨y,h1,⟨h2.1.tape,h2.2⟩,h3.on v.tape t v.drawn d⟩
 ·
  rintro z L v B x v' ⟨be,bb,hu⟩ hD hL ⟨y,rfl,hq,kb⟩
  refine⟨y,rfl,fun j u hj hv=>?_,be.trans (kb.mono be.size),bb,Nf.Uc.brought hq⟩
  match j,hj,hv with
  | 0,_,h=>exact h
  | 1,_,h=>exact h
  | 2,_,h=>exact h
  | 3,h,_=>rw[hL] at h;cases h
  | 4,h,_=>have:=hu.2 4 (by decide) h;rw[hL] at this;cases this
  | 5,h,_=>have:=hu.2 5 (by decide) h;rw[hL] at this;cases this
  | 6,_,h=>exact h
  | 7,h,_=>have:=hu.2 7 (by decide) h;rw[hL] at this;cases this
  | 8,_,h=>exact h
  | _+9,_,h=>exact h
 ·
  rintro z L a v B hk ⟨be,_,hu⟩ hD t d
  have x32:a.eval (.tmp 32)=pG e:=Nf.eval_tmp (hk.kn 0 _ (by decide) (Nf.dep_at hD (by kernel_rfl)) rfl)
  have x33:a.eval (.tmp 33)=.int .i64 e.f:=Nf.eval_tmp (hk.kn 1 _ (by decide) (Nf.dep_at hD (by kernel_rfl)) rfl)
  have x34:a.eval (.tmp 34)=.int .i64 e.t:=Nf.eval_tmp (hk.kn 2 _ (by decide) (Nf.dep_at hD (by kernel_rfl)) rfl)
  rw[show ((#[.tmp 32,.tmp 33,.tmp 34]:Array Operand).map a.eval)=#[pG e,.int .i64 e.f,.int .i64 e.t] from by simp[x32,x33,x34]]
  have E:=(hE.bel be).tape t d
  have C:=Rp.spec_Told e.p e.q e.L e.f e.t _ E.rg E.sm.s E.sm.l E.sm.lb
  rw[E.ml] at C
  refine C.mono (fun en w' hz=>?_)
  obtain⟨x,M,b,rfl,h1,o,kk⟩:=hz.out
  obtain⟨rfl,rfl⟩:=h1.unique E.tr
  obtain⟨a',c',rfl,_⟩:=o.form
  exact⟨_,rfl,(a',e.M.length,c'),rfl,⟨o.rd,E.ml2⟩,Nf.from_below kk⟩
theorem h6_4 (e:Pr) (v0:World) (B0:Nat->Prop) (hE:Ev e v0):Nf.Hands Tryz.prog m0 (base 3) k cs (ops 6) (I6 e v0 B0) 4:=by
 refine Nf.hands_op good (fun i=>rfl) (o:=((ops 6)[4]?).getD default) (by kernel_rfl) (by kernel_rfl) (by decide) (by decide) (by rfl) (x:=fun z=>.tuple #[sv z,.bool e.b]) (fun z=>rfl) (by decide) (by kernel_rfl) ?_ (fun z L a hk hD=>Nf.wanted_none (by kernel_rfl)) ?_
 ·
  exact fun z L v hu hD=>hu.put (by decide) (fun _=>Nf.dep_at (j:=3) hD (by kernel_rfl))
 ·
  intro z L a v hk be hu hD t d
  have x35:a.eval (.tmp 35)=.tuple #[sv z,.bool e.b]:=Nf.eval_tmp (hk.kn 3 _ (by decide) (Nf.dep_at hD (by kernel_rfl)) rfl)
  exact Nf.ev_move (x:=.tmp 35) (by kernel_rfl) x35
theorem h6_5 (e:Pr) (v0:World) (B0:Nat->Prop) (hE:Ev e v0):Nf.Hands Tryz.prog m0 (base 3) k cs (ops 6) (I6 e v0 B0) 5:=by
 refine Nf.hands_op good (fun i=>rfl) (o:=((ops 6)[5]?).getD default) (by kernel_rfl) (by kernel_rfl) (by decide) (by decide) (by rfl) (x:=fun z=>sv z) (fun z=>rfl) (by decide) (by kernel_rfl) ?_ (fun z L a hk hD=>Nf.wanted_none (by kernel_rfl)) ?_
 ·
  exact fun z L v hu hD=>hu.put (by decide) (fun _=>hu.2 4 (by decide) (Nf.dep_at (j:=4) hD (by kernel_rfl)))
 ·
  intro z L a v hk be hu hD t d
  have x31:a.eval (.tmp 31)=.tuple #[sv z,.bool e.b]:=Nf.eval_tmp (hk.kn 4 _ (by decide) (Nf.dep_at hD (by kernel_rfl)) rfl)
  exact Nf.ev_extract (x:=.tmp 31) (i:=0) (by kernel_rfl) x31 rfl
theorem h6_6 (e:Pr) (v0:World) (B0:Nat->Prop) (hE:Ev e v0):Nf.Hands Tryz.prog m0 (base 3) k cs (ops 6) (I6 e v0 B0) 6:=by
 refine Nf.hands_op good (fun i=>rfl) (o:=((ops 6)[6]?).getD default) (by kernel_rfl) (by kernel_rfl) (by decide) (by decide) (by rfl) (x:=fun z=>.bool e.b) (fun z=>rfl) (by decide) (by kernel_rfl) ?_ (fun z L a hk hD=>Nf.wanted_none (by kernel_rfl)) ?_
 ·
  exact fun z L v hu hD=>hu.put (by decide) (fun h=>absurd h (by decide))
 ·
  intro z L a v hk be hu hD t d
  have x31:a.eval (.tmp 31)=.tuple #[sv z,.bool e.b]:=Nf.eval_tmp (hk.kn 4 _ (by decide) (Nf.dep_at hD (by kernel_rfl)) rfl)
  exact Nf.ev_extract (x:=.tmp 31) (i:=1) (by kernel_rfl) x31 rfl
theorem h6_7 (e:Pr) (v0:World) (B0:Nat->Prop) (hE:Ev e v0):Nf.Hands Tryz.prog m0 (base 3) k cs (ops 6) (I6 e v0 B0) 7:=by
 refine Nf.hands_op good (fun i=>rfl) (o:=((ops 6)[7]?).getD default) (by kernel_rfl) (by kernel_rfl) (by decide) (by decide) (by rfl) (x:=fun z=>sv z) (fun z=>rfl) (by decide) (by kernel_rfl) ?_ (fun z L a hk hD=>Nf.wanted_none (by kernel_rfl)) ?_
 ·
  exact fun z L v hu hD=>hu.put (by decide) (fun _=>Nf.dep_at (j:=3) hD (by kernel_rfl))
 ·
  intro z L a v hk be hu hD t d
  have x36:a.eval (.tmp 36)=sv z:=Nf.eval_tmp (hk.kn 5 _ (by decide) (Nf.dep_at hD (by kernel_rfl)) rfl)
  exact Nf.ev_assign (x:=.tmp 36) (by kernel_rfl) x36
theorem h6_8 (e:Pr) (v0:World) (B0:Nat->Prop) (hE:Ev e v0):Nf.Hands Tryz.prog m0 (base 3) k cs (ops 6) (I6 e v0 B0) 8:=by
 refine Nf.hands_op good (fun i=>rfl) (o:=((ops 6)[8]?).getD default) (by kernel_rfl) (by kernel_rfl) (by decide) (by decide) (by rfl) (x:=fun z=>.bool e.b) (fun z=>rfl) (by decide) (by kernel_rfl) ?_ (fun z L a hk hD=>Nf.wanted_none (by kernel_rfl)) ?_
 ·
  exact fun z L v hu hD=>hu.put (by decide) (fun h=>absurd h (by decide))
 ·
  intro z L a v hk be hu hD t d
  have x37:a.eval (.tmp 37)=.bool e.b:=Nf.eval_tmp (hk.kn 6 _ (by decide) (Nf.dep_at hD (by kernel_rfl)) rfl)
  exact Nf.ev_assign (x:=.tmp 37) (by kernel_rfl) x37
theorem hands6 (e:Pr) (v0:World) (B0:Nat->Prop) (hE:Ev e v0):∀ i,i<(ops 6).size->Nf.Hands Tryz.prog m0 (base 3) k cs (ops 6) (I6 e v0 B0) i:=by
 intro i hi
 have hi':i<9:=by
  have e:(ops 6).size=9:=by kernel_rfl
  omega
 clear hi
 match i,hi' with
 | 0,_=>exact h6_0 e v0 B0 hE
 | 1,_=>exact h6_1 e v0 B0 hE
 | 2,_=>exact h6_2 e v0 B0 hE
 | 3,_=>exact h6_3 e v0 B0 hE
 | 4,_=>exact h6_4 e v0 B0 hE
 | 5,_=>exact h6_5 e v0 B0 hE
 | 6,_=>exact h6_6 e v0 B0 hE
 | 7,_=>exact h6_7 e v0 B0 hE
 | 8,_=>exact h6_8 e v0 B0 hE
 | _+9,h=>exact absurd h (by omega)
end Go.Proofs.YtkeapmmochpcfaaGreat.Gg
namespace Go.Proofs.YtkeapmmochpcfaaGreat.Gg
open Go Go.Conc Go.ChangeShapes Go.WideShapes Go.ChangeAt Go.RowKit
open Nf (Stand Bel Pz cutN restN EndQ HasEnd on)
open Bo (Box)
open Vv (Sl sv hidIt)
open Sd (K good quiets whole_stand)
variable {m0 : Machine} {k : List Item} {cs : List Frame}
def base7 (e:Pr) (y:Sl):List (Nat × Value):=base6 e++[(9,sv y),(10,.bool e.b)]
def D7 (i:Nat):Nat:=([38,39,40,41,42,43,44,45,46,47,48,49,50,51,52,53,54,55,56,57,58,59,60]:List Nat).getD i 0
def V7 (e:Pr) (y:Sl) (z:(Sl × Sl)) (i:Nat):Option Value:=([.bool e.b,.bool e.b,.bool false,.bool false,pX e,sv y,.bool true,.bool false,.bool false,.bool false,pG e,.bool (Rp.okG e.L),pG e,.bool (Rp.okG e.L),.bool false,.bool false,.bool false,.agg #[sv e.s,sv e.r],pG e,.agg #[sv z.1,sv z.2],.bool true,.bool false,.bool false]:List Value)[i]?
def U7 (e:Pr) (y:Sl):(Sl × Sl)->(Nat->Bool)->World->Prop:=Nf.Uc 19 [] (fun z v=>Rp.RdE v z.1 e.J.1∧Rp.RdM v z.2 e.J.2)
def I7 (e:Pr) (y:Sl) (v0:World) (B0:Nat->Prop):=Nf.Ki 23 151 D7 (V7 e y) (base7 e y) (Nf.Xc v0 B0 (U7 e y))
theorem V7_ne {e:Pr} {y:Sl} {z z':(Sl × Sl)} {j:Nat} (hj0:j≠19):V7 e y z j=V7 e y z' j:=by
 match j,hj0 with
 | 0,hj0=>exact rfl
 | 1,hj0=>exact rfl
 | 2,hj0=>exact rfl
 | 3,hj0=>exact rfl
 | 4,hj0=>exact rfl
 | 5,hj0=>exact rfl
 | 6,hj0=>exact rfl
 | 7,hj0=>exact rfl
 | 8,hj0=>exact rfl
 | 9,hj0=>exact rfl
 | 10,hj0=>exact rfl
 | 11,hj0=>exact rfl
 | 12,hj0=>exact rfl
 | 13,hj0=>exact rfl
 | 14,hj0=>exact rfl
 | 15,hj0=>exact rfl
 | 16,hj0=>exact rfl
 | 17,hj0=>exact rfl
 | 18,hj0=>exact rfl
 | 19,hj0=>exact absurd rfl hj0
 | 20,hj0=>exact rfl
 | 21,hj0=>exact rfl
 | 22,hj0=>exact rfl
 | _+23,_=>exact rfl
theorem h7_0 (e:Pr) (y:Sl) (v0:World) (B0:Nat->Prop) (hE:Ev e v0) (hy:Rp.Rd v0 y.1 e.M∧y.2.1=e.m2):Nf.Hands Tryz.prog m0 (base 3) k cs (ops 7) (I7 e y v0 B0) 0:=by
 refine Nf.hands_op good (fun i=>rfl) (o:=((ops 7)[0]?).getD default) (by kernel_rfl) (by kernel_rfl) (by decide) (by decide) (by rfl) (x:=fun z=>.bool e.b) (fun z=>rfl) (by decide) (by kernel_rfl) ?_ (fun z L a hk hD=>Nf.wanted_none (by kernel_rfl)) ?_
 ·
  exact fun z L v hu hD=>hu.put (by decide) (fun h=>absurd h (by decide))
 ·
  intro z L a v hk be hu hD t d
  have x7:a.eval (.tmp 7)=.bool e.b:=Nf.eval_tmp (hk.bs (7,.bool e.b) (by simp[base7,base6]))
  exact Nf.ev_move (x:=.tmp 7) (by kernel_rfl) x7
theorem h7_1 (e:Pr) (y:Sl) (v0:World) (B0:Nat->Prop) (hE:Ev e v0) (hy:Rp.Rd v0 y.1 e.M∧y.2.1=e.m2):Nf.Hands Tryz.prog m0 (base 3) k cs (ops 7) (I7 e y v0 B0) 1:=by
 refine Nf.hands_op good (fun i=>rfl) (o:=((ops 7)[1]?).getD default) (by kernel_rfl) (by kernel_rfl) (by decide) (by decide) (by rfl) (x:=fun z=>.bool e.b) (fun z=>rfl) (by decide) (by kernel_rfl) ?_ (fun z L a hk hD=>Nf.wanted_none (by kernel_rfl)) ?_
 ·
  exact fun z L v hu hD=>hu.put (by decide) (fun h=>absurd h (by decide))
 ·
  intro z L a v hk be hu hD t d
  have x10:a.eval (.tmp 10)=.bool e.b:=Nf.eval_tmp (hk.bs (10,.bool e.b) (by simp[base7,base6]))
  exact Nf.ev_move (x:=.tmp 10) (by kernel_rfl) x10
theorem h7_2 (e:Pr) (y:Sl) (v0:World) (B0:Nat->Prop) (hE:Ev e v0) (hy:Rp.Rd v0 y.1 e.M∧y.2.1=e.m2):Nf.Hands Tryz.prog m0 (base 3) k cs (ops 7) (I7 e y v0 B0) 2:=by
 refine Nf.hands_op good (fun i=>rfl) (o:=((ops 7)[2]?).getD default) (by kernel_rfl) (by kernel_rfl) (by decide) (by decide) (by rfl) (x:=fun z=>.bool false) (fun z=>rfl) (by decide) (by kernel_rfl) ?_ (fun z L a hk hD=>Nf.wanted_none (by kernel_rfl)) ?_
 ·
  exact fun z L v hu hD=>hu.put (by decide) (fun h=>absurd h (by decide))
 ·
  intro z L a v hk be hu hD t d
  have x38:a.eval (.tmp 38)=.bool e.b:=Nf.eval_tmp (hk.kn 0 _ (by decide) (Nf.dep_at hD (by kernel_rfl)) rfl)
  have x39:a.eval (.tmp 39)=.bool e.b:=Nf.eval_tmp (hk.kn 1 _ (by decide) (Nf.dep_at hD (by kernel_rfl)) rfl)
  exact by
   have h:=ev_neqB (w:=Nf.on v t d) (x:=.tmp 38) (y:=.tmp 39) (o:=((ops 7)[2]?).getD default) (by kernel_rfl) x38 x39
   simpa using h
theorem h7_3 (e:Pr) (y:Sl) (v0:World) (B0:Nat->Prop) (hE:Ev e v0) (hy:Rp.Rd v0 y.1 e.M∧y.2.1=e.m2):Nf.Hands Tryz.prog m0 (base 3) k cs (ops 7) (I7 e y v0 B0) 3:=by
 refine Nf.hands_op good (fun i=>rfl) (o:=((ops 7)[3]?).getD default) (by kernel_rfl) (by kernel_rfl) (by decide) (by decide) (by rfl) (x:=fun z=>.bool false) (fun z=>rfl) (by decide) (by kernel_rfl) ?_ (fun z L a hk hD=>Nf.wanted_none (by kernel_rfl)) ?_
 ·
  exact fun z L v hu hD=>hu.put (by decide) (fun h=>absurd h (by decide))
 ·
  intro z L a v hk be hu hD t d
  have x40:a.eval (.tmp 40)=.bool false:=Nf.eval_tmp (hk.kn 2 _ (by decide) (Nf.dep_at hD (by kernel_rfl)) rfl)
  exact Nf.ev_move (x:=.tmp 40) (by kernel_rfl) x40
theorem h7_4 (e:Pr) (y:Sl) (v0:World) (B0:Nat->Prop) (hE:Ev e v0) (hy:Rp.Rd v0 y.1 e.M∧y.2.1=e.m2):Nf.Hands Tryz.prog m0 (base 3) k cs (ops 7) (I7 e y v0 B0) 4:=by
 refine Nf.hands_op good (fun i=>rfl) (o:=((ops 7)[4]?).getD default) (by kernel_rfl) (by kernel_rfl) (by decide) (by decide) (by rfl) (x:=fun z=>pX e) (fun z=>rfl) (by decide) (by kernel_rfl) ?_ (fun z L a hk hD=>Nf.wanted_of (j:=3) (by kernel_rfl) (og:=((ops 7)[3]?).getD default) (by kernel_rfl) (d:=41) (by kernel_rfl) (hk.kn 3 (.bool false) (by decide) (Nf.dep_at hD (by kernel_rfl)) rfl)) ?_
 ·
  exact fun z L v hu hD=>hu.put (by decide) (fun h=>absurd h (by decide))
 ·
  intro z L a v hk be hu hD t d
  have x6:a.eval (.tmp 6)=pX e:=Nf.eval_tmp (hk.bs (6,pX e) (by simp[base7,base6]))
  exact Nf.ev_move (x:=.tmp 6) (by kernel_rfl) x6
theorem h7_5 (e:Pr) (y:Sl) (v0:World) (B0:Nat->Prop) (hE:Ev e v0) (hy:Rp.Rd v0 y.1 e.M∧y.2.1=e.m2):Nf.Hands Tryz.prog m0 (base 3) k cs (ops 7) (I7 e y v0 B0) 5:=by
 refine Nf.hands_op good (fun i=>rfl) (o:=((ops 7)[5]?).getD default) (by kernel_rfl) (by kernel_rfl) (by decide) (by decide) (by rfl) (x:=fun z=>sv y) (fun z=>rfl) (by decide) (by kernel_rfl) ?_ (fun z L a hk hD=>Nf.wanted_of (j:=3) (by kernel_rfl) (og:=((ops 7)[3]?).getD default) (by kernel_rfl) (d:=41) (by kernel_rfl) (hk.kn 3 (.bool false) (by decide) (Nf.dep_at hD (by kernel_rfl)) rfl)) ?_
 ·
  exact fun z L v hu hD=>hu.put (by decide) (fun h=>absurd h (by decide))
 ·
  intro z L a v hk be hu hD t d
  have x9:a.eval (.tmp 9)=sv y:=Nf.eval_tmp (hk.bs (9,sv y) (by simp[base7,base6]))
  exact Nf.ev_move (x:=.tmp 9) (by kernel_rfl) x9
theorem h7_6 (e:Pr) (y:Sl) (v0:World) (B0:Nat->Prop) (hE:Ev e v0) (hy:Rp.Rd v0 y.1 e.M∧y.2.1=e.m2):Nf.Hands Tryz.prog m0 (base 3) k cs (ops 7) (I7 e y v0 B0) 6:=by
 refine Nf.hands_plain good quiets (o:=((ops 7)[6]?).getD default) (by kernel_rfl) (by kernel_rfl) (by decide) (by decide) (by rfl) (by decide) (f:=10) (args:=#[.tmp 42,.tmp 43]) (ats:=#[24,24]) (by kernel_rfl) Tryz.func10 (by decide) rfl (by kernel_rfl) (by kernel_rfl) (fun i=>rfl) (x:=fun z=>.bool true) (fun z=>rfl) ?_ (fun z L a hk hD=>Nf.wanted_of (j:=3) (by kernel_rfl) (og:=((ops 7)[3]?).getD default) (by kernel_rfl) (d:=41) (by kernel_rfl) (hk.kn 3 (.bool false) (by decide) (Nf.dep_at hD (by kernel_rfl)) rfl)) ?_
 ·
  exact fun z L v v' hu kb=>(hu.bel (fun q=>⟨q.1.bel kb,q.2.bel kb⟩)).put (by decide) (fun h=>absurd h (by decide))
 ·
  intro z L a v hk be hu hD t d
  have x42:a.eval (.tmp 42)=pX e:=Nf.eval_tmp (hk.kn 4 _ (by decide) (Nf.dep_at hD (by kernel_rfl)) rfl)
  have x43:a.eval (.tmp 43)=sv y:=Nf.eval_tmp (hk.kn 5 _ (by decide) (Nf.dep_at hD (by kernel_rfl)) rfl)
  rw[show ((#[.tmp 42,.tmp 43]:Array Operand).map a.eval)=#[pX e,sv y] from by simp[x42,x43]]
  have E:=(hE.bel be).tape t d
  have C:=Rp.likeGroup_same e.p2 y.1 e.q2 y.2.2 e.M _ E.rx ((hy.1.bel be).tape (t:=t) (d:=d)) E.sM
  rw[E.ml2] at C
  show Calls Tryz.prog 10 #[.slice e.p2 e.m2 e.q2,.slice y.1 y.2.1 y.2.2] _ _
  rw[hy.2]
  exact C
theorem h7_7 (e:Pr) (y:Sl) (v0:World) (B0:Nat->Prop) (hE:Ev e v0) (hy:Rp.Rd v0 y.1 e.M∧y.2.1=e.m2):Nf.Hands Tryz.prog m0 (base 3) k cs (ops 7) (I7 e y v0 B0) 7:=by
 refine Nf.hands_op good (fun i=>rfl) (o:=((ops 7)[7]?).getD default) (by kernel_rfl) (by kernel_rfl) (by decide) (by decide) (by rfl) (x:=fun z=>.bool false) (fun z=>rfl) (by decide) (by kernel_rfl) ?_ (fun z L a hk hD=>Nf.wanted_of (j:=3) (by kernel_rfl) (og:=((ops 7)[3]?).getD default) (by kernel_rfl) (d:=41) (by kernel_rfl) (hk.kn 3 (.bool false) (by decide) (Nf.dep_at hD (by kernel_rfl)) rfl)) ?_
 ·
  exact fun z L v hu hD=>hu.put (by decide) (fun h=>absurd h (by decide))
 ·
  intro z L a v hk be hu hD t d
  have x44:a.eval (.tmp 44)=.bool true:=Nf.eval_tmp (hk.kn 6 _ (by decide) (Nf.dep_at hD (by kernel_rfl)) rfl)
  exact ev_not (T:=4) (x:=.tmp 44) (c:=true) (by kernel_rfl) x44
theorem h7_8 (e:Pr) (y:Sl) (v0:World) (B0:Nat->Prop) (hE:Ev e v0) (hy:Rp.Rd v0 y.1 e.M∧y.2.1=e.m2):Nf.Hands Tryz.prog m0 (base 3) k cs (ops 7) (I7 e y v0 B0) 8:=by
 refine Nf.hands_op good (fun i=>rfl) (o:=((ops 7)[8]?).getD default) (by kernel_rfl) (by kernel_rfl) (by decide) (by decide) (by rfl) (x:=fun z=>.bool false) (fun z=>rfl) (by decide) (by kernel_rfl) ?_ (fun z L a hk hD=>Nf.wanted_none (by kernel_rfl)) ?_
 ·
  exact fun z L v hu hD=>hu.put (by decide) (fun h=>absurd h (by decide))
 ·
  intro z L a v hk be hu hD t d
  have x41:a.eval (.tmp 41)=.bool false:=Nf.eval_tmp (hk.kn 3 _ (by decide) (Nf.dep_at hD (by kernel_rfl)) rfl)
  have x45:a.eval (.tmp 45)=.bool false:=Nf.eval_tmp (hk.kn 7 _ (by decide) (Nf.dep_at hD (by kernel_rfl)) rfl)
  exact Nf.ev_pick (x:=.tmp 41) (y:=.const (.bool true)) (z:=.tmp 45) (t:=false) (by kernel_rfl) x41 x45
theorem h7_9 (e:Pr) (y:Sl) (v0:World) (B0:Nat->Prop) (hE:Ev e v0) (hy:Rp.Rd v0 y.1 e.M∧y.2.1=e.m2):Nf.Hands Tryz.prog m0 (base 3) k cs (ops 7) (I7 e y v0 B0) 9:=by
 refine Nf.hands_op good (fun i=>rfl) (o:=((ops 7)[9]?).getD default) (by kernel_rfl) (by kernel_rfl) (by decide) (by decide) (by rfl) (x:=fun z=>.bool false) (fun z=>rfl) (by decide) (by kernel_rfl) ?_ (fun z L a hk hD=>Nf.wanted_none (by kernel_rfl)) ?_
 ·
  exact fun z L v hu hD=>hu.put (by decide) (fun h=>absurd h (by decide))
 ·
  intro z L a v hk be hu hD t d
  have x46:a.eval (.tmp 46)=.bool false:=Nf.eval_tmp (hk.kn 8 _ (by decide) (Nf.dep_at hD (by kernel_rfl)) rfl)
  exact Nf.ev_move (x:=.tmp 46) (by kernel_rfl) x46
theorem h7_10 (e:Pr) (y:Sl) (v0:World) (B0:Nat->Prop) (hE:Ev e v0) (hy:Rp.Rd v0 y.1 e.M∧y.2.1=e.m2):Nf.Hands Tryz.prog m0 (base 3) k cs (ops 7) (I7 e y v0 B0) 10:=by
 refine Nf.hands_op good (fun i=>rfl) (o:=((ops 7)[10]?).getD default) (by kernel_rfl) (by kernel_rfl) (by decide) (by decide) (by rfl) (x:=fun z=>pG e) (fun z=>rfl) (by decide) (by kernel_rfl) ?_ (fun z L a hk hD=>Nf.wanted_of (j:=9) (by kernel_rfl) (og:=((ops 7)[9]?).getD default) (by kernel_rfl) (d:=47) (by kernel_rfl) (hk.kn 9 (.bool false) (by decide) (Nf.dep_at hD (by kernel_rfl)) rfl)) ?_
 ·
  exact fun z L v hu hD=>hu.put (by decide) (fun h=>absurd h (by decide))
 ·
  intro z L a v hk be hu hD t d
  have x3:a.eval (.tmp 3)=pG e:=Nf.eval_tmp (hk.bs (3,pG e) (by simp[base7,base6]))
  exact Nf.ev_move (x:=.tmp 3) (by kernel_rfl) x3
theorem h7_11 (e:Pr) (y:Sl) (v0:World) (B0:Nat->Prop) (hE:Ev e v0) (hy:Rp.Rd v0 y.1 e.M∧y.2.1=e.m2):Nf.Hands Tryz.prog m0 (base 3) k cs (ops 7) (I7 e y v0 B0) 11:=by
 refine Nf.hands_plain good quiets (o:=((ops 7)[11]?).getD default) (by kernel_rfl) (by kernel_rfl) (by decide) (by decide) (by rfl) (by decide) (f:=11) (args:=#[.tmp 48]) (ats:=#[24]) (by kernel_rfl) Tryz.func11 (by decide) rfl (by kernel_rfl) (by kernel_rfl) (fun i=>rfl) (x:=fun z=>.bool (Rp.okG e.L)) (fun z=>rfl) ?_ (fun z L a hk hD=>Nf.wanted_of (j:=9) (by kernel_rfl) (og:=((ops 7)[9]?).getD default) (by kernel_rfl) (d:=47) (by kernel_rfl) (hk.kn 9 (.bool false) (by decide) (Nf.dep_at hD (by kernel_rfl)) rfl)) ?_
 ·
  exact fun z L v v' hu kb=>(hu.bel (fun q=>⟨q.1.bel kb,q.2.bel kb⟩)).put (by decide) (fun h=>absurd h (by decide))
 ·
  intro z L a v hk be hu hD t d
  have x48:a.eval (.tmp 48)=pG e:=Nf.eval_tmp (hk.kn 10 _ (by decide) (Nf.dep_at hD (by kernel_rfl)) rfl)
  rw[show ((#[.tmp 48]:Array Operand).map a.eval)=#[pG e] from by simp[x48]]
  have E:=(hE.bel be).tape t d
  have C:=Rp.impl_GroupOk e.p e.q e.L _ E.rg E.sm.s E.sm.l E.sm.lb
  rw[E.ml] at C
  exact C
theorem h7_12 (e:Pr) (y:Sl) (v0:World) (B0:Nat->Prop) (hE:Ev e v0) (hy:Rp.Rd v0 y.1 e.M∧y.2.1=e.m2):Nf.Hands Tryz.prog m0 (base 3) k cs (ops 7) (I7 e y v0 B0) 12:=by
 refine Nf.hands_op good (fun i=>rfl) (o:=((ops 7)[12]?).getD default) (by kernel_rfl) (by kernel_rfl) (by decide) (by decide) (by rfl) (x:=fun z=>pG e) (fun z=>rfl) (by decide) (by kernel_rfl) ?_ (fun z L a hk hD=>Nf.wanted_of (j:=9) (by kernel_rfl) (og:=((ops 7)[9]?).getD default) (by kernel_rfl) (d:=47) (by kernel_rfl) (hk.kn 9 (.bool false) (by decide) (Nf.dep_at hD (by kernel_rfl)) rfl)) ?_
 ·
  exact fun z L v hu hD=>hu.put (by decide) (fun h=>absurd h (by decide))
 ·
  intro z L a v hk be hu hD t d
  have x3:a.eval (.tmp 3)=pG e:=Nf.eval_tmp (hk.bs (3,pG e) (by simp[base7,base6]))
  exact Nf.ev_move (x:=.tmp 3) (by kernel_rfl) x3
theorem h7_13 (e:Pr) (y:Sl) (v0:World) (B0:Nat->Prop) (hE:Ev e v0) (hy:Rp.Rd v0 y.1 e.M∧y.2.1=e.m2):Nf.Hands Tryz.prog m0 (base 3) k cs (ops 7) (I7 e y v0 B0) 13:=by
 refine Nf.hands_plain good quiets (o:=((ops 7)[13]?).getD default) (by kernel_rfl) (by kernel_rfl) (by decide) (by decide) (by rfl) (by decide) (f:=12) (args:=#[.tmp 50]) (ats:=#[24]) (by kernel_rfl) Tryz.func12 (by decide) rfl (by kernel_rfl) (by kernel_rfl) (fun i=>rfl) (x:=fun z=>.bool (Rp.okG e.L)) (fun z=>rfl) ?_ (fun z L a hk hD=>Nf.wanted_of (j:=9) (by kernel_rfl) (og:=((ops 7)[9]?).getD default) (by kernel_rfl) (d:=47) (by kernel_rfl) (hk.kn 9 (.bool false) (by decide) (Nf.dep_at hD (by kernel_rfl)) rfl)) ?_
 ·
  exact fun z L v v' hu kb=>(hu.bel (fun q=>⟨q.1.bel kb,q.2.bel kb⟩)).put (by decide) (fun h=>absurd h (by decide))
 ·
  intro z L a v hk be hu hD t d
  have x50:a.eval (.tmp 50)=pG e:=Nf.eval_tmp (hk.kn 12 _ (by decide) (Nf.dep_at hD (by kernel_rfl)) rfl)
  rw[show ((#[.tmp 50]:Array Operand).map a.eval)=#[pG e] from by simp[x50]]
  have E:=(hE.bel be).tape t d
  have C:=Rp.spec_GroupOk e.p e.q e.L _ E.rg E.sm.s E.sm.l E.sm.lb
  rw[E.ml] at C
  exact C
theorem h7_14 (e:Pr) (y:Sl) (v0:World) (B0:Nat->Prop) (hE:Ev e v0) (hy:Rp.Rd v0 y.1 e.M∧y.2.1=e.m2):Nf.Hands Tryz.prog m0 (base 3) k cs (ops 7) (I7 e y v0 B0) 14:=by
 refine Nf.hands_op good (fun i=>rfl) (o:=((ops 7)[14]?).getD default) (by kernel_rfl) (by kernel_rfl) (by decide) (by decide) (by rfl) (x:=fun z=>.bool false) (fun z=>rfl) (by decide) (by kernel_rfl) ?_ (fun z L a hk hD=>Nf.wanted_of (j:=9) (by kernel_rfl) (og:=((ops 7)[9]?).getD default) (by kernel_rfl) (d:=47) (by kernel_rfl) (hk.kn 9 (.bool false) (by decide) (Nf.dep_at hD (by kernel_rfl)) rfl)) ?_
 ·
  exact fun z L v hu hD=>hu.put (by decide) (fun h=>absurd h (by decide))
 ·
  intro z L a v hk be hu hD t d
  have x49:a.eval (.tmp 49)=.bool (Rp.okG e.L):=Nf.eval_tmp (hk.kn 11 _ (by decide) (Nf.dep_at hD (by kernel_rfl)) rfl)
  have x51:a.eval (.tmp 51)=.bool (Rp.okG e.L):=Nf.eval_tmp (hk.kn 13 _ (by decide) (Nf.dep_at hD (by kernel_rfl)) rfl)
  exact by
   have h:=ev_neqB (w:=Nf.on v t d) (x:=.tmp 49) (y:=.tmp 51) (o:=((ops 7)[14]?).getD default) (by kernel_rfl) x49 x51
   simpa using h
theorem h7_15 (e:Pr) (y:Sl) (v0:World) (B0:Nat->Prop) (hE:Ev e v0) (hy:Rp.Rd v0 y.1 e.M∧y.2.1=e.m2):Nf.Hands Tryz.prog m0 (base 3) k cs (ops 7) (I7 e y v0 B0) 15:=by
 refine Nf.hands_op good (fun i=>rfl) (o:=((ops 7)[15]?).getD default) (by kernel_rfl) (by kernel_rfl) (by decide) (by decide) (by rfl) (x:=fun z=>.bool false) (fun z=>rfl) (by decide) (by kernel_rfl) ?_ (fun z L a hk hD=>Nf.wanted_none (by kernel_rfl)) ?_
 ·
  exact fun z L v hu hD=>hu.put (by decide) (fun h=>absurd h (by decide))
 ·
  intro z L a v hk be hu hD t d
  have x47:a.eval (.tmp 47)=.bool false:=Nf.eval_tmp (hk.kn 9 _ (by decide) (Nf.dep_at hD (by kernel_rfl)) rfl)
  have x52:a.eval (.tmp 52)=.bool false:=Nf.eval_tmp (hk.kn 14 _ (by decide) (Nf.dep_at hD (by kernel_rfl)) rfl)
  exact Nf.ev_pick (x:=.tmp 47) (y:=.const (.bool true)) (z:=.tmp 52) (t:=false) (by kernel_rfl) x47 x52
theorem h7_16 (e:Pr) (y:Sl) (v0:World) (B0:Nat->Prop) (hE:Ev e v0) (hy:Rp.Rd v0 y.1 e.M∧y.2.1=e.m2):Nf.Hands Tryz.prog m0 (base 3) k cs (ops 7) (I7 e y v0 B0) 16:=by
 refine Nf.hands_op good (fun i=>rfl) (o:=((ops 7)[16]?).getD default) (by kernel_rfl) (by kernel_rfl) (by decide) (by decide) (by rfl) (x:=fun z=>.bool false) (fun z=>rfl) (by decide) (by kernel_rfl) ?_ (fun z L a hk hD=>Nf.wanted_none (by kernel_rfl)) ?_
 ·
  exact fun z L v hu hD=>hu.put (by decide) (fun h=>absurd h (by decide))
 ·
  intro z L a v hk be hu hD t d
  have x53:a.eval (.tmp 53)=.bool false:=Nf.eval_tmp (hk.kn 15 _ (by decide) (Nf.dep_at hD (by kernel_rfl)) rfl)
  exact Nf.ev_move (x:=.tmp 53) (by kernel_rfl) x53
theorem h7_17 (e:Pr) (y:Sl) (v0:World) (B0:Nat->Prop) (hE:Ev e v0) (hy:Rp.Rd v0 y.1 e.M∧y.2.1=e.m2):Nf.Hands Tryz.prog m0 (base 3) k cs (ops 7) (I7 e y v0 B0) 17:=by
 refine Nf.hands_op good (fun i=>rfl) (o:=((ops 7)[17]?).getD default) (by kernel_rfl) (by kernel_rfl) (by decide) (by decide) (by rfl) (x:=fun z=>.agg #[sv e.s,sv e.r]) (fun z=>rfl) (by decide) (by kernel_rfl) ?_ (fun z L a hk hD=>Nf.wanted_of (j:=16) (by kernel_rfl) (og:=((ops 7)[16]?).getD default) (by kernel_rfl) (d:=54) (by kernel_rfl) (hk.kn 16 (.bool false) (by decide) (Nf.dep_at hD (by kernel_rfl)) rfl)) ?_
 ·
  exact fun z L v hu hD=>hu.put (by decide) (fun h=>absurd h (by decide))
 ·
  intro z L a v hk be hu hD t d
  have x8:a.eval (.tmp 8)=.pointer (some ⟨e.b8,0,none⟩):=Nf.eval_tmp (hk.bs (8,.pointer (some ⟨e.b8,0,none⟩)) (by simp[base7,base6]))
  exact Go.Proofs.YtkeapmmochpcfaaGreat.Sd.run_load (x:=.tmp 8) (q:=0) (u:=sv e.s) (v:=sv e.r) (by kernel_rfl) x8 (((hE.bel be).tape t d).bx.c 0 (v:=sv e.s) rfl) (((hE.bel be).tape t d).bx.c 1 (v:=sv e.r) rfl)
theorem h7_18 (e:Pr) (y:Sl) (v0:World) (B0:Nat->Prop) (hE:Ev e v0) (hy:Rp.Rd v0 y.1 e.M∧y.2.1=e.m2):Nf.Hands Tryz.prog m0 (base 3) k cs (ops 7) (I7 e y v0 B0) 18:=by
 refine Nf.hands_op good (fun i=>rfl) (o:=((ops 7)[18]?).getD default) (by kernel_rfl) (by kernel_rfl) (by decide) (by decide) (by rfl) (x:=fun z=>pG e) (fun z=>rfl) (by decide) (by kernel_rfl) ?_ (fun z L a hk hD=>Nf.wanted_of (j:=16) (by kernel_rfl) (og:=((ops 7)[16]?).getD default) (by kernel_rfl) (d:=54) (by kernel_rfl) (hk.kn 16 (.bool false) (by decide) (Nf.dep_at hD (by kernel_rfl)) rfl)) ?_
 ·
  exact fun z L v hu hD=>hu.put (by decide) (fun h=>absurd h (by decide))
 ·
  intro z L a v hk be hu hD t d
  have x3:a.eval (.tmp 3)=pG e:=Nf.eval_tmp (hk.bs (3,pG e) (by simp[base7,base6]))
  exact Nf.ev_move (x:=.tmp 3) (by kernel_rfl) x3
theorem h7_19 (e:Pr) (y:Sl) (v0:World) (B0:Nat->Prop) (hE:Ev e v0) (hy:Rp.Rd v0 y.1 e.M∧y.2.1=e.m2):Nf.Hands Tryz.prog m0 (base 3) k cs (ops 7) (I7 e y v0 B0) 19:=by
 refine Nf.hands_call good quiets (o:=((ops 7)[19]?).getD default) (by kernel_rfl) (by kernel_rfl) (by decide) (by decide) (by rfl) (by decide) (f:=14) (args:=#[.tmp 56]) (ats:=#[24]) (by kernel_rfl) Tryz.func14 (by decide) rfl (by kernel_rfl) (by kernel_rfl) (fun i=>rfl) (R:=fun z v x w=>∃ y:Sl × Sl,x=.agg #[sv y.1,sv y.2]∧(Rp.RdE w y.1 e.J.1∧Rp.RdM w y.2 e.J.2)∧Bel v.heap.size v w) ?_ ?_ (fun z L a hk hD=>Nf.wanted_of (j:=16) (by kernel_rfl) (og:=((ops 7)[16]?).getD default) (by kernel_rfl) (d:=54) (by kernel_rfl) (hk.kn 16 (.bool false) (by decide) (Nf.dep_at hD (by kernel_rfl)) rfl)) ?_
 ·
  exact fun z v x w t d ⟨y,h1,h2,h3⟩=>⟨y,h1,⟨h2.1.tape,h2.2.tape⟩,h3.on v.tape t v.drawn d⟩
 ·
  rintro z L v B x v' ⟨be,bb,hu⟩ hD hL ⟨y',rfl,hq,kb⟩
  refine⟨y',rfl,fun j u hj hv=>?_,be.trans (kb.mono be.size),bb,Nf.Uc.brought hq⟩
  by_cases hj19:j=19
  ·
   subst hj19;rw[hL] at hj;cases hj
  ·
   rw[<- hv]
   exact V7_ne hj19
 ·
  rintro z L a v B hk ⟨be,_,hu⟩ hD t d
  have x56:a.eval (.tmp 56)=pG e:=Nf.eval_tmp (hk.kn 18 _ (by decide) (Nf.dep_at hD (by kernel_rfl)) rfl)
  rw[show ((#[.tmp 56]:Array Operand).map a.eval)=#[pG e] from by simp[x56]]
  have E:=(hE.bel be).tape t d
  have C:=Rp.spec_Whole e.p e.q e.L _ E.rg E.sm.s E.sm.l E.sm.lb
  rw[E.ml] at C
  refine C.mono (fun en w' hz=>?_)
  obtain⟨J,ht,hw⟩:=hz.out
  obtain rfl:=hw.unique E.hJ
  obtain⟨s,r,rfl,oE,oM,kk⟩:=ht.out
  exact⟨_,rfl,(s,r),rfl,⟨Rp.rdE_of oE,Rp.rdM_of oM⟩,Nf.from_below kk⟩
theorem h7_20 (e:Pr) (y:Sl) (v0:World) (B0:Nat->Prop) (hE:Ev e v0) (hy:Rp.Rd v0 y.1 e.M∧y.2.1=e.m2):Nf.Hands Tryz.prog m0 (base 3) k cs (ops 7) (I7 e y v0 B0) 20:=by
 refine Nf.hands_plain good quiets (o:=((ops 7)[20]?).getD default) (by kernel_rfl) (by kernel_rfl) (by decide) (by decide) (by rfl) (by decide) (f:=13) (args:=#[.tmp 55,.tmp 57]) (ats:=#[32,32]) (by kernel_rfl) Tryz.func13 (by decide) rfl (by kernel_rfl) (by kernel_rfl) (fun i=>rfl) (x:=fun z=>.bool true) (fun z=>rfl) ?_ (fun z L a hk hD=>Nf.wanted_of (j:=16) (by kernel_rfl) (og:=((ops 7)[16]?).getD default) (by kernel_rfl) (d:=54) (by kernel_rfl) (hk.kn 16 (.bool false) (by decide) (Nf.dep_at hD (by kernel_rfl)) rfl)) ?_
 ·
  exact fun z L v v' hu kb=>(hu.bel (fun q=>⟨q.1.bel kb,q.2.bel kb⟩)).put (by decide) (fun h=>absurd h (by decide))
 ·
  intro z L a v hk be hu hD t d
  have x55:a.eval (.tmp 55)=.agg #[sv e.s,sv e.r]:=Nf.eval_tmp (hk.kn 17 _ (by decide) (Nf.dep_at hD (by kernel_rfl)) rfl)
  have x57:a.eval (.tmp 57)=.agg #[sv z.1,sv z.2]:=Nf.eval_tmp (hk.kn 19 _ (by decide) (Nf.dep_at hD (by kernel_rfl)) rfl)
  rw[show ((#[.tmp 55,.tmp 57]:Array Operand).map a.eval)=#[.agg #[sv e.s,sv e.r],.agg #[sv z.1,sv z.2]] from by simp[x55,x57]]
  have E:=(hE.bel be).tape t d
  have Q:=hu.1 (Nf.dep_at (j:=19) hD (by kernel_rfl))
  exact Rp.likeReplica_same e.s e.r z.1 z.2 e.J _ E.hE E.hM Q.1.tape Q.2.tape (whl_small E.hJ)
theorem h7_21 (e:Pr) (y:Sl) (v0:World) (B0:Nat->Prop) (hE:Ev e v0) (hy:Rp.Rd v0 y.1 e.M∧y.2.1=e.m2):Nf.Hands Tryz.prog m0 (base 3) k cs (ops 7) (I7 e y v0 B0) 21:=by
 refine Nf.hands_op good (fun i=>rfl) (o:=((ops 7)[21]?).getD default) (by kernel_rfl) (by kernel_rfl) (by decide) (by decide) (by rfl) (x:=fun z=>.bool false) (fun z=>rfl) (by decide) (by kernel_rfl) ?_ (fun z L a hk hD=>Nf.wanted_of (j:=16) (by kernel_rfl) (og:=((ops 7)[16]?).getD default) (by kernel_rfl) (d:=54) (by kernel_rfl) (hk.kn 16 (.bool false) (by decide) (Nf.dep_at hD (by kernel_rfl)) rfl)) ?_
 ·
  exact fun z L v hu hD=>hu.put (by decide) (fun h=>absurd h (by decide))
 ·
  intro z L a v hk be hu hD t d
  have x58:a.eval (.tmp 58)=.bool true:=Nf.eval_tmp (hk.kn 20 _ (by decide) (Nf.dep_at hD (by kernel_rfl)) rfl)
  exact ev_not (T:=4) (x:=.tmp 58) (c:=true) (by kernel_rfl) x58
theorem h7_22 (e:Pr) (y:Sl) (v0:World) (B0:Nat->Prop) (hE:Ev e v0) (hy:Rp.Rd v0 y.1 e.M∧y.2.1=e.m2):Nf.Hands Tryz.prog m0 (base 3) k cs (ops 7) (I7 e y v0 B0) 22:=by
 refine Nf.hands_op good (fun i=>rfl) (o:=((ops 7)[22]?).getD default) (by kernel_rfl) (by kernel_rfl) (by decide) (by decide) (by rfl) (x:=fun z=>.bool false) (fun z=>rfl) (by decide) (by kernel_rfl) ?_ (fun z L a hk hD=>Nf.wanted_none (by kernel_rfl)) ?_
 ·
  exact fun z L v hu hD=>hu.put (by decide) (fun h=>absurd h (by decide))
 ·
  intro z L a v hk be hu hD t d
  have x54:a.eval (.tmp 54)=.bool false:=Nf.eval_tmp (hk.kn 16 _ (by decide) (Nf.dep_at hD (by kernel_rfl)) rfl)
  have x59:a.eval (.tmp 59)=.bool false:=Nf.eval_tmp (hk.kn 21 _ (by decide) (Nf.dep_at hD (by kernel_rfl)) rfl)
  exact Nf.ev_pick (x:=.tmp 54) (y:=.const (.bool true)) (z:=.tmp 59) (t:=false) (by kernel_rfl) x54 x59
theorem hands7 (e:Pr) (y:Sl) (v0:World) (B0:Nat->Prop) (hE:Ev e v0) (hy:Rp.Rd v0 y.1 e.M∧y.2.1=e.m2):∀ i,i<(ops 7).size->Nf.Hands Tryz.prog m0 (base 3) k cs (ops 7) (I7 e y v0 B0) i:=by
 intro i hi
 have hi':i<23:=by
  have e:(ops 7).size=23:=by kernel_rfl
  omega
 clear hi
 match i,hi' with
 | 0,_=>exact h7_0 e y v0 B0 hE hy
 | 1,_=>exact h7_1 e y v0 B0 hE hy
 | 2,_=>exact h7_2 e y v0 B0 hE hy
 | 3,_=>exact h7_3 e y v0 B0 hE hy
 | 4,_=>exact h7_4 e y v0 B0 hE hy
 | 5,_=>exact h7_5 e y v0 B0 hE hy
 | 6,_=>exact h7_6 e y v0 B0 hE hy
 | 7,_=>exact h7_7 e y v0 B0 hE hy
 | 8,_=>exact h7_8 e y v0 B0 hE hy
 | 9,_=>exact h7_9 e y v0 B0 hE hy
 | 10,_=>exact h7_10 e y v0 B0 hE hy
 | 11,_=>exact h7_11 e y v0 B0 hE hy
 | 12,_=>exact h7_12 e y v0 B0 hE hy
 | 13,_=>exact h7_13 e y v0 B0 hE hy
 | 14,_=>exact h7_14 e y v0 B0 hE hy
 | 15,_=>exact h7_15 e y v0 B0 hE hy
 | 16,_=>exact h7_16 e y v0 B0 hE hy
 | 17,_=>exact h7_17 e y v0 B0 hE hy
 | 18,_=>exact h7_18 e y v0 B0 hE hy
 | 19,_=>exact h7_19 e y v0 B0 hE hy
 | 20,_=>exact h7_20 e y v0 B0 hE hy
 | 21,_=>exact h7_21 e y v0 B0 hE hy
 | 22,_=>exact h7_22 e y v0 B0 hE hy
 | _+23,h=>exact absurd h (by omega)
end Go.Proofs.YtkeapmmochpcfaaGreat.Gg
