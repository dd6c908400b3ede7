/- FnGossip's law: from its call to its end. -/
import Derived.Test.YtkeapmmochpcfaaGreatBun30
set_option maxRecDepth 100000
set_option maxHeartbeats 32000000
set_option linter.unusedVariables false
set_option linter.unusedSimpArgs false
namespace Go.Proofs.YtkeapmmochpcfaaGreat.Gg
open Go Go.Conc Go.ChangeShapes Go.WideShapes Go.ChangeAt Go.RowKit
open Nf (Stand Bel Pz cutN restN EndQ HasEnd on)
open Bo (Box)
open Vv (Sl sv hidIt)
open Sd (K good quiets whole_stand)
theorem sm_nil:Rp.Sm []:=⟨by decide,fun i hi=>absurd hi (Nat.not_lt_zero _),fun i hi=>absurd hi (Nat.not_lt_zero _)⟩
theorem init3:Tryz.prog.inits.idxOf? 3=none:=by kernel_rfl
theorem code3a:Nf.codeB K Tryz.prog 3 (cutN 4 body3)=true:=by kernel_rfl
theorem code3d:Nf.codeB K Tryz.prog 3 (cutN 1 (restN 8 body3))=true:=by kernel_rfl
theorem same_bel (n:Nat) (W:World) (t:Nf.Tp) (d:Nat):Bel n W (on W t d):=⟨rfl,rfl,Nat.le_refl _,fun _ _=>rfl⟩
theorem code_tape {B:Nat} {W:World} {a:Option Addr} {len:Nat} (h:Dr.Code B W a len) (t:Nf.Tp) (d:Nat):Dr.Code B (on W t d) a len:=⟨h.cell⟩
theorem enter3 (a0:Option Addr) (len0 cap0:Nat):Frame.enter Tryz.prog 3 #[.slice a0 len0 cap0] .normal=(base 3).at ⟨#[.slice a0 len0 cap0,undef,undef,undef,undef,undef,undef,undef,undef,undef,undef,undef,undef,undef,undef,undef,undef,undef,undef,undef,undef,undef,undef,undef,undef,undef,undef,undef,undef,undef,undef,undef,undef,undef,undef,undef,undef,undef,undef,undef,undef,undef,undef,undef,undef,undef,undef,undef,undef,undef,undef,undef,undef,undef,undef,undef,undef,undef,undef,undef,undef,undef,undef,undef,undef,undef,undef,undef,undef,undef,undef,undef,undef,undef,undef,undef,undef,undef,undef,undef,undef,undef,undef,undef,undef,undef,undef,undef,undef,undef,undef,undef,undef,undef,undef,undef,undef,undef,undef,undef,undef,undef,undef,undef,undef,undef,undef,undef,undef,undef,undef,undef,undef,undef,undef,undef,undef,undef,undef,undef,undef,undef,undef,undef,undef,undef,undef,undef,undef,undef,undef,undef,undef,undef,undef,undef,undef,undef,undef,undef,undef,undef,undef,undef,undef,undef,undef,undef,undef,undef,undef],[]⟩ [.code body3]:=by
 rw[enter_at (fn:=Tryz.f3) (c:=body3) _ Tryz.func3 rfl]
 simp only[Tryz.ntmps3,List.size_toArray,List.length_cons,List.length_nil,Nat.reduceAdd,Nat.reduceSub,Array.replicate_succ,Array.replicate_zero,List.push_toArray,List.append_toArray,List.nil_append,List.cons_append]
theorem arr_of {T:Array Value} {N:Nat} (h:T.size=N):T=((List.range N).map (fun i=>T.getD i undef)).toArray:=by
 apply Array.ext
 ·
  simp[h]
 ·
  intro i h1 h2
  simp[Array.getD,h1]
theorem lay {T:Array Value} {e:Pr} (h:Ks (base6 e) ⟨T,[]⟩):T=#[.slice e.a0 e.len0 e.cap0,T.getD 1 undef,.bool false,pG e,.int .i64 e.f,.int .i64 e.t,pX e,.bool e.b,.pointer (some ⟨e.b8,0,none⟩),T.getD 9 undef,T.getD 10 undef,T.getD 11 undef,T.getD 12 undef,T.getD 13 undef,T.getD 14 undef,T.getD 15 undef,T.getD 16 undef,T.getD 17 undef,T.getD 18 undef,T.getD 19 undef,T.getD 20 undef,T.getD 21 undef,T.getD 22 undef,T.getD 23 undef,T.getD 24 undef,T.getD 25 undef,T.getD 26 undef,T.getD 27 undef,T.getD 28 undef,T.getD 29 undef,T.getD 30 undef,T.getD 31 undef,T.getD 32 undef,T.getD 33 undef,T.getD 34 undef,T.getD 35 undef,T.getD 36 undef,T.getD 37 undef,T.getD 38 undef,T.getD 39 undef,T.getD 40 undef,T.getD 41 undef,T.getD 42 undef,T.getD 43 undef,T.getD 44 undef,T.getD 45 undef,T.getD 46 undef,T.getD 47 undef,T.getD 48 undef,T.getD 49 undef,T.getD 50 undef,T.getD 51 undef,T.getD 52 undef,T.getD 53 undef,T.getD 54 undef,T.getD 55 undef,T.getD 56 undef,T.getD 57 undef,T.getD 58 undef,T.getD 59 undef,T.getD 60 undef,T.getD 61 undef,T.getD 62 undef,T.getD 63 undef,T.getD 64 undef,T.getD 65 undef,T.getD 66 undef,T.getD 67 undef,T.getD 68 undef,T.getD 69 undef,T.getD 70 undef,T.getD 71 undef,T.getD 72 undef,T.getD 73 undef,T.getD 74 undef,T.getD 75 undef,T.getD 76 undef,T.getD 77 undef,T.getD 78 undef,T.getD 79 undef,T.getD 80 undef,T.getD 81 undef,T.getD 82 undef,T.getD 83 undef,T.getD 84 undef,T.getD 85 undef,T.getD 86 undef,T.getD 87 undef,T.getD 88 undef,T.getD 89 undef,T.getD 90 undef,T.getD 91 undef,T.getD 92 undef,T.getD 93 undef,T.getD 94 undef,T.getD 95 undef,T.getD 96 undef,T.getD 97 undef,T.getD 98 undef,T.getD 99 undef,T.getD 100 undef,T.getD 101 undef,T.getD 102 undef,T.getD 103 undef,T.getD 104 undef,T.getD 105 undef,T.getD 106 undef,T.getD 107 undef,T.getD 108 undef,T.getD 109 undef,T.getD 110 undef,T.getD 111 undef,T.getD 112 undef,T.getD 113 undef,T.getD 114 undef,T.getD 115 undef,T.getD 116 undef,T.getD 117 undef,T.getD 118 undef,T.getD 119 undef,T.getD 120 undef,T.getD 121 undef,T.getD 122 undef,T.getD 123 undef,T.getD 124 undef,T.getD 125 undef,T.getD 126 undef,T.getD 127 undef,T.getD 128 undef,T.getD 129 undef,T.getD 130 undef,T.getD 131 undef,T.getD 132 undef,T.getD 133 undef,T.getD 134 undef,T.getD 135 undef,T.getD 136 undef,T.getD 137 undef,T.getD 138 undef,T.getD 139 undef,T.getD 140 undef,T.getD 141 undef,T.getD 142 undef,T.getD 143 undef,T.getD 144 undef,T.getD 145 undef,T.getD 146 undef,T.getD 147 undef,T.getD 148 undef,T.getD 149 undef,T.getD 150 undef]:=by
 have g:=fun (p:Nat × Value) (hp:p∈base6 e)=>(show T.getD p.1 undef=p.2 by rw[Array.getD_eq_getD_getElem?,h.bs p hp];rfl)
 have g0:=g (0,.slice e.a0 e.len0 e.cap0) (by simp[base6])
 have g2:=g (2,.bool false) (by simp[base6])
 have g3:=g (3,pG e) (by simp[base6])
 have g4:=g (4,.int .i64 e.f) (by simp[base6])
 have g5:=g (5,.int .i64 e.t) (by simp[base6])
 have g6:=g (6,pX e) (by simp[base6])
 have g7:=g (7,.bool e.b) (by simp[base6])
 have g8:=g (8,.pointer (some ⟨e.b8,0,none⟩)) (by simp[base6])
 dsimp only at g0 g2 g3 g4 g5 g6 g7 g8
 have hT:=arr_of h.sz
 rw[<- g0,<- g2,<- g3,<- g4,<- g5,<- g6,<- g7,<- g8]
 exact hT
theorem step5 [Go.ConcR.Payload] {m0:Machine} {k:List Item} {B:Nat->Prop} {v:World} {a:Act} {a0 p p2:Option Addr} {len0 cap0 m q m2 q2 lo hi lo2 hi2:Nat} {f t:Int} {b:Bool} {L M:List Rp.Rep} {W0:World} (hG:G1 W0 p m q f t p2 m2 q2 b lo hi lo2 hi2 L M v)
  (hs:Ks [(0,.slice a0 len0 cap0),(2,.bool false),(3,.slice p m q),(4,.int .i64 f),(5,.int .i64 t),(6,.slice p2 m2 q2),(7,.bool b)] a)
  (h:Stand Tryz.prog m0 B (G ((base 3).at a (.code (.region 5 (ops 5) false)::k)) []) v) :
  ∃ (e:Pr) (a':Act) (v':World) (B':Nat->Prop),Stand Tryz.prog m0 B' (G ((base 3).at a' k) []) v'∧Bel v.heap.size v v'∧(∀ b,B' b->B b∨v.heap.size<=b)∧Ks (base6 e) a'∧Ev e v':=by
 have h2:=Nf.stand_region h
 rw[show (ops 5).size=4 from by kernel_rfl] at h2
 simp only[List.range,List.range.loop] at h2
 have x3:a.eval (.tmp 3)=.slice p m q:=Nf.eval_tmp (hs.bs (3,_) (by simp))
 have h3:=Nf.stand_oper good (fun i=>rfl) (o:=((ops 5)[0]?).getD default) (by kernel_rfl) (Nf.wanted_none (by kernel_rfl)) (by decide) (by kernel_rfl) (v':=v) (x:=.value (.slice p m q)) (.inl rfl) (fun t d=>Nf.ev_move (x:=.tmp 3) (by kernel_rfl) x3) h2
 have d0:(((ops 5)[0]?).getD default).dst=some 29:=by kernel_rfl
 rw[d0] at h3
 have k1:=hs.put (d:=29) (x:=.slice p m q) (by rfl)
 have x29:(a.put (some 29) (.slice p m q)).eval (.tmp 29)=.slice p m q:=Nf.eval_tmp (Nf.put_same (by rw[hs.sz];decide))
 generalize a.put (some 29) (.slice p m q)=a1 at h3 k1 x29
 have h4:=Nf.stand_enter (o:=((ops 5)[1]?).getD default) (f:=8) (args:=#[.tmp 29]) (ats:=#[24]) (by kernel_rfl) (Nf.wanted_none (by kernel_rfl)) (by decide) (by kernel_rfl) Tryz.func8 (by decide) rfl h3
 rw[show ((#[.tmp 29]:Array Operand).map a1.eval)=#[.slice p m q] from by simp[x29],<- hG.ml] at h4
 obtain⟨s,r,J,v1,B1,h5,hW,oE,oM,kb,hB⟩:=whole_stand p q L (by have:=hG.om;rw[<- hG.ml] at this;exact this.rd) hG.sm.s hG.sm.l hG.sm.lb h4
 have d1:(((ops 5)[1]?).getD default).dst=some 30:=by kernel_rfl
 rw[Nf.finish_mid (o:=((ops 5)[1]?).getD default) (by kernel_rfl),d1] at h5
 have k2:=k1.put (d:=30) (x:=.agg #[sv s,sv r]) (by rfl)
 have x30:(a1.put (some 30) (.agg #[sv s,sv r])).tmps[30]?=some (.agg #[sv s,sv r]):=Nf.put_same (by rw[k1.sz];decide)
 generalize a1.put (some 30) (.agg #[sv s,sv r])=a2 at h5 k2 x30
 have h6:=Nf.stand_oper good (fun i=>rfl) (o:=((ops 5)[2]?).getD default) (by kernel_rfl) (Nf.wanted_none (by kernel_rfl)) (by decide) (by kernel_rfl) (v':=v1.alloc (.cells #[.slice none 0 0,.slice none 0 0] 32)) (x:=.value (.pointer (some ⟨v1.heap.size,0,none⟩))) (.inl rfl) (fun t d=>Go.Proofs.YtkeapmmochpcfaaGreat.Sd.run_alloc (by kernel_rfl)) h5
 have d2:(((ops 5)[2]?).getD default).dst=some 8:=by kernel_rfl
 rw[d2] at h6
 have k3:=(k2.put (d:=8) (x:=.pointer (some ⟨v1.heap.size,0,none⟩)) (by rfl)).add (d:=8) (x:=.pointer (some ⟨v1.heap.size,0,none⟩)) (Nf.put_same (by rw[k2.sz];decide))
 have x8:(a2.put (some 8) (.pointer (some ⟨v1.heap.size,0,none⟩))).eval (.tmp 8)=.pointer (some ⟨v1.heap.size,0,none⟩):=Nf.eval_tmp (Nf.put_same (by rw[k2.sz];decide))
 have x30':(a2.put (some 8) (.pointer (some ⟨v1.heap.size,0,none⟩))).eval (.tmp 30)=.agg #[sv s,sv r]:=Nf.eval_tmp ((Nf.put_ne (by decide)).trans x30)
 generalize a2.put (some 8) (.pointer (some ⟨v1.heap.size,0,none⟩))=a3 at h6 k3 x8 x30'
 have bx:=Box.new v1 #[.slice none 0 0,.slice none 0 0] 32
 have h7:=Nf.stand_oper good (fun i=>rfl) (o:=((ops 5)[3]?).getD default) (by kernel_rfl) (Nf.wanted_none (by kernel_rfl)) (by decide) (by kernel_rfl) (v':=((v1.alloc (.cells #[.slice none 0 0,.slice none 0 0] 32)).setCell ⟨v1.heap.size,0,none⟩ (sv s)).setCell ⟨v1.heap.size,1,none⟩ (sv r)) (.inr ⟨rfl,rfl⟩) (fun t d=>Go.Proofs.YtkeapmmochpcfaaGreat.Sd.run_store (x:=.tmp 8) (y:=.tmp 30) (by kernel_rfl) x8 x30' ⟨_,_,_,rfl⟩ ⟨_,_,_,rfl⟩ (Rp.box_tape bx) rfl) h6
 have d3:(((ops 5)[3]?).getD default).dst=none:=by kernel_rfl
 rw[d3] at h7
 have h8:=Nf.stand_region_end h7
 have ka:Below v1.heap.size v1 (v1.alloc (.cells #[.slice none 0 0,.slice none 0 0] 32)):=(Below.refl _ _).alloc (Nat.le_refl _) _
 have ko:Only v1.heap.size (v1.alloc (.cells #[.slice none 0 0,.slice none 0 0] 32)) (((v1.alloc (.cells #[.slice none 0 0,.slice none 0 0] 32)).setCell ⟨v1.heap.size,0,none⟩ (sv s)).setCell ⟨v1.heap.size,1,none⟩ (sv r)):=((Only.refl _ _).setCell 0 _).setCell 1 _
 have kc:=ka.trans (ko.below (B:=v1.heap.size) (Nat.le_refl _) (by simp))
 have bx2:=(bx.put 0 (sv s) (by simp) rfl).put 1 (sv r) (by simp) rfl
 have kd:Bel v1.heap.size v1 _:=Bel.of kc
 refine⟨⟨a0,len0,cap0,p,m,q,f,t,p2,m2,q2,b,L,M,J,s,r,v1.heap.size⟩,_,_,B1,h8,kb.trans (kd.mono kb.size),hB,k3,?_⟩
 refine⟨((hG.om.bel kb).bel kd).rd,((hG.oa.bel kb).bel kd).rd,hG.ml,hG.ml2,hG.mc,hG.mc2,hG.tr,hG.sm,?_,hW,bx2,(Rp.rdE_of oE).bel kd,(Rp.rdM_of oM).bel kd⟩
 cases ok:Rp.okG L with
 | false =>
  have em:=(hG.tr.no ok).1
  subst em
  exact sm_nil
 | true =>
  by_cases hin:Rp.inG L.length f t
  ·
   have hin':=hin
   obtain⟨i1,i2,i3,i4,i5⟩:=hin
   exact Rp.Sm.ok (Rp.okG_tell ok (by omega) (by omega) (hG.tr.yes ok hin').1)
  ·
   rw[(hG.tr.out ok hin).1]
   exact hG.sm
end Go.Proofs.YtkeapmmochpcfaaGreat.Gg
namespace Go.Proofs.YtkeapmmochpcfaaGreat.Gg
open Go Go.Conc Go.ChangeShapes Go.WideShapes Go.ChangeAt Go.RowKit
open Nf (Stand Bel Pz cutN restN EndQ HasEnd on)
open Bo (Box)
open Vv (Sl sv hidIt)
open Sd (K good quiets whole_stand)
theorem retT {m0:Machine} {k:List Item} {B:Nat->Prop} {v:World} {a:Act} (hd:a.defers=[]) (h:Stand Tryz.prog m0 B (G ((base 3).at a (.code .ret::k)) []) v):Stand Tryz.prog m0 B (G (Nf.outF 3 a.tmps (.code .ret::k)) []) v:=Nf.stand_goret hd h
theorem law_rest [Go.ConcR.Payload] {M0:Machine} {W v:World} {B:Nat->Prop} {a:Act} (e:Pr) (hBW:∀ b,B b->W.heap.size<=b) (beW:Bel W.heap.size W v) (ks:Ks (base6 e) a) (hE:Ev e v)
  (h1:Stand Tryz.prog M0 B (G ((base 3).at a [.code (restN 5 body3)]) []) v)
  (HPOST:∀ (B:Nat->Prop) (v:World),(∀ b,B b->W.heap.size<=b)->Bel W.heap.size W v->∀ w',Pz B w' (on v w'.tape w'.drawn)->(Value.bool true=.bool true∧Bel W.heap.size W w')) :
  ∃ M last o w' t',runNT Tryz.prog (M+1) M0 #[]=(.ended o w',t')∧runN Tryz.prog M M0=.next last∧step Tryz.prog last=.ended o w'∧Conc.Good Tryz.prog (fun v W'=>v=.bool true∧Bel W.heap.size W W') last o w' t':=by
 rw[code5] at h1
 obtain⟨a2,v2,B2,h2,kb,hb2,y,k2,hy⟩:=step6 e hE ks (Nf.stand_seq (Nf.stand_seq h1))
 have hBW2:∀ b,B2 b->W.heap.size<=b:=fun b hb=>(hb2 b hb).elim (hBW b) (Nat.le_trans beW.size)
 have be2:=beW.trans (kb.mono beW.size)
 have E2:=hE.bel kb
 obtain⟨a3,v3,B3,h3,kb3,hb3,k3,x60⟩:=step7 e y E2 hy k2 (Nf.stand_seq h2)
 have hBW3:∀ b,B3 b->W.heap.size<=b:=fun b hb=>(hb3 b hb).elim (hBW2 b) (Nat.le_trans be2.size)
 have be3:=be2.trans (kb3.mono be2.size)
 have E3:=E2.bel kb3
 have h3:=Nf.stand_cond (t:=false) (Nf.eval_tmp x60) h3
 simp only[Bool.false_eq_true,if_false] at h3
 have h3:=Nf.stand_skip h3
 rw[code6] at h3
 obtain⟨a4,v4,B4,h4,kb4,hb4,k4,x63⟩:=step9 e E3 k3 (Nf.stand_seq (Nf.stand_seq h3))
 have hBW4:∀ b,B4 b->W.heap.size<=b:=fun b hb=>(hb4 b hb).elim (hBW3 b) (Nat.le_trans be3.size)
 have be4:=be3.trans (kb4.mono be3.size)
 have E4:=E3.bel kb4
 have h4:=Nf.stand_cond (t:=!Rp.okG e.L) (Nf.eval_tmp x63) h4
 cases ok:Rp.okG e.L with
 | false =>
  rw[ok] at h4
  simp only[Bool.not_false,if_true] at h4
  obtain⟨a5,v5,B5,h5,kb5,hb5,df,x2⟩:=step10 e E4 ok (k4.sub (by
   intro p hp
   simp only[baseN,List.mem_cons,List.not_mem_nil,or_false] at hp
   rcases hp with rfl | rfl | rfl | rfl | rfl | rfl | rfl<;>simp[base6])) (Nf.stand_seq h4)
  exact Nf.stand_end (val:=.bool true) Tryz.func3 init3 (retT df h5) (by simp[results,Tryz.results3,x2]) (HPOST _ _ (fun b hb=>(hb5 b hb).elim (hBW4 b) (Nat.le_trans be4.size)) (be4.trans (kb5.mono be4.size)))
 | true =>
  rw[ok] at h4
  simp only[Bool.not_true,Bool.false_eq_true,if_false] at h4
  have h4:=Nf.stand_skip h4
  rw[code7] at h4
  obtain⟨a5,v5,B5,h5,kb5,hb5,k5,x73⟩:=step11 e E4 k4 (Nf.stand_seq (Nf.stand_seq h4))
  have hBW5:∀ b,B5 b->W.heap.size<=b:=fun b hb=>(hb5 b hb).elim (hBW4 b) (Nat.le_trans be4.size)
  have be5:=be4.trans (kb5.mono be4.size)
  have E5:=E4.bel kb5
  have h5:=Nf.stand_cond (t:=!e.b) (Nf.eval_tmp x73) h5
  cases hb:e.b with
  | false =>
   have hML:e.M=e.L:=by
    by_cases hin:Rp.inG e.L.length e.f e.t
    ·
     have:=(E5.tr.yes ok hin).2
     rw[hb] at this
     cases this
    ·
     exact (E5.tr.out ok hin).1
   rw[hb] at h5
   simp only[Bool.not_false,if_true] at h5
   obtain⟨a6,v6,B6,h6,kb6,hb6,df,x2⟩:=step12 e E5 hML (k5.sub (by
    intro p hp
    simp only[baseN,List.mem_cons,List.not_mem_nil,or_false] at hp
    rcases hp with rfl | rfl | rfl | rfl | rfl | rfl | rfl<;>simp[base6])) (Nf.stand_seq h5)
   exact Nf.stand_end (val:=.bool true) Tryz.func3 init3 (retT df h6) (by simp[results,Tryz.results3,x2]) (HPOST _ _ (fun b hb=>(hb6 b hb).elim (hBW5 b) (Nat.le_trans be5.size)) (be5.trans (kb6.mono be5.size)))
  | true =>
   have hin:Rp.inG e.L.length e.f e.t:=by
    refine Classical.byContradiction fun hin=>?_
    have:=(E5.tr.out ok hin).2
    rw[hb] at this
    cases this
   have tl:=(E5.tr.yes ok hin).1
   obtain⟨i1,i2,i3,i4,i5⟩:=hin
   have hft:e.f.toNat<e.L.length:=by omega
   have htt:e.t.toNat<e.L.length:=by omega
   rw[hb] at h5
   simp only[Bool.not_true,Bool.false_eq_true,if_false] at h5
   have h5:=Nf.stand_skip h5
   have hml:e.m2=e.m:=by rw[<- E5.ml2,<- E5.ml];exact tl.len
   obtain⟨T5,D5⟩:=a5
   obtain rfl:D5=[]:=k5.df
   rw[lay k5] at h5
   obtain⟨T6,v6,h6,sz6,bs6,be6⟩:=Nf.stand_pieceM good quiets init3 (fun i=>rfl) (td:=[.code (cutN 1 (restN 8 body3))]) (td':=[.code (restN 8 body3)]) (r:=restN 9 body3) rfl (by intro x hx;simp only[List.mem_singleton] at hx;subst hx;exact code3d) ⟨[],_,rfl,by kernel_rfl⟩ (F8.tape (e:=e) (W0:=v5)) h5
    (fun t d=>Nf.hasEnd_code (loop_wp e v5 (on v5 t d) (E5.tape t d) (same_bel _ _ _ _) hml (fun i hi hne=>Rp.told_rest tl htt (by rw[E5.ml];exact hi) (fun q=>hne (by omega))) (fun i=>T5.getD i undef)))
   have be6W:=be5.trans (be6.mono be5.size)
   have E6:=E5.bel be6
   obtain⟨bg,og,s1,r1,pg,c1,d1,eE1,eM1⟩:=E6.rg.one htt
   obtain⟨bg2,og2,s2,r2,pg2,c2,d2,eE2,eM2⟩:=E6.rg.one hft
   obtain⟨bx,ox,s3,r3,px,c3,d3,eE3,eM3⟩:=E6.rx.one (i:=e.t.toNat) (by rw[tl.len];exact htt)
   rw[pg] at pg2
   obtain⟨rfl,rfl⟩:bg=bg2∧og=og2:=by simpa using pg2
   have EI:Ei e ⟨bg,og,bx,ox,e.t.toNat,e.f.toNat,s1,r1,s2,r2,s3,r3⟩ v6:=⟨E6,ok,tl,pg,px,by show e.t=(e.t.toNat:Int);omega,by show e.f=(e.f.toNat:Int);omega,by rw[<- E6.ml];exact htt,by rw[<- E6.ml];exact hft,by rw[<- E6.ml2,tl.len];exact htt,c1,d1,c2,d2,c3,d3,eE1,eM1,eE2,eM2,eE3,eM3⟩
   rw[code9] at h6
   obtain⟨a7,v7,B7,h7,kb7,hb7,j,k7,hj⟩:=step18 e _ EI ⟨rfl,sz6,bs6⟩ (Nf.stand_seq h6)
   have hBW7:∀ b,B7 b->W.heap.size<=b:=fun b hb=>(hb7 b hb).elim (hBW5 b) (Nat.le_trans be6W.size)
   have be7:=be6W.trans (kb7.mono be6W.size)
   obtain⟨a8,v8,B8,h8,kb8,hb8,df,x2⟩:=step19 e _ j (EI.bel kb7) hj k7 (Nf.stand_seq h7)
   exact Nf.stand_end (val:=.bool true) Tryz.func3 init3 (retT df h8) (by simp[results,Tryz.results3,x2]) (HPOST _ _ (fun b hb=>(hb8 b hb).elim (hBW7 b) (Nat.le_trans be7.size)) (be7.trans (kb8.mono be7.size)))
theorem law_runs [Go.ConcR.Payload] (a0:Option Addr) (len0 cap0:Nat) (W:World) (hc:Dr.Code W.heap.size W a0 len0) :
  ∃ M last o w' t',runNT Tryz.prog (M+1) (solo (G (Frame.enter Tryz.prog 3 #[.slice a0 len0 cap0] .normal) []) W) #[]=(.ended o w',t')∧runN Tryz.prog M (solo (G (Frame.enter Tryz.prog 3 #[.slice a0 len0 cap0] .normal) []) W)=.next last ∧
   step Tryz.prog last=.ended o w'∧Conc.Good Tryz.prog (fun v W'=>v=.bool true∧Bel W.heap.size W W') last o w' t':=by
 have h1:=Nf.stand_start (P:=Tryz.prog) (G (Frame.enter Tryz.prog 3 #[.slice a0 len0 cap0] .normal) []) W
 generalize hm:solo (G (Frame.enter Tryz.prog 3 #[.slice a0 len0 cap0] .normal) []) W=M0 at h1 ⊢
 clear hm
 have HPOST:∀ (B:Nat->Prop) (v:World),(∀ b,B b->W.heap.size<=b)->Bel W.heap.size W v->∀ w',Pz B w' (on v w'.tape w'.drawn)->(Value.bool true=.bool true∧Bel W.heap.size W w'):=fun B v hB hb w' hz=>⟨rfl,hz.sys.1.symm.trans hb.os,hz.sys.2.symm.trans hb.output,by have:=hz.size;have:=hb.size;have h2:(on v w'.tape w'.drawn).heap.size=v.heap.size:=rfl;omega,fun k hk=>((hz.heap k (fun hk2=>by have:=hB k hk2;omega)).symm.trans (hb.block k hk))⟩
 rw[enter3] at h1
 by_cases hbig:¬ len0<=4096
 ·
  have hdb:decide (4096<(len0:Int))=true:=by simp;omega
  simp only[body3,Tryz.f3,Option.getD_some] at h1
  replace h1:=Nf.stand_region (Nf.stand_seq h1)
  try simp only[Act.put,Act.eval,List.map_toArray,List.map_cons,List.map_nil,Array.getD_eq_getD_getElem?,List.getElem?_toArray,List.getElem?_cons_succ,List.getElem?_cons_zero,Option.getD_some,Option.bind_some,List.size_toArray,List.length_cons,List.length_nil,Nat.reduceAdd,Nat.reduceSub,Nat.zero_add,List.range,List.range.loop,Array.replicate_succ,Array.replicate_zero,List.push_toArray,List.append_toArray,List.nil_append,List.cons_append,List.setIfInBounds_toArray,List.set_cons_succ,List.set_cons_zero,List.getElem_toArray,List.getElem_cons_succ,List.getElem_cons_zero,if_true,if_false,Bool.false_eq_true,↓reduceIte] at h1
  replace h1:=Nf.stand_oper good (fun i=>rfl) rfl rfl (by decide) (by rfl) (.inl rfl) (fun t d=>rfl) h1
  try simp only[Act.put,Act.eval,List.map_toArray,List.map_cons,List.map_nil,Array.getD_eq_getD_getElem?,List.getElem?_toArray,List.getElem?_cons_succ,List.getElem?_cons_zero,Option.getD_some,Option.bind_some,List.size_toArray,List.length_cons,List.length_nil,Nat.reduceAdd,Nat.reduceSub,Nat.zero_add,List.range,List.range.loop,Array.replicate_succ,Array.replicate_zero,List.push_toArray,List.append_toArray,List.nil_append,List.cons_append,List.setIfInBounds_toArray,List.set_cons_succ,List.set_cons_zero,List.getElem_toArray,List.getElem_cons_succ,List.getElem_cons_zero,if_true,if_false,Bool.false_eq_true,↓reduceIte] at h1
  replace h1:=Nf.stand_region_end h1
  replace h1:=Nf.stand_region (Nf.stand_seq (Nf.stand_seq h1))
  try simp only[Act.put,Act.eval,List.map_toArray,List.map_cons,List.map_nil,Array.getD_eq_getD_getElem?,List.getElem?_toArray,List.getElem?_cons_succ,List.getElem?_cons_zero,Option.getD_some,Option.bind_some,List.size_toArray,List.length_cons,List.length_nil,Nat.reduceAdd,Nat.reduceSub,Nat.zero_add,List.range,List.range.loop,Array.replicate_succ,Array.replicate_zero,List.push_toArray,List.append_toArray,List.nil_append,List.cons_append,List.setIfInBounds_toArray,List.set_cons_succ,List.set_cons_zero,List.getElem_toArray,List.getElem_cons_succ,List.getElem_cons_zero,if_true,if_false,Bool.false_eq_true,↓reduceIte] at h1
  replace h1:=Nf.stand_oper good (fun i=>rfl) rfl rfl (by decide) (by rfl) (.inl rfl) (fun t d=>rfl) h1
  try simp only[Act.put,Act.eval,List.map_toArray,List.map_cons,List.map_nil,Array.getD_eq_getD_getElem?,List.getElem?_toArray,List.getElem?_cons_succ,List.getElem?_cons_zero,Option.getD_some,Option.bind_some,List.size_toArray,List.length_cons,List.length_nil,Nat.reduceAdd,Nat.reduceSub,Nat.zero_add,List.range,List.range.loop,Array.replicate_succ,Array.replicate_zero,List.push_toArray,List.append_toArray,List.nil_append,List.cons_append,List.setIfInBounds_toArray,List.set_cons_succ,List.set_cons_zero,List.getElem_toArray,List.getElem_cons_succ,List.getElem_cons_zero,if_true,if_false,Bool.false_eq_true,↓reduceIte] at h1
  replace h1:=Nf.stand_enter rfl rfl (by decide) rfl Tryz.func5 (by decide) rfl h1
  try simp only[Act.put,Act.eval,List.map_toArray,List.map_cons,List.map_nil,Array.getD_eq_getD_getElem?,List.getElem?_toArray,List.getElem?_cons_succ,List.getElem?_cons_zero,Option.getD_some,Option.bind_some,List.size_toArray,List.length_cons,List.length_nil,Nat.reduceAdd,Nat.reduceSub,Nat.zero_add,List.range,List.range.loop,Array.replicate_succ,Array.replicate_zero,List.push_toArray,List.append_toArray,List.nil_append,List.cons_append,List.setIfInBounds_toArray,List.set_cons_succ,List.set_cons_zero,List.getElem_toArray,List.getElem_cons_succ,List.getElem_cons_zero,if_true,if_false,Bool.false_eq_true,↓reduceIte] at h1
  obtain⟨val,v5,h2,rfl,hb5⟩:=Nf.stand_call good quiets (R:=fun val x=>val=.bool true∧Bel W.heap.size W x) (fun x w t d ⟨h1,h2⟩=>⟨h1,h2.on W.tape t W.drawn d⟩) Tryz.func5 rfl (by kernel_rfl) (by kernel_rfl) (fun i=>rfl) h1
   (fun t d=>(Dr.big_any a0 len0 cap0 (on W t d)).mono (fun e w' hz=>by
    obtain⟨he,hw⟩:=hz
    rw[hdb] at he
    exact⟨_,he,rfl,by rw[hw];exact same_bel _ _ _ _⟩))
  rw[Nf.finish_mid rfl] at h2
  replace h1:=h2
  clear h2
  try simp only[Act.put,Act.eval,List.map_toArray,List.map_cons,List.map_nil,Array.getD_eq_getD_getElem?,List.getElem?_toArray,List.getElem?_cons_succ,List.getElem?_cons_zero,Option.getD_some,Option.bind_some,List.size_toArray,List.length_cons,List.length_nil,Nat.reduceAdd,Nat.reduceSub,Nat.zero_add,List.range,List.range.loop,Array.replicate_succ,Array.replicate_zero,List.push_toArray,List.append_toArray,List.nil_append,List.cons_append,List.setIfInBounds_toArray,List.set_cons_succ,List.set_cons_zero,List.getElem_toArray,List.getElem_cons_succ,List.getElem_cons_zero,if_true,if_false,Bool.false_eq_true,↓reduceIte] at h1
  replace h1:=Nf.stand_region_end h1
  replace h1:=Nf.stand_cond rfl h1
  try simp only[Act.put,Act.eval,List.map_toArray,List.map_cons,List.map_nil,Array.getD_eq_getD_getElem?,List.getElem?_toArray,List.getElem?_cons_succ,List.getElem?_cons_zero,Option.getD_some,Option.bind_some,List.size_toArray,List.length_cons,List.length_nil,Nat.reduceAdd,Nat.reduceSub,Nat.zero_add,List.range,List.range.loop,Array.replicate_succ,Array.replicate_zero,List.push_toArray,List.append_toArray,List.nil_append,List.cons_append,List.setIfInBounds_toArray,List.set_cons_succ,List.set_cons_zero,List.getElem_toArray,List.getElem_cons_succ,List.getElem_cons_zero,if_true,if_false,Bool.false_eq_true,↓reduceIte] at h1
  replace h1:=Nf.stand_region (Nf.stand_seq h1)
  try simp only[Act.put,Act.eval,List.map_toArray,List.map_cons,List.map_nil,Array.getD_eq_getD_getElem?,List.getElem?_toArray,List.getElem?_cons_succ,List.getElem?_cons_zero,Option.getD_some,Option.bind_some,List.size_toArray,List.length_cons,List.length_nil,Nat.reduceAdd,Nat.reduceSub,Nat.zero_add,List.range,List.range.loop,Array.replicate_succ,Array.replicate_zero,List.push_toArray,List.append_toArray,List.nil_append,List.cons_append,List.setIfInBounds_toArray,List.set_cons_succ,List.set_cons_zero,List.getElem_toArray,List.getElem_cons_succ,List.getElem_cons_zero,if_true,if_false,Bool.false_eq_true,↓reduceIte] at h1
  replace h1:=Nf.stand_oper good (fun i=>rfl) rfl rfl (by decide) (by rfl) (.inl rfl) (fun t d=>rfl) h1
  try simp only[Act.put,Act.eval,List.map_toArray,List.map_cons,List.map_nil,Array.getD_eq_getD_getElem?,List.getElem?_toArray,List.getElem?_cons_succ,List.getElem?_cons_zero,Option.getD_some,Option.bind_some,List.size_toArray,List.length_cons,List.length_nil,Nat.reduceAdd,Nat.reduceSub,Nat.zero_add,List.range,List.range.loop,Array.replicate_succ,Array.replicate_zero,List.push_toArray,List.append_toArray,List.nil_append,List.cons_append,List.setIfInBounds_toArray,List.set_cons_succ,List.set_cons_zero,List.getElem_toArray,List.getElem_cons_succ,List.getElem_cons_zero,if_true,if_false,Bool.false_eq_true,↓reduceIte] at h1
  replace h1:=Nf.stand_goret rfl (Nf.stand_region_end h1)
  exact Nf.stand_end (val:=.bool true) Tryz.func3 init3 h1 (by simp[results,Tryz.results3]) (HPOST _ _ (fun b hb=>hb.elim) hb5)
 have hl:len0<=4096:=by omega
 clear hbig
 obtain⟨T1,v1,h1,p,m,q,f,t,p2,m2,q2,b,lo,hi,lo2,hi2,L,M,hT,hG⟩:=Nf.stand_pieceM good quiets init3 (fun i=>rfl) (td:=[.code (cutN 4 body3)]) (td':=[.code body3]) (r:=restN 4 body3) rfl (by intro x hx;simp only[List.mem_singleton] at hx;subst hx;exact code3a) ⟨[],_,rfl,by kernel_rfl⟩ (F1.tape (a0:=a0) (len0:=len0) (cap0:=cap0) (W0:=W)) h1
  (fun t d=>Nf.hasEnd_code (law_p1 a0 len0 cap0 W (on W t d) (code_tape hc t d) hl (same_bel _ _ _ _)))
 have ks:Ks [(0,.slice a0 len0 cap0),(2,.bool false),(3,.slice p m q),(4,.int .i64 f),(5,.int .i64 t),(6,.slice p2 m2 q2),(7,.bool b)] ⟨T1,[]⟩:=by
  rw[hT]
  refine⟨rfl,rfl,fun x hx=>?_⟩
  simp only[List.mem_cons,List.not_mem_nil,or_false] at hx
  rcases hx with rfl | rfl | rfl | rfl | rfl | rfl | rfl<;>rfl
 clear hT
 rw[code4] at h1
 obtain⟨e,a2,v2,B2,h2,kb,hb,k2,hE⟩:=step5 hG ks (Nf.stand_seq h1)
 exact law_rest e (fun b q=>(hb b q).elim (fun z=>z.elim) (Nat.le_trans hG.be.size)) (hG.be.trans (kb.mono hG.be.size)) k2 hE h2 HPOST
end Go.Proofs.YtkeapmmochpcfaaGreat.Gg
