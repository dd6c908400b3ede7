/- FnExactWhole's law: the piece behind its second call of impl.Whole. -/
import Derived.Test.YtpkkmhpobfjclaaGreatBun25
set_option maxRecDepth 100000
set_option maxHeartbeats 32000000
set_option linter.unusedVariables false
namespace Go.Proofs.YtpkkmhpobfjclaaGreat.Wl
open Go Go.Conc Go.ChangeShapes Go.WideShapes Go.ChangeAt Go.RowKit
open Nf (Stand Bel Pz cutN restN EndQ HasEnd on)
open Bo (Box)
open Vv (Sl sv hidIt)
set_option linter.unusedSimpArgs false
def ops24 (fz : Func:=Tryz.f3) : Array Oper:=match restN 18 (body3 fz) with
 | .seq (.region _ o _) _=>o
 | _=>#[]
theorem law_p4 (a0 : Option Addr) (m0 cap0 : Nat) (L0 : List Rp.Rep) (W0 W : World) {b4 b6 m lo hi lo2 hi2 lo3 hi3 : Nat} {s t s2 t2 s3 t3 : Sl} {J : Rp.Rep} (hG : G4 L0 W0 b4 b6 m lo hi lo2 hi2 s t s2 t2 J W) (hO : Rp.Own1 W lo3 hi3 s3 t3 J) (hbJ : Rp.bulk1 J ≤ 528) (u : Nat → Value)
  (Kk : Act → World → Prop) (hK : ∀ a w,(restN 19 body3).wp Tryz.prog (EndQ true (F5 W0)) a w → Kk a w) :
  wpList Tryz.prog ops24 (Exit.then Kk (EndQ true (F5 W0))) (ops24.toList.drop 3) ⟨#[.slice a0 m0 cap0,u 1,.bool false,u 3,.pointer (some ⟨b4,0,none⟩),u 5,.pointer (some ⟨b6,0,none⟩),u 7,.int .i64 (m : Int),u 9,u 10,u 11,u 12,u 13,u 14,u 15,u 16,u 17,u 18,u 19,u 20,u 21,u 22,u 23,u 24,u 25,u 26,u 27,u 28,u 29,u 30,u 31,u 32,u 33,u 34,u 35,u 36,u 37,u 38,u 39,u 40,u 41,u 42,u 43,u 44,u 45,u 46,u 47,u 48,u 49,u 50,u 51,u 52,u 53,u 54,u 55,.agg #[sv s3,sv t3],u 57,u 58,u 59,u 60,u 61,u 62,u 63,u 64,u 65,u 66,u 67,u 68],[]⟩ W:=by
 have hW:=hG.be.size
 obtain ⟨s0,s1,s2'⟩:=s
 obtain ⟨t0,t1,t2'⟩:=t
 obtain ⟨g0,g1,g2⟩:=s2
 obtain ⟨h0,h1,h2'⟩:=t2
 obtain ⟨i0,i1,i2⟩:=s3
 obtain ⟨j0,j1,j2⟩:=t3
 have ka : Below W.heap.size W (W.alloc (.cells #[.slice i0 i1 i2,.slice j0 j1 j2] 27)):=(Below.refl _ _).alloc (Nat.le_refl _) _
 have HZ:=hidIt (hG.be.trans ((Bel.of ka).mono hG.be.size))
 have X4:=hidIt (hG.x4.kept ka)
 have X6:=hidIt (hG.x6.kept ka)
 have OW:=hidIt (hG.ow.kept ka)
 have OG:=hidIt (hG.og.kept ka)
 have OH:=hidIt (hO.kept ka)
 have hsa : (W.alloc (.cells #[.slice i0 i1 i2,.slice j0 j1 j2] 27)).heap.size = W.heap.size + 1:=by simp
 have EQ:=hidIt (fun V (hE : Rp.RdE V (i0,i1,i2) J.1) (hM : Rp.RdM V (j0,j1,j2) J.2) (hE' : Rp.RdE V (s0,s1,s2') J.1) (hM' : Rp.RdM V (t0,t1,t2') J.2)=>Rp.eq_same (i0,i1,i2) (j0,j1,j2) (s0,s1,s2') (t0,t1,t2') J V hE hM hE' hM')
 have HH:=hidIt (fun V (hE : Rp.RdE V (g0,g1,g2) (Rp.mark1 1 J).1) (hM : Rp.RdM V (h0,h1,h2') (Rp.mark1 1 J).2)=>Rp.held1_any (g0,g1,g2) (h0,h1,h2') J 1 V hE hM (by decide) (by omega))
 have HF : Hid (∀ x T,T[2]? = some (.bool true) → Bel W0.heap.size W0 x → F5 W0 T x):=hidIt (fun x T h1 h2=>⟨h1,h2⟩)
 have hmm:=hG.mm
 rw [← hmm] at HH
 have hkj : ¬ ((m : Nat) : Int) < 0:=by omega
 have hjj : (((m : Nat) : Int) != ((m : Nat) : Int)) = false:=by simp
 generalize F5 W0 = FF at HF hK ⊢
 clear hG hO hbJ ka hmm
 simp only [sv]
 simp only [body3,restN,ops24,Tryz.f3,Option.getD_some,List.drop_succ_cons,List.drop_zero] at hK ⊢
 have ca:=X4.out.c 0 (v:=.slice s0 s1 s2') rfl
 have cb:=X4.out.c 1 (v:=.slice t0 t1 t2') rfl
 go_wp2_with (fail)
 refine (EQ.out _ OH.out.rE OH.out.rM OW.out.rE OW.out.rM).mono ?_
 rintro e w1 ⟨rfl,kk⟩
 clear ca cb
 replace HZ:=hidIt (HZ.out.trans ((Bel.of kk).mono HZ.out.size))
 replace X6:=hidIt (X6.out.kept kk)
 replace OG:=hidIt (OG.out.kept kk)
 clear kk X4 OW OH EQ
 have cc:=X6.out.c 0 (v:=.slice g0 g1 g2) rfl
 have cd:=X6.out.c 1 (v:=.slice h0 h1 h2') rfl
 go_wp2_with (fail)
 refine (HH.out _ OG.out.rE OG.out.rM).mono ?_
 rintro e w2 ⟨rfl,kk⟩
 clear cc cd
 replace HZ:=hidIt (HZ.out.trans ((Bel.of kk).mono HZ.out.size))
 clear kk X6 OG HH
 go_wp2_with (fail)
 exact ⟨rfl,rfl,HF.out _ _ rfl HZ.out⟩
end Go.Proofs.YtpkkmhpobfjclaaGreat.Wl
namespace Go.Proofs.YtpkkmhpobfjclaaGreat.Rp
theorem whl_small {L : List Rep} {J : Rep} (h : WhlR L J) : bulk1 J ≤ 528:=by
 cases ok : okG L with
 | false =>
  rw [h.no ok]
  decide
 | true =>
  obtain ⟨_,_,h3,h4⟩:=(okG_iff L).1 ok
  have e1 : J.1.length ≤ 80:=by
   have:=h3.len
   rw [← h.bk ok,En.toB_length] at this
   exact this
  have e2 : J.2.length ≤ 8:=by
   have:=Mk.part_ok h4 (G':=mbs L) (fun b hb=>hb)
   rw [← h.mb ok] at this
   unfold Mk.okBk at this
   simp only [Bool.and_eq_true,decide_eq_true_eq] at this
   have h5:=this.1.1
   rw [Mm.toB_length] at h5
   exact h5
  unfold bulk1
  omega
end Go.Proofs.YtpkkmhpobfjclaaGreat.Rp
namespace Go.Proofs.YtpkkmhpobfjclaaGreat.Wl
open Go Go.Conc Go.ChangeShapes Go.WideShapes Go.ChangeAt Go.RowKit
open Nf (Stand Bel Pz cutN restN EndQ HasEnd on)
open Bo (Box)
open Vv (Sl sv hidIt)
set_option linter.unusedSimpArgs false
open Sd (K good quiets whole_stand)
theorem init3 : Tryz.prog.inits.idxOf? 3 = none:=by kernel_rfl
theorem code3a : Go.Proofs.YtpkkmhpobfjclaaGreat.Nf.codeB K Tryz.prog 3 (cutN 3 body3) = true:=by kernel_rfl
theorem code3b : Go.Proofs.YtpkkmhpobfjclaaGreat.Nf.codeB K Tryz.prog 3 (cutN 2 (restN 4 body3)) = true:=by kernel_rfl
theorem code3c : Go.Proofs.YtpkkmhpobfjclaaGreat.Nf.codeB K Tryz.prog 3 (cutN 11 (restN 7 body3)) = true:=by kernel_rfl
theorem code3d : Go.Proofs.YtpkkmhpobfjclaaGreat.Nf.codeB K Tryz.prog 3 (restN 19 body3) = true:=by kernel_rfl
theorem mid7 : Go.Proofs.YtpkkmhpobfjclaaGreat.Nf.okItem K Tryz.prog 3 (.inRegion ops7 (List.range' 2 (ops7.toList.drop 2).length)):=fun i hi o ho=>by
 have h:=List.all_eq_true.1 (show (List.range' 2 (ops7.toList.drop 2).length).all (fun i=>(ops7[i]?).all (fun o=>Go.Proofs.YtpkkmhpobfjclaaGreat.Nf.opB K Tryz.prog 3 o)) = true by kernel_rfl) i hi
 rw [ho] at h
 exact h
theorem mid24 : Go.Proofs.YtpkkmhpobfjclaaGreat.Nf.okItem K Tryz.prog 3 (.inRegion ops24 (List.range' 3 (ops24.toList.drop 3).length)):=fun i hi o ho=>by
 have h:=List.all_eq_true.1 (show (List.range' 3 (ops24.toList.drop 3).length).all (fun i=>(ops24[i]?).all (fun o=>Go.Proofs.YtpkkmhpobfjclaaGreat.Nf.opB K Tryz.prog 3 o)) = true by kernel_rfl) i hi
 rw [ho] at h
 exact h
theorem same_bel (n : Nat) (W : World) (t : Go.Proofs.YtpkkmhpobfjclaaGreat.Nf.Tp) (d : Nat) : Bel n W (on W t d):=⟨rfl,rfl,Nat.le_refl _,fun _ _=>rfl⟩
theorem enter3 (a0 : Option Addr) (m0 cap0 : Nat) : Frame.enter Tryz.prog 3 #[.slice a0 m0 cap0] .normal = (base 3).at ⟨#[.slice a0 m0 cap0,undef,undef,undef,undef,undef,undef,undef,undef,undef,undef,undef,undef,undef,undef,undef,undef,undef,undef,undef,undef,undef,undef,undef,undef,undef,undef,undef,undef,undef,undef,undef,undef,undef,undef,undef,undef,undef,undef,undef,undef,undef,undef,undef,undef,undef,undef,undef,undef,undef,undef,undef,undef,undef,undef,undef,undef,undef,undef,undef,undef,undef,undef,undef,undef,undef,undef,undef,undef],[]⟩ [.code body3]:=by
 rw [enter_at (fn:=Tryz.f3) (c:=body3) _ Tryz.func3 rfl]
 simp only [Tryz.ntmps3,List.size_toArray,List.length_cons,List.length_nil,Nat.reduceAdd,Nat.reduceSub,Array.replicate_succ,Array.replicate_zero,List.push_toArray,List.append_toArray,List.nil_append,List.cons_append]
theorem law_runs [Go.ConcR.Payload] (a0 : Option Addr) (cap0 : Nat) (L0 : List Rp.Rep) (W : World) (hI : Rp.In W a0 cap0 L0) :
  ∃ M last o w' t',runNT Tryz.prog (M + 1) (solo (G (Frame.enter Tryz.prog 3 #[.slice a0 L0.length cap0] .normal) []) W) #[] = (.ended o w',t') ∧ runN Tryz.prog M (solo (G (Frame.enter Tryz.prog 3 #[.slice a0 L0.length cap0] .normal) []) W) = .next last ∧
   step Tryz.prog last = .ended o w' ∧ Conc.Good Tryz.prog (fun v W'=>v = .bool true ∧ Bel W.heap.size W W') last o w' t':=by
 have hl : L0.length ≤ 9223372036854775807:=Nat.le_trans hI.le hI.cap
 have h1:=Go.Proofs.YtpkkmhpobfjclaaGreat.Nf.stand_start (P:=Tryz.prog) (G (Frame.enter Tryz.prog 3 #[.slice a0 L0.length cap0] .normal) []) W
 generalize hm : solo (G (Frame.enter Tryz.prog 3 #[.slice a0 L0.length cap0] .normal) []) W = M0 at h1 ⊢
 clear hm
 have HPOST : ∀ (B : Nat → Prop) (v : World),(∀ b,B b → W.heap.size ≤ b) → Bel W.heap.size W v → ∀ w',Pz B w' (on v w'.tape w'.drawn) → (Value.bool true = .bool true ∧ Bel W.heap.size W w'):=fun B v hB hb w' hz=>⟨rfl,hz.sys.1.symm.trans hb.os,hz.sys.2.symm.trans hb.output,by have:=hz.size; have:=hb.size; have h2 : (on v w'.tape w'.drawn).heap.size = v.heap.size:=rfl; omega,fun k hk=>((hz.heap k (fun hk2=>by have:=hB k hk2; omega)).symm.trans (hb.block k hk))⟩
 rw [enter3] at h1
 obtain ⟨T1,v1,h1,l,hT,hb1,hl1⟩:=Go.Proofs.YtpkkmhpobfjclaaGreat.Nf.stand_pieceM good quiets init3 (fun i=>rfl) (td:=[.code (cutN 3 body3)]) (td':=[.code body3]) (r:=restN 3 body3) rfl (by intro x hx; simp only [List.mem_singleton] at hx; subst hx; exact code3a) ⟨[],_,rfl,by kernel_rfl⟩ (F1.tape (a0:=a0) (m0:=L0.length) (cap0:=cap0) (L0:=L0) (W0:=W)) h1
  (fun t d=>Go.Proofs.YtpkkmhpobfjclaaGreat.Nf.hasEnd_code (law_p1 a0 cap0 L0 W (on W t d) hI.rd.tape hl hI.short (same_bel _ _ _ _)))
 generalize (fun i=>T1.getD i undef) = u at hT
 subst hT
 simp only [restN,body3,Tryz.f3,Option.getD_some,S1] at h1
 replace h1:=Go.Proofs.YtpkkmhpobfjclaaGreat.Nf.stand_region (Go.Proofs.YtpkkmhpobfjclaaGreat.Nf.stand_seq (Go.Proofs.YtpkkmhpobfjclaaGreat.Nf.stand_seq h1))
 try simp only [Act.put,Act.eval,List.map_toArray,List.map_cons,List.map_nil,Array.getD_eq_getD_getElem?,List.getElem?_toArray,List.getElem?_cons_succ,List.getElem?_cons_zero,Option.getD_some,Option.bind_some,List.size_toArray,List.length_cons,List.length_nil,Nat.reduceAdd,Nat.reduceSub,Nat.zero_add,List.range,List.range.loop,Array.replicate_succ,Array.replicate_zero,List.push_toArray,List.append_toArray,List.nil_append,List.cons_append,List.setIfInBounds_toArray,List.set_cons_succ,List.set_cons_zero,List.getElem_toArray,List.getElem_cons_succ,List.getElem_cons_zero,if_true,if_false,Bool.false_eq_true,↓reduceIte] at h1
 replace h1:=Go.Proofs.YtpkkmhpobfjclaaGreat.Nf.stand_oper good (fun i=>rfl) rfl rfl (by decide) (by rfl) (.inl rfl) (fun t d=>rfl) h1
 try simp only [Act.put,Act.eval,List.map_toArray,List.map_cons,List.map_nil,Array.getD_eq_getD_getElem?,List.getElem?_toArray,List.getElem?_cons_succ,List.getElem?_cons_zero,Option.getD_some,Option.bind_some,List.size_toArray,List.length_cons,List.length_nil,Nat.reduceAdd,Nat.reduceSub,Nat.zero_add,List.range,List.range.loop,Array.replicate_succ,Array.replicate_zero,List.push_toArray,List.append_toArray,List.nil_append,List.cons_append,List.setIfInBounds_toArray,List.set_cons_succ,List.set_cons_zero,List.getElem_toArray,List.getElem_cons_succ,List.getElem_cons_zero,if_true,if_false,Bool.false_eq_true,↓reduceIte] at h1
 replace h1:=Go.Proofs.YtpkkmhpobfjclaaGreat.Nf.stand_oper good (fun i=>rfl) rfl rfl (by decide) (by rfl) (v':=v1) (x:=.value (.bool (decide (l < 0)))) (.inl rfl) (fun t d=>by simp [execOp,go_sem,Act.eval]) h1
 try simp only [Act.put,Act.eval,List.map_toArray,List.map_cons,List.map_nil,Array.getD_eq_getD_getElem?,List.getElem?_toArray,List.getElem?_cons_succ,List.getElem?_cons_zero,Option.getD_some,Option.bind_some,List.size_toArray,List.length_cons,List.length_nil,Nat.reduceAdd,Nat.reduceSub,Nat.zero_add,List.range,List.range.loop,Array.replicate_succ,Array.replicate_zero,List.push_toArray,List.append_toArray,List.nil_append,List.cons_append,List.setIfInBounds_toArray,List.set_cons_succ,List.set_cons_zero,List.getElem_toArray,List.getElem_cons_succ,List.getElem_cons_zero,if_true,if_false,Bool.false_eq_true,↓reduceIte] at h1
 replace h1:=Go.Proofs.YtpkkmhpobfjclaaGreat.Nf.stand_region_end h1
 by_cases hneg : l < 0
 ·
  simp only [hneg,decide_true] at h1
  replace h1:=Go.Proofs.YtpkkmhpobfjclaaGreat.Nf.stand_cond rfl h1
  try simp only [Act.put,Act.eval,List.map_toArray,List.map_cons,List.map_nil,Array.getD_eq_getD_getElem?,List.getElem?_toArray,List.getElem?_cons_succ,List.getElem?_cons_zero,Option.getD_some,Option.bind_some,List.size_toArray,List.length_cons,List.length_nil,Nat.reduceAdd,Nat.reduceSub,Nat.zero_add,List.range,List.range.loop,Array.replicate_succ,Array.replicate_zero,List.push_toArray,List.append_toArray,List.nil_append,List.cons_append,List.setIfInBounds_toArray,List.set_cons_succ,List.set_cons_zero,List.getElem_toArray,List.getElem_cons_succ,List.getElem_cons_zero,if_true,if_false,Bool.false_eq_true,↓reduceIte] at h1
  replace h1:=Go.Proofs.YtpkkmhpobfjclaaGreat.Nf.stand_region (Go.Proofs.YtpkkmhpobfjclaaGreat.Nf.stand_seq h1)
  try simp only [Act.put,Act.eval,List.map_toArray,List.map_cons,List.map_nil,Array.getD_eq_getD_getElem?,List.getElem?_toArray,List.getElem?_cons_succ,List.getElem?_cons_zero,Option.getD_some,Option.bind_some,List.size_toArray,List.length_cons,List.length_nil,Nat.reduceAdd,Nat.reduceSub,Nat.zero_add,List.range,List.range.loop,Array.replicate_succ,Array.replicate_zero,List.push_toArray,List.append_toArray,List.nil_append,List.cons_append,List.setIfInBounds_toArray,List.set_cons_succ,List.set_cons_zero,List.getElem_toArray,List.getElem_cons_succ,List.getElem_cons_zero,if_true,if_false,Bool.false_eq_true,↓reduceIte] at h1
  replace h1:=Go.Proofs.YtpkkmhpobfjclaaGreat.Nf.stand_oper good (fun i=>rfl) rfl rfl (by decide) (by rfl) (.inl rfl) (fun t d=>rfl) h1
  try simp only [Act.put,Act.eval,List.map_toArray,List.map_cons,List.map_nil,Array.getD_eq_getD_getElem?,List.getElem?_toArray,List.getElem?_cons_succ,List.getElem?_cons_zero,Option.getD_some,Option.bind_some,List.size_toArray,List.length_cons,List.length_nil,Nat.reduceAdd,Nat.reduceSub,Nat.zero_add,List.range,List.range.loop,Array.replicate_succ,Array.replicate_zero,List.push_toArray,List.append_toArray,List.nil_append,List.cons_append,List.setIfInBounds_toArray,List.set_cons_succ,List.set_cons_zero,List.getElem_toArray,List.getElem_cons_succ,List.getElem_cons_zero,if_true,if_false,Bool.false_eq_true,↓reduceIte] at h1
  replace h1:=Go.Proofs.YtpkkmhpobfjclaaGreat.Nf.stand_goret rfl (Go.Proofs.YtpkkmhpobfjclaaGreat.Nf.stand_region_end h1)
  exact Go.Proofs.YtpkkmhpobfjclaaGreat.Nf.stand_end (val:=.bool true) Tryz.func3 init3 h1 (by simp [results,Tryz.results3]) (HPOST _ _ (fun b hb=>hb.elim) hb1)
 simp only [hneg,decide_false] at h1
 replace h1:=Go.Proofs.YtpkkmhpobfjclaaGreat.Nf.stand_cond rfl h1
 try simp only [Act.put,Act.eval,List.map_toArray,List.map_cons,List.map_nil,Array.getD_eq_getD_getElem?,List.getElem?_toArray,List.getElem?_cons_succ,List.getElem?_cons_zero,Option.getD_some,Option.bind_some,List.size_toArray,List.length_cons,List.length_nil,Nat.reduceAdd,Nat.reduceSub,Nat.zero_add,List.range,List.range.loop,Array.replicate_succ,Array.replicate_zero,List.push_toArray,List.append_toArray,List.nil_append,List.cons_append,List.setIfInBounds_toArray,List.set_cons_succ,List.set_cons_zero,List.getElem_toArray,List.getElem_cons_succ,List.getElem_cons_zero,if_true,if_false,Bool.false_eq_true,↓reduceIte] at h1
 replace h1:=Go.Proofs.YtpkkmhpobfjclaaGreat.Nf.stand_skip h1
 have hbk:=hl1 (by omega)
 have hlb : ∀ i,i < L0.length → (Rp.rat L0 i).1.length ≤ 9223372036854775807 ∧ (Rp.rat L0 i).2.length ≤ 9223372036854775807:=fun i hi=>by have:=Rp.bulk_one hi; unfold Rp.bulk1 at this; omega
 obtain ⟨T2,v2,h2,b4,p,q,lo,hi,lo1,hi1,s,t,J,hT,hG⟩:=Go.Proofs.YtpkkmhpobfjclaaGreat.Nf.stand_pieceM good quiets init3 (fun i=>rfl) (td:=[.code (cutN 2 (restN 4 body3))]) (td':=[.code (restN 4 body3)]) (r:=restN 6 body3) rfl (by intro x hx; simp only [List.mem_singleton] at hx; subst hx; exact code3b) ⟨[],_,rfl,by kernel_rfl⟩ (F2.tape (a0:=a0) (m0:=L0.length) (cap0:=cap0) (L0:=L0) (W0:=W)) h1
  (fun t d=>Go.Proofs.YtpkkmhpobfjclaaGreat.Nf.hasEnd_code (law_p2 a0 cap0 L0 W (on v1 t d) (hI.rd.bel hb1).tape hl hI.short (hb1.on W.tape t W.drawn d) hbk l (fun i=>match i with
   | 14=>.int .i64 l
   | 15=>.bool false
   | k=>u k)))
 replace h1:=h2
 clear h2
 generalize (fun i=>T2.getD i undef) = u2 at hT
 subst hT
 simp only [restN,body3,Tryz.f3,Option.getD_some,S2] at h1
 replace h1:=Go.Proofs.YtpkkmhpobfjclaaGreat.Nf.stand_region (Go.Proofs.YtpkkmhpobfjclaaGreat.Nf.stand_seq h1)
 try simp only [Act.put,Act.eval,List.map_toArray,List.map_cons,List.map_nil,Array.getD_eq_getD_getElem?,List.getElem?_toArray,List.getElem?_cons_succ,List.getElem?_cons_zero,Option.getD_some,Option.bind_some,List.size_toArray,List.length_cons,List.length_nil,Nat.reduceAdd,Nat.reduceSub,Nat.zero_add,List.range,List.range.loop,Array.replicate_succ,Array.replicate_zero,List.push_toArray,List.append_toArray,List.nil_append,List.cons_append,List.setIfInBounds_toArray,List.set_cons_succ,List.set_cons_zero,List.getElem_toArray,List.getElem_cons_succ,List.getElem_cons_zero,if_true,if_false,Bool.false_eq_true,↓reduceIte] at h1
 replace h1:=Go.Proofs.YtpkkmhpobfjclaaGreat.Nf.stand_oper good (fun i=>rfl) rfl rfl (by decide) (by rfl) (.inl rfl) (fun t d=>rfl) h1
 try simp only [Act.put,Act.eval,List.map_toArray,List.map_cons,List.map_nil,Array.getD_eq_getD_getElem?,List.getElem?_toArray,List.getElem?_cons_succ,List.getElem?_cons_zero,Option.getD_some,Option.bind_some,List.size_toArray,List.length_cons,List.length_nil,Nat.reduceAdd,Nat.reduceSub,Nat.zero_add,List.range,List.range.loop,Array.replicate_succ,Array.replicate_zero,List.push_toArray,List.append_toArray,List.nil_append,List.cons_append,List.setIfInBounds_toArray,List.set_cons_succ,List.set_cons_zero,List.getElem_toArray,List.getElem_cons_succ,List.getElem_cons_zero,if_true,if_false,Bool.false_eq_true,↓reduceIte] at h1
 replace h1:=Go.Proofs.YtpkkmhpobfjclaaGreat.Nf.stand_enter rfl rfl (by decide) rfl Tryz.func7 (by decide) rfl h1
 try simp only [Act.put,Act.eval,List.map_toArray,List.map_cons,List.map_nil,Array.getD_eq_getD_getElem?,List.getElem?_toArray,List.getElem?_cons_succ,List.getElem?_cons_zero,Option.getD_some,Option.bind_some,List.size_toArray,List.length_cons,List.length_nil,Nat.reduceAdd,Nat.reduceSub,Nat.zero_add,List.range,List.range.loop,Array.replicate_succ,Array.replicate_zero,List.push_toArray,List.append_toArray,List.nil_append,List.cons_append,List.setIfInBounds_toArray,List.set_cons_succ,List.set_cons_zero,List.getElem_toArray,List.getElem_cons_succ,List.getElem_cons_zero,if_true,if_false,Bool.false_eq_true,↓reduceIte] at h1
 obtain ⟨s2,t2,J2,v3,B3,h1,hW2,oE,oM,hb3,hB3⟩:=whole_stand p q L0 hG.ox.rd hI.short hl hlb h1
 obtain rfl:=hW2.unique hG.wh
 have hJ:=Rp.whl_small hG.wh
 rw [Go.Proofs.YtpkkmhpobfjclaaGreat.Nf.finish_mid rfl] at h1
 try simp only [Act.put,Act.eval,List.map_toArray,List.map_cons,List.map_nil,Array.getD_eq_getD_getElem?,List.getElem?_toArray,List.getElem?_cons_succ,List.getElem?_cons_zero,Option.getD_some,Option.bind_some,List.size_toArray,List.length_cons,List.length_nil,Nat.reduceAdd,Nat.reduceSub,Nat.zero_add,List.range,List.range.loop,Array.replicate_succ,Array.replicate_zero,List.push_toArray,List.append_toArray,List.nil_append,List.cons_append,List.setIfInBounds_toArray,List.set_cons_succ,List.set_cons_zero,List.getElem_toArray,List.getElem_cons_succ,List.getElem_cons_zero,if_true,if_false,Bool.false_eq_true,↓reduceIte] at h1
 obtain ⟨T4,v4,h2,b4',b6,m,lo',hi',lo2,hi2,s',t',s3,t3,J3,hT,hG4⟩:=Go.Proofs.YtpkkmhpobfjclaaGreat.Nf.stand_pieceM good quiets init3 (fun i=>rfl) (td:=[.inRegion ops7 (List.range' 2 (ops7.toList.drop 2).length),.code (cutN 11 (restN 7 body3))]) (td':=[.inRegion ops7 (List.range' 2 (ops7.toList.drop 2).length),.code (restN 7 body3)]) (r:=restN 18 body3) rfl (by
   intro x hx
   simp only [List.mem_cons,List.not_mem_nil,or_false] at hx
   rcases hx with rfl | rfl
   ·
    exact mid7
   ·
    exact code3c) ⟨[.inRegion ops7 (List.range' 2 (ops7.toList.drop 2).length)],cutN 11 (restN 7 body3),rfl,by kernel_rfl⟩ (F4.tape (a0:=a0) (m0:=L0.length) (cap0:=cap0) (L0:=L0) (W0:=W)) h1
  (fun k d=>Go.Proofs.YtpkkmhpobfjclaaGreat.Nf.hasEnd_mid (ops7.toList.drop 2) (drop_at ops7 2) (law_p3 a0 cap0 L0 W (on v3 k d) (hI.rd.bel (hG.be.trans (hb3.mono hG.be.size))).tape hl hI.short hbk (hG.bel hb3 k d) (Rp.Own1.of' oE oM hb3.size).tape hJ hG.ox.lo_le.2 (by have:=hG.x4.lt; omega) (fun i=>match i with
   | 21=>.slice p L0.length q
   | k=>u2 k)))
 replace h1:=h2
 clear h2
 obtain rfl:=hG4.wh.unique hG.wh
 generalize (fun i=>T4.getD i undef) = u4 at hT
 subst hT
 have hb4:=hG4.be
 simp only [restN,body3,Tryz.f3,Option.getD_some,S4] at h1
 replace h1:=Go.Proofs.YtpkkmhpobfjclaaGreat.Nf.stand_region (Go.Proofs.YtpkkmhpobfjclaaGreat.Nf.stand_seq h1)
 try simp only [Act.put,Act.eval,List.map_toArray,List.map_cons,List.map_nil,Array.getD_eq_getD_getElem?,List.getElem?_toArray,List.getElem?_cons_succ,List.getElem?_cons_zero,Option.getD_some,Option.bind_some,List.size_toArray,List.length_cons,List.length_nil,Nat.reduceAdd,Nat.reduceSub,Nat.zero_add,List.range,List.range.loop,Array.replicate_succ,Array.replicate_zero,List.push_toArray,List.append_toArray,List.nil_append,List.cons_append,List.setIfInBounds_toArray,List.set_cons_succ,List.set_cons_zero,List.getElem_toArray,List.getElem_cons_succ,List.getElem_cons_zero,if_true,if_false,Bool.false_eq_true,↓reduceIte] at h1
 replace h1:=Go.Proofs.YtpkkmhpobfjclaaGreat.Nf.stand_oper good (fun i=>rfl) rfl rfl (by decide) (by rfl) (.inl rfl) (fun t d=>rfl) h1
 try simp only [Act.put,Act.eval,List.map_toArray,List.map_cons,List.map_nil,Array.getD_eq_getD_getElem?,List.getElem?_toArray,List.getElem?_cons_succ,List.getElem?_cons_zero,Option.getD_some,Option.bind_some,List.size_toArray,List.length_cons,List.length_nil,Nat.reduceAdd,Nat.reduceSub,Nat.zero_add,List.range,List.range.loop,Array.replicate_succ,Array.replicate_zero,List.push_toArray,List.append_toArray,List.nil_append,List.cons_append,List.setIfInBounds_toArray,List.set_cons_succ,List.set_cons_zero,List.getElem_toArray,List.getElem_cons_succ,List.getElem_cons_zero,if_true,if_false,Bool.false_eq_true,↓reduceIte] at h1
 replace h1:=Go.Proofs.YtpkkmhpobfjclaaGreat.Nf.stand_enter rfl rfl (by decide) rfl Tryz.func6 (by decide) rfl h1
 try simp only [Act.put,Act.eval,List.map_toArray,List.map_cons,List.map_nil,Array.getD_eq_getD_getElem?,List.getElem?_toArray,List.getElem?_cons_succ,List.getElem?_cons_zero,Option.getD_some,Option.bind_some,List.size_toArray,List.length_cons,List.length_nil,Nat.reduceAdd,Nat.reduceSub,Nat.zero_add,List.range,List.range.loop,Array.replicate_succ,Array.replicate_zero,List.push_toArray,List.append_toArray,List.nil_append,List.cons_append,List.setIfInBounds_toArray,List.set_cons_succ,List.set_cons_zero,List.getElem_toArray,List.getElem_cons_succ,List.getElem_cons_zero,if_true,if_false,Bool.false_eq_true,↓reduceIte] at h1
 have hR4 : Rp.Rd v4 a0 L0:=hI.rd.bel hb4
 obtain ⟨val,v5,h2,lz,hz,hOz,hb5⟩:=Go.Proofs.YtpkkmhpobfjclaaGreat.Nf.stand_call good quiets (R:=fun val x=>∃ lo hi,Rp.Own x lo hi val L0 ∧ Bel v4.heap.size v4 x) (fun x w t d ⟨lo,hi,h1,h2⟩=>⟨lo,hi,h1.tape,h2.on v4.tape t v4.drawn d⟩) Tryz.func6 rfl (by kernel_rfl) (by kernel_rfl) (fun i=>rfl) h1
  (fun t d=>(Rp.toS_any a0 cap0 L0 (on v4 t d) hR4.tape (by omega) (by omega)).mono (fun e w' hz=>by
   obtain ⟨v,he,o,k⟩:=hz.out
   exact ⟨v,he,_,_,o,Rp.bel_from k⟩))
 obtain ⟨pz,qz,rfl,_⟩:=hOz.form
 rw [Go.Proofs.YtpkkmhpobfjclaaGreat.Nf.finish_mid rfl] at h2
 replace h1:=h2
 clear h2
 try simp only [Act.put,Act.eval,List.map_toArray,List.map_cons,List.map_nil,Array.getD_eq_getD_getElem?,List.getElem?_toArray,List.getElem?_cons_succ,List.getElem?_cons_zero,Option.getD_some,Option.bind_some,List.size_toArray,List.length_cons,List.length_nil,Nat.reduceAdd,Nat.reduceSub,Nat.zero_add,List.range,List.range.loop,Array.replicate_succ,Array.replicate_zero,List.push_toArray,List.append_toArray,List.nil_append,List.cons_append,List.setIfInBounds_toArray,List.set_cons_succ,List.set_cons_zero,List.getElem_toArray,List.getElem_cons_succ,List.getElem_cons_zero,if_true,if_false,Bool.false_eq_true,↓reduceIte] at h1
 replace h1:=Go.Proofs.YtpkkmhpobfjclaaGreat.Nf.stand_enter rfl rfl (by decide) rfl Tryz.func7 (by decide) rfl h1
 try simp only [Act.put,Act.eval,List.map_toArray,List.map_cons,List.map_nil,Array.getD_eq_getD_getElem?,List.getElem?_toArray,List.getElem?_cons_succ,List.getElem?_cons_zero,Option.getD_some,Option.bind_some,List.size_toArray,List.length_cons,List.length_nil,Nat.reduceAdd,Nat.reduceSub,Nat.zero_add,List.range,List.range.loop,Array.replicate_succ,Array.replicate_zero,List.push_toArray,List.append_toArray,List.nil_append,List.cons_append,List.setIfInBounds_toArray,List.set_cons_succ,List.set_cons_zero,List.getElem_toArray,List.getElem_cons_succ,List.getElem_cons_zero,if_true,if_false,Bool.false_eq_true,↓reduceIte] at h1
 obtain ⟨s5,t5,J5,v6,B6,h2,hW5,oE5,oM5,hb6,hB6⟩:=whole_stand pz qz L0 hOz.rd hI.short hl hlb h1
 obtain rfl:=hW5.unique hG.wh
 rw [Go.Proofs.YtpkkmhpobfjclaaGreat.Nf.finish_mid rfl] at h2
 replace h1:=h2
 clear h2
 try simp only [Act.put,Act.eval,List.map_toArray,List.map_cons,List.map_nil,Array.getD_eq_getD_getElem?,List.getElem?_toArray,List.getElem?_cons_succ,List.getElem?_cons_zero,Option.getD_some,Option.bind_some,List.size_toArray,List.length_cons,List.length_nil,Nat.reduceAdd,Nat.reduceSub,Nat.zero_add,List.range,List.range.loop,Array.replicate_succ,Array.replicate_zero,List.push_toArray,List.append_toArray,List.nil_append,List.cons_append,List.setIfInBounds_toArray,List.set_cons_succ,List.set_cons_zero,List.getElem_toArray,List.getElem_cons_succ,List.getElem_cons_zero,if_true,if_false,Bool.false_eq_true,↓reduceIte] at h1
 have hb56:=hb5.trans (hb6.mono hb5.size)
 obtain ⟨T7,l7,v7,h2,hT2,hb7⟩:=Go.Proofs.YtpkkmhpobfjclaaGreat.Nf.stand_pieceL good quiets init3 (fun i=>rfl) (td:=[.inRegion ops24 (List.range' 3 (ops24.toList.drop 3).length),.code (restN 19 body3)]) (by
   intro x hx
   simp only [List.mem_cons,List.not_mem_nil,or_false] at hx
   rcases hx with rfl | rfl
   ·
    exact mid24
   ·
    exact code3d) ⟨[.inRegion ops24 (List.range' 3 (ops24.toList.drop 3).length)],restN 19 body3,rfl,by kernel_rfl⟩ (F5.tape (W0:=W)) h1
  (fun k d=>Go.Proofs.YtpkkmhpobfjclaaGreat.Nf.hasEnd_mid (ops24.toList.drop 3) (drop_at ops24 3) (law_p4 a0 L0.length cap0 L0 W (on v6 k d) (hG4.bel hb56 k d) (Rp.Own1.of' oE5 oM5 hb6.size).tape hJ (fun i=>match i with
   | 54=>.slice a0 L0.length cap0
   | 55=>.slice pz L0.length qz
   | k=>u4 k)))
 exact Go.Proofs.YtpkkmhpobfjclaaGreat.Nf.stand_end (val:=.bool true) Tryz.func3 init3 h2 (by simp [results,Tryz.results3,hT2]) (HPOST _ _ (fun b hb=>by
  have n1:=hG.be.size
  have n2:=hb4.size
  have n3:=hb5.size
  rcases hB6 b hb with hb | hb
  ·
   rcases hB3 b hb with hb | hb
   ·
    exact hb.elim
   ·
    omega
  ·
   omega) hb7)
end Go.Proofs.YtpkkmhpobfjclaaGreat.Wl
