/- FnAround's law: what follows its call of impl.Whole. -/
import Derived.Test.YtkeapmmochpcfaaGreatBun26
set_option maxRecDepth 100000
set_option maxHeartbeats 32000000
set_option linter.unusedVariables false
namespace Go.Proofs.YtkeapmmochpcfaaGreat.An
open Go Go.Conc Go.ChangeShapes Go.WideShapes Go.ChangeAt Go.RowKit
open Nf (Stand Bel Pz cutN restN EndQ HasEnd on)
open Bo (Box)
open Vv (Sl sv hidIt)
set_option linter.unusedSimpArgs false
open Rc (BelowBy BelowBy.one wp_region_below calls_below calls_same)
def ops10 (fz : Func:=Tryz.f4) : Array Oper:=match restN 7 (body4 fz) with
 | .seq (.region _ o _) _=>o
 | _=>#[]
theorem drop_at (ops : Array Oper) (k j : Nat) : (ops.toList.drop k)[j]? = ops[k + j]?:=by rw [List.getElem?_drop,Array.getElem?_toList]
theorem tail_wp (a0 : Option Addr) (len0 cap0 : Nat) (W0 W : World) {p p2 : Option Addr} {m q q2 b6 : Nat} {s t : Sl} {L M : List Rp.Rep} {J : Rp.Rep} (ok : Rp.okG L = true) (hA : Rp.ArndR L M) (hJ : Rp.WhlR L J) (hM : M.length = m) (hc : m ≤ q2)
  (rM : Rp.Rd W p2 M) (hE : Rp.RdE W s J.1) (hMm : Rp.RdM W t J.2) (bx : Box W b6 #[sv s,sv t]) (be : Bel W0.heap.size W0 W) (u : Nat → Value) :
  (restN 8 body4).wp Tryz.prog (EndQ true (F5 W0)) ⟨#[.slice a0 len0 cap0,u 1,.bool false,.slice p m q,.slice p2 m q2,u 5,.pointer (some ⟨b6,0,none⟩),u 7,u 8,u 9,u 10,u 11,u 12,u 13,u 14,u 15,u 16,u 17,u 18,u 19,u 20,u 21,u 22,u 23,u 24,u 25,u 26,u 27,u 28,u 29,u 30,u 31,u 32,u 33,u 34,u 35,u 36,u 37,u 38,u 39,u 40,u 41,u 42,u 43,u 44,u 45,u 46,u 47,u 48,u 49,u 50,u 51,u 52,u 53,u 54,u 55,u 56,u 57,u 58,u 59,u 60,u 61,u 62,u 63],[]⟩ W:=by
 have sm:=Rp.Sm.arnd hA
 have hsz:=be.size
 have hm6 : m ≤ 6:=hM ▸ sm.n
 have HBU:=hidIt (fun i (hi : i < m)=>sm.one i (by omega))
 have HAT:=hidIt (fun i (hi : i < m)=>Rp.arnd_at ok hA hJ (i:=i) (by omega))
 have HAG:=hidIt (Rp.arnd_agR ok hA)
 have HAA:=hidIt (Rp.arnd_again ok hA)
 have HM:=hidIt hM
 have HR:=hidIt rM
 have HE:=hidIt hE
 have HMm:=hidIt hMm
 have BX:=hidIt bx
 have AI:=hidIt (fun V (r : Rp.Rd V p2 M)=>Rp.impl_Agreed p2 q2 M V r sm.s sm.l sm.lb (by omega))
 have CI:=hidIt (fun V (r : Rp.Rd V p2 M)=>Rp.impl_Around p2 q2 M V r sm.s sm.l sm.lb)
 have LG:=hidIt (fun V a' c' (r : Rp.Rd V p2 M) (r' : Rp.Rd V a' M)=>Rp.likeGroup_same a' p2 c' q2 M V r' r sm)
 have HF : Hid (∀ x T,T[2]? = some (.bool true) → Below W.heap.size W x → F5 W0 T x):=hidIt (fun x T h1 h2=>⟨h1,be.trans ((Bel.of h2).mono hsz)⟩)
 rw [HAG.out] at AI
 rw [hM] at AI CI LG
 clear ok hA hJ hM hc rM hE hMm bx be sm hsz HAG
 have hmm : ((m : Int) == (m : Int)) = true:=by simp
 generalize F5 W0 = FF at HF ⊢
 simp only [body4,restN,Tryz.f4,Option.getD_some]
 go_wp2_with (fail)
 go_loopw [7] (fun y wx=>∃ (i : Nat),y = .int .i64 i ∧ i ≤ m ∧ Hid (Below W.heap.size W wx)) (fun y _=>(m - intOf y).toNat)
 case atStart=>exact ⟨0,rfl,by omega,hidIt (Below.refl _ _)⟩
 case round =>
  obtain ⟨i,rfl,hi,HB⟩:=hrel
  by_cases hin : i < m
  ·
   have hin' : (i : Int) < (m : Int):=by omega
   have hi0 : (0 : Int) ≤ (i : Int):=by omega
   have hb1:=HBU.out i hin
   obtain ⟨b,off,x,y,rfl,c0,c1,rE,rM⟩:=(HR.out.kept HB.out).one (i:=i) (by rw [HM.out]; exact hin)
   have hat:=HAT.out i hin
   rw [hat] at rE rM hb1
   have CE:=hidIt (fun V (k : Below wr.heap.size wr V)=>Rp.likeReplica_same x y s t J V (rE.kept k) (rM.kept k) ((HE.out.kept HB.out).kept k) ((HMm.out.kept HB.out).kept k) (by omega))
   have d0:=(BX.out.kept HB.out).c 0 (v:=sv s) rfl
   have d1:=(BX.out.kept HB.out).c 1 (v:=sv t) rfl
   clear rE rM hb1 hat
   obtain ⟨x0,x1,x2⟩:=x
   obtain ⟨y0,y1,y2⟩:=y
   obtain ⟨s0,s1,s2⟩:=s
   obtain ⟨t0,t1,t2⟩:=t
   simp only [sv] at c0 c1 d0 d1 CE
   haveI:=BelowBy.one wr
   have f0:=fun p : BelowBy wr=>p.cell c0
   have f1:=fun p : BelowBy wr=>p.cell c1
   have g0:=fun p : BelowBy wr=>p.cell d0
   have g1:=fun p : BelowBy wr=>p.cell d1
   clear c0 c1 d0 d1
   go_wp2_with (fail)
   refine wp_region_below (by kernel_rfl) (by kernel_rfl) ?_
   repeat (go_big_quiet_step (first | (go_at_call 13; refine calls_below (CE.out _ (BelowBy.h _)))))
   refine wpQuiet_nil ?_
   intro _ hw'
   obtain ⟨pq,rfl⟩:=hw'
   have HB1:=hidIt (Rp.on HB.out pq.h)
   generalize pq.world = w2 at HB1 ⊢
   clear f0 f1 g0 g1
   go_wp2_with (fail)
   exact ⟨⟨i + 1,by simp,by omega,HB1⟩,by simp [intOf]; omega⟩
  ·
   have hin' : ¬ (i : Int) < (m : Int):=by omega
   replace HR:=hidIt (HR.out.kept HB.out)
   clear BX HE HMm HBU HAT
   go_wp2_with (fail)
   refine (AI.out _ HR.out).mono ?_
   rintro e w1 ⟨rfl,k⟩
   replace HR:=hidIt (HR.out.kept k)
   replace HB:=hidIt (HB.out.trans (k.mono HB.out.size))
   clear k AI
   go_wp2_with (fail)
   refine (CI.out _ HR.out).mono ?_
   intro e w2 hz
   obtain ⟨M',hA',hz⟩:=hz.out
   obtain ⟨v,rfl,o,k⟩:=hz.out
   obtain rfl:=hA'.unique HAA.out
   obtain ⟨p4,q4,rfl,_⟩:=o.formN HM.out
   have HO4:=hidIt o
   replace HR:=hidIt (HR.out.kept k)
   replace HB:=hidIt (HB.out.trans (k.mono HB.out.size))
   clear hz o k hA' CI
   go_wp2_with (fail)
   refine (LG.out _ p4 q4 HR.out HO4.out.rd).mono ?_
   rintro e w3 ⟨rfl,k⟩
   replace HB:=hidIt (HB.out.trans (k.mono HB.out.size))
   clear k LG HO4 HR
   go_wp2_with (fail)
   exact ⟨rfl,rfl,HF.out _ _ rfl HB.out⟩
theorem law_p2 (a0 : Option Addr) (len0 cap0 : Nat) (W0 W : World) {p p2 : Option Addr} {m q q2 : Nat} {s t : Sl} {L M : List Rp.Rep} {J : Rp.Rep} (ok : Rp.okG L = true) (hA : Rp.ArndR L M) (hJ : Rp.WhlR L J) (hM : M.length = m) (hc : m ≤ q2)
  (rM : Rp.Rd W p2 M) (hE : Rp.RdE W s J.1) (hMm : Rp.RdM W t J.2) (be : Bel W0.heap.size W0 W) (u : Nat → Value)
  (Kk : Act → World → Prop) (hK : ∀ a w,(restN 8 body4).wp Tryz.prog (EndQ true (F5 W0)) a w → Kk a w) :
  wpList Tryz.prog ops10 (Exit.then Kk (EndQ true (F5 W0))) (ops10.toList.drop 2) ⟨#[.slice a0 len0 cap0,u 1,.bool false,.slice p m q,.slice p2 m q2,u 5,u 6,u 7,u 8,u 9,u 10,u 11,u 12,u 13,u 14,u 15,u 16,u 17,u 18,u 19,u 20,u 21,u 22,u 23,u 24,u 25,u 26,u 27,u 28,u 29,u 30,u 31,u 32,u 33,u 34,.agg #[sv s,sv t],u 36,u 37,u 38,u 39,u 40,u 41,u 42,u 43,u 44,u 45,u 46,u 47,u 48,u 49,u 50,u 51,u 52,u 53,u 54,u 55,u 56,u 57,u 58,u 59,u 60,u 61,u 62,u 63],[]⟩ W:=by
 obtain ⟨s0,s1,s2⟩:=s
 obtain ⟨t0,t1,t2⟩:=t
 have ka : Below W.heap.size W (W.alloc (.cells #[.slice s0 s1 s2,.slice t0 t1 t2] 32)):=(Below.refl _ _).alloc (Nat.le_refl _) _
 have HT:=hidIt (fun (u : Nat → Value)=>tail_wp a0 len0 cap0 W0 (W.alloc (.cells #[.slice s0 s1 s2,.slice t0 t1 t2] 32)) (p:=p) (p2:=p2) (q:=q) (q2:=q2) (s:=(s0,s1,s2)) (t:=(t0,t1,t2)) ok hA hJ hM hc (rM.kept ka) (hE.kept ka) (hMm.kept ka) (Box.new W #[.slice s0 s1 s2,.slice t0 t1 t2] 32) (be.trans ((Bel.of ka).mono be.size)) u)
 have HK : Hid (∀ u : Nat → Value,Kk ⟨#[.slice a0 len0 cap0,u 1,.bool false,.slice p m q,.slice p2 m q2,u 5,.pointer (some ⟨W.heap.size,0,none⟩),u 7,u 8,u 9,u 10,u 11,u 12,u 13,u 14,u 15,u 16,u 17,u 18,u 19,u 20,u 21,u 22,u 23,u 24,u 25,u 26,u 27,u 28,u 29,u 30,u 31,u 32,u 33,u 34,u 35,u 36,u 37,u 38,u 39,u 40,u 41,u 42,u 43,u 44,u 45,u 46,u 47,u 48,u 49,u 50,u 51,u 52,u 53,u 54,u 55,u 56,u 57,u 58,u 59,u 60,u 61,u 62,u 63],[]⟩ (W.alloc (.cells #[.slice s0 s1 s2,.slice t0 t1 t2] 32))):=hidIt (fun (u : Nat → Value)=>hK _ _ (HT.out u))
 clear ok hA hJ hM hc rM hE hMm be ka HT hK
 generalize F5 W0 = FF
 simp only [sv]
 simp only [body4,restN,ops10,Tryz.f4,Option.getD_some,List.drop_succ_cons,List.drop_zero]
 go_wp2_with (fail)
 exact HK.out (fun i=>match i with
  | 35=>.agg #[.slice s0 s1 s2,.slice t0 t1 t2]
  | k=>u k)
end Go.Proofs.YtkeapmmochpcfaaGreat.An
namespace Go.Proofs.YtkeapmmochpcfaaGreat.An
open Go Go.Conc Go.ChangeShapes Go.WideShapes Go.ChangeAt Go.RowKit
open Nf (Stand Bel Pz cutN restN EndQ HasEnd on)
open Bo (Box)
open Vv (Sl sv hidIt)
set_option linter.unusedSimpArgs false
open Sd (K good quiets whole_stand)
theorem init4 : Tryz.prog.inits.idxOf? 4 = none:=by kernel_rfl
theorem code4a : Go.Proofs.YtkeapmmochpcfaaGreat.Nf.codeB K Tryz.prog 4 (cutN 6 body4) = true:=by kernel_rfl
theorem code4d : Go.Proofs.YtkeapmmochpcfaaGreat.Nf.codeB K Tryz.prog 4 (restN 8 body4) = true:=by kernel_rfl
theorem mid10 : Go.Proofs.YtkeapmmochpcfaaGreat.Nf.okItem K Tryz.prog 4 (.inRegion ops10 (List.range' 2 (ops10.toList.drop 2).length)):=fun i hi o ho=>by
 have h:=List.all_eq_true.1 (show (List.range' 2 (ops10.toList.drop 2).length).all (fun i=>(ops10[i]?).all (fun o=>Go.Proofs.YtkeapmmochpcfaaGreat.Nf.opB K Tryz.prog 4 o)) = true by kernel_rfl) i hi
 rw [ho] at h
 exact h
theorem same_bel (n : Nat) (W : World) (t : Go.Proofs.YtkeapmmochpcfaaGreat.Nf.Tp) (d : Nat) : Bel n W (on W t d):=⟨rfl,rfl,Nat.le_refl _,fun _ _=>rfl⟩
theorem code_tape {B : Nat} {W : World} {a : Option Addr} {len : Nat} (h : Dr.Code B W a len) (t : Go.Proofs.YtkeapmmochpcfaaGreat.Nf.Tp) (d : Nat) : Dr.Code B (on W t d) a len:=⟨h.cell⟩
theorem enter4 (a0 : Option Addr) (len0 cap0 : Nat) : Frame.enter Tryz.prog 4 #[.slice a0 len0 cap0] .normal = (base 4).at ⟨#[.slice a0 len0 cap0,undef,undef,undef,undef,undef,undef,undef,undef,undef,undef,undef,undef,undef,undef,undef,undef,undef,undef,undef,undef,undef,undef,undef,undef,undef,undef,undef,undef,undef,undef,undef,undef,undef,undef,undef,undef,undef,undef,undef,undef,undef,undef,undef,undef,undef,undef,undef,undef,undef,undef,undef,undef,undef,undef,undef,undef,undef,undef,undef,undef,undef,undef,undef],[]⟩ [.code body4]:=by
 rw [enter_at (fn:=Tryz.f4) (c:=body4) _ Tryz.func4 rfl]
 simp only [Tryz.ntmps4,List.size_toArray,List.length_cons,List.length_nil,Nat.reduceAdd,Nat.reduceSub,Array.replicate_succ,Array.replicate_zero,List.push_toArray,List.append_toArray,List.nil_append,List.cons_append]
theorem law_runs [Go.ConcR.Payload] (a0 : Option Addr) (len0 cap0 : Nat) (W : World) (hc : Dr.Code W.heap.size W a0 len0) :
  ∃ M last o w' t',runNT Tryz.prog (M + 1) (solo (G (Frame.enter Tryz.prog 4 #[.slice a0 len0 cap0] .normal) []) W) #[] = (.ended o w',t') ∧ runN Tryz.prog M (solo (G (Frame.enter Tryz.prog 4 #[.slice a0 len0 cap0] .normal) []) W) = .next last ∧
   step Tryz.prog last = .ended o w' ∧ Conc.Good Tryz.prog (fun v W'=>v = .bool true ∧ Bel W.heap.size W W') last o w' t':=by
 have h1:=Go.Proofs.YtkeapmmochpcfaaGreat.Nf.stand_start (P:=Tryz.prog) (G (Frame.enter Tryz.prog 4 #[.slice a0 len0 cap0] .normal) []) W
 generalize hm : solo (G (Frame.enter Tryz.prog 4 #[.slice a0 len0 cap0] .normal) []) W = M0 at h1 ⊢
 clear hm
 have HPOST : ∀ (B : Nat → Prop) (v : World),(∀ b,B b → W.heap.size ≤ b) → Bel W.heap.size W v → ∀ w',Pz B w' (on v w'.tape w'.drawn) → (Value.bool true = .bool true ∧ Bel W.heap.size W w'):=fun B v hB hb w' hz=>⟨rfl,hz.sys.1.symm.trans hb.os,hz.sys.2.symm.trans hb.output,by have:=hz.size; have:=hb.size; have h2 : (on v w'.tape w'.drawn).heap.size = v.heap.size:=rfl; omega,fun k hk=>((hz.heap k (fun hk2=>by have:=hB k hk2; omega)).symm.trans (hb.block k hk))⟩
 rw [enter4] at h1
 by_cases hbig : ¬ len0 ≤ 4096
 ·
  have hdb : decide (4096 < (len0 : Int)) = true:=by simp; omega
  simp only [body4,Tryz.f4,Option.getD_some] at h1
  replace h1:=Go.Proofs.YtkeapmmochpcfaaGreat.Nf.stand_region (Go.Proofs.YtkeapmmochpcfaaGreat.Nf.stand_seq h1)
  try simp only [Act.put,Act.eval,List.map_toArray,List.map_cons,List.map_nil,Array.getD_eq_getD_getElem?,List.getElem?_toArray,List.getElem?_cons_succ,List.getElem?_cons_zero,Option.getD_some,Option.bind_some,List.size_toArray,List.length_cons,List.length_nil,Nat.reduceAdd,Nat.reduceSub,Nat.zero_add,List.range,List.range.loop,Array.replicate_succ,Array.replicate_zero,List.push_toArray,List.append_toArray,List.nil_append,List.cons_append,List.setIfInBounds_toArray,List.set_cons_succ,List.set_cons_zero,List.getElem_toArray,List.getElem_cons_succ,List.getElem_cons_zero,if_true,if_false,Bool.false_eq_true,↓reduceIte] at h1
  replace h1:=Go.Proofs.YtkeapmmochpcfaaGreat.Nf.stand_oper good (fun i=>rfl) rfl rfl (by decide) (by rfl) (.inl rfl) (fun t d=>rfl) h1
  try simp only [Act.put,Act.eval,List.map_toArray,List.map_cons,List.map_nil,Array.getD_eq_getD_getElem?,List.getElem?_toArray,List.getElem?_cons_succ,List.getElem?_cons_zero,Option.getD_some,Option.bind_some,List.size_toArray,List.length_cons,List.length_nil,Nat.reduceAdd,Nat.reduceSub,Nat.zero_add,List.range,List.range.loop,Array.replicate_succ,Array.replicate_zero,List.push_toArray,List.append_toArray,List.nil_append,List.cons_append,List.setIfInBounds_toArray,List.set_cons_succ,List.set_cons_zero,List.getElem_toArray,List.getElem_cons_succ,List.getElem_cons_zero,if_true,if_false,Bool.false_eq_true,↓reduceIte] at h1
  replace h1:=Go.Proofs.YtkeapmmochpcfaaGreat.Nf.stand_region_end h1
  replace h1:=Go.Proofs.YtkeapmmochpcfaaGreat.Nf.stand_region (Go.Proofs.YtkeapmmochpcfaaGreat.Nf.stand_seq (Go.Proofs.YtkeapmmochpcfaaGreat.Nf.stand_seq h1))
  try simp only [Act.put,Act.eval,List.map_toArray,List.map_cons,List.map_nil,Array.getD_eq_getD_getElem?,List.getElem?_toArray,List.getElem?_cons_succ,List.getElem?_cons_zero,Option.getD_some,Option.bind_some,List.size_toArray,List.length_cons,List.length_nil,Nat.reduceAdd,Nat.reduceSub,Nat.zero_add,List.range,List.range.loop,Array.replicate_succ,Array.replicate_zero,List.push_toArray,List.append_toArray,List.nil_append,List.cons_append,List.setIfInBounds_toArray,List.set_cons_succ,List.set_cons_zero,List.getElem_toArray,List.getElem_cons_succ,List.getElem_cons_zero,if_true,if_false,Bool.false_eq_true,↓reduceIte] at h1
  replace h1:=Go.Proofs.YtkeapmmochpcfaaGreat.Nf.stand_oper good (fun i=>rfl) rfl rfl (by decide) (by rfl) (.inl rfl) (fun t d=>rfl) h1
  try simp only [Act.put,Act.eval,List.map_toArray,List.map_cons,List.map_nil,Array.getD_eq_getD_getElem?,List.getElem?_toArray,List.getElem?_cons_succ,List.getElem?_cons_zero,Option.getD_some,Option.bind_some,List.size_toArray,List.length_cons,List.length_nil,Nat.reduceAdd,Nat.reduceSub,Nat.zero_add,List.range,List.range.loop,Array.replicate_succ,Array.replicate_zero,List.push_toArray,List.append_toArray,List.nil_append,List.cons_append,List.setIfInBounds_toArray,List.set_cons_succ,List.set_cons_zero,List.getElem_toArray,List.getElem_cons_succ,List.getElem_cons_zero,if_true,if_false,Bool.false_eq_true,↓reduceIte] at h1
  replace h1:=Go.Proofs.YtkeapmmochpcfaaGreat.Nf.stand_enter rfl rfl (by decide) rfl Tryz.func5 (by decide) rfl h1
  try simp only [Act.put,Act.eval,List.map_toArray,List.map_cons,List.map_nil,Array.getD_eq_getD_getElem?,List.getElem?_toArray,List.getElem?_cons_succ,List.getElem?_cons_zero,Option.getD_some,Option.bind_some,List.size_toArray,List.length_cons,List.length_nil,Nat.reduceAdd,Nat.reduceSub,Nat.zero_add,List.range,List.range.loop,Array.replicate_succ,Array.replicate_zero,List.push_toArray,List.append_toArray,List.nil_append,List.cons_append,List.setIfInBounds_toArray,List.set_cons_succ,List.set_cons_zero,List.getElem_toArray,List.getElem_cons_succ,List.getElem_cons_zero,if_true,if_false,Bool.false_eq_true,↓reduceIte] at h1
  obtain ⟨val,v5,h2,rfl,hb5⟩:=Go.Proofs.YtkeapmmochpcfaaGreat.Nf.stand_call good quiets (R:=fun val x=>val = .bool true ∧ Bel W.heap.size W x) (fun x w t d ⟨h1,h2⟩=>⟨h1,h2.on W.tape t W.drawn d⟩) Tryz.func5 rfl (by kernel_rfl) (by kernel_rfl) (fun i=>rfl) h1
   (fun t d=>(Dr.big_any a0 len0 cap0 (on W t d)).mono (fun e w' hz=>by
    obtain ⟨he,hw⟩:=hz
    rw [hdb] at he
    exact ⟨_,he,rfl,by rw [hw]; exact same_bel _ _ _ _⟩))
  rw [Go.Proofs.YtkeapmmochpcfaaGreat.Nf.finish_mid rfl] at h2
  replace h1:=h2
  clear h2
  try simp only [Act.put,Act.eval,List.map_toArray,List.map_cons,List.map_nil,Array.getD_eq_getD_getElem?,List.getElem?_toArray,List.getElem?_cons_succ,List.getElem?_cons_zero,Option.getD_some,Option.bind_some,List.size_toArray,List.length_cons,List.length_nil,Nat.reduceAdd,Nat.reduceSub,Nat.zero_add,List.range,List.range.loop,Array.replicate_succ,Array.replicate_zero,List.push_toArray,List.append_toArray,List.nil_append,List.cons_append,List.setIfInBounds_toArray,List.set_cons_succ,List.set_cons_zero,List.getElem_toArray,List.getElem_cons_succ,List.getElem_cons_zero,if_true,if_false,Bool.false_eq_true,↓reduceIte] at h1
  replace h1:=Go.Proofs.YtkeapmmochpcfaaGreat.Nf.stand_region_end h1
  replace h1:=Go.Proofs.YtkeapmmochpcfaaGreat.Nf.stand_cond rfl h1
  try simp only [Act.put,Act.eval,List.map_toArray,List.map_cons,List.map_nil,Array.getD_eq_getD_getElem?,List.getElem?_toArray,List.getElem?_cons_succ,List.getElem?_cons_zero,Option.getD_some,Option.bind_some,List.size_toArray,List.length_cons,List.length_nil,Nat.reduceAdd,Nat.reduceSub,Nat.zero_add,List.range,List.range.loop,Array.replicate_succ,Array.replicate_zero,List.push_toArray,List.append_toArray,List.nil_append,List.cons_append,List.setIfInBounds_toArray,List.set_cons_succ,List.set_cons_zero,List.getElem_toArray,List.getElem_cons_succ,List.getElem_cons_zero,if_true,if_false,Bool.false_eq_true,↓reduceIte] at h1
  replace h1:=Go.Proofs.YtkeapmmochpcfaaGreat.Nf.stand_region (Go.Proofs.YtkeapmmochpcfaaGreat.Nf.stand_seq h1)
  try simp only [Act.put,Act.eval,List.map_toArray,List.map_cons,List.map_nil,Array.getD_eq_getD_getElem?,List.getElem?_toArray,List.getElem?_cons_succ,List.getElem?_cons_zero,Option.getD_some,Option.bind_some,List.size_toArray,List.length_cons,List.length_nil,Nat.reduceAdd,Nat.reduceSub,Nat.zero_add,List.range,List.range.loop,Array.replicate_succ,Array.replicate_zero,List.push_toArray,List.append_toArray,List.nil_append,List.cons_append,List.setIfInBounds_toArray,List.set_cons_succ,List.set_cons_zero,List.getElem_toArray,List.getElem_cons_succ,List.getElem_cons_zero,if_true,if_false,Bool.false_eq_true,↓reduceIte] at h1
  replace h1:=Go.Proofs.YtkeapmmochpcfaaGreat.Nf.stand_oper good (fun i=>rfl) rfl rfl (by decide) (by rfl) (.inl rfl) (fun t d=>rfl) h1
  try simp only [Act.put,Act.eval,List.map_toArray,List.map_cons,List.map_nil,Array.getD_eq_getD_getElem?,List.getElem?_toArray,List.getElem?_cons_succ,List.getElem?_cons_zero,Option.getD_some,Option.bind_some,List.size_toArray,List.length_cons,List.length_nil,Nat.reduceAdd,Nat.reduceSub,Nat.zero_add,List.range,List.range.loop,Array.replicate_succ,Array.replicate_zero,List.push_toArray,List.append_toArray,List.nil_append,List.cons_append,List.setIfInBounds_toArray,List.set_cons_succ,List.set_cons_zero,List.getElem_toArray,List.getElem_cons_succ,List.getElem_cons_zero,if_true,if_false,Bool.false_eq_true,↓reduceIte] at h1
  replace h1:=Go.Proofs.YtkeapmmochpcfaaGreat.Nf.stand_goret rfl (Go.Proofs.YtkeapmmochpcfaaGreat.Nf.stand_region_end h1)
  exact Go.Proofs.YtkeapmmochpcfaaGreat.Nf.stand_end (val:=.bool true) Tryz.func4 init4 h1 (by simp [results,Tryz.results4]) (HPOST _ _ (fun b hb=>hb.elim) hb5)
 have hl : len0 ≤ 4096:=by omega
 clear hbig
 obtain ⟨T1,v1,h1,p,m,q,p2,m2,q2,lo,hi,lo2,hi2,L,M,hT,hG⟩:=Go.Proofs.YtkeapmmochpcfaaGreat.Nf.stand_pieceM good quiets init4 (fun i=>rfl) (td:=[.code (cutN 6 body4)]) (td':=[.code body4]) (r:=restN 6 body4) rfl (by intro x hx; simp only [List.mem_singleton] at hx; subst hx; exact code4a) ⟨[],_,rfl,by kernel_rfl⟩ (F1.tape (a0:=a0) (len0:=len0) (cap0:=cap0) (W0:=W)) h1
  (fun t d=>Go.Proofs.YtkeapmmochpcfaaGreat.Nf.hasEnd_code (law_p1 a0 len0 cap0 W (on W t d) (code_tape hc t d) hl (same_bel _ _ _ _)))
 generalize (fun i=>T1.getD i undef) = u at hT
 subst hT
 obtain ⟨be1,om,oa,ml,ml2,mc2,har,sm⟩:=hG
 simp only [restN,body4,Tryz.f4,Option.getD_some,S1] at h1
 replace h1:=Go.Proofs.YtkeapmmochpcfaaGreat.Nf.stand_region (Go.Proofs.YtkeapmmochpcfaaGreat.Nf.stand_seq (Go.Proofs.YtkeapmmochpcfaaGreat.Nf.stand_seq h1))
 try simp only [Act.put,Act.eval,List.map_toArray,List.map_cons,List.map_nil,Array.getD_eq_getD_getElem?,List.getElem?_toArray,List.getElem?_cons_succ,List.getElem?_cons_zero,Option.getD_some,Option.bind_some,List.size_toArray,List.length_cons,List.length_nil,Nat.reduceAdd,Nat.reduceSub,Nat.zero_add,List.range,List.range.loop,Array.replicate_succ,Array.replicate_zero,List.push_toArray,List.append_toArray,List.nil_append,List.cons_append,List.setIfInBounds_toArray,List.set_cons_succ,List.set_cons_zero,List.getElem_toArray,List.getElem_cons_succ,List.getElem_cons_zero,if_true,if_false,Bool.false_eq_true,↓reduceIte] at h1
 replace h1:=Go.Proofs.YtkeapmmochpcfaaGreat.Nf.stand_oper good (fun i=>rfl) rfl rfl (by decide) (by rfl) (.inl rfl) (fun t d=>rfl) h1
 try simp only [Act.put,Act.eval,List.map_toArray,List.map_cons,List.map_nil,Array.getD_eq_getD_getElem?,List.getElem?_toArray,List.getElem?_cons_succ,List.getElem?_cons_zero,Option.getD_some,Option.bind_some,List.size_toArray,List.length_cons,List.length_nil,Nat.reduceAdd,Nat.reduceSub,Nat.zero_add,List.range,List.range.loop,Array.replicate_succ,Array.replicate_zero,List.push_toArray,List.append_toArray,List.nil_append,List.cons_append,List.setIfInBounds_toArray,List.set_cons_succ,List.set_cons_zero,List.getElem_toArray,List.getElem_cons_succ,List.getElem_cons_zero,if_true,if_false,Bool.false_eq_true,↓reduceIte] at h1
 replace h1:=Go.Proofs.YtkeapmmochpcfaaGreat.Nf.stand_enter rfl rfl (by decide) rfl Tryz.func12 (by decide) rfl h1
 try simp only [Act.put,Act.eval,List.map_toArray,List.map_cons,List.map_nil,Array.getD_eq_getD_getElem?,List.getElem?_toArray,List.getElem?_cons_succ,List.getElem?_cons_zero,Option.getD_some,Option.bind_some,List.size_toArray,List.length_cons,List.length_nil,Nat.reduceAdd,Nat.reduceSub,Nat.zero_add,List.range,List.range.loop,Array.replicate_succ,Array.replicate_zero,List.push_toArray,List.append_toArray,List.nil_append,List.cons_append,List.setIfInBounds_toArray,List.set_cons_succ,List.set_cons_zero,List.getElem_toArray,List.getElem_cons_succ,List.getElem_cons_zero,if_true,if_false,Bool.false_eq_true,↓reduceIte] at h1
 have CG:=fun V (r : Rp.Rd V p L)=>Rp.spec_GroupOk p q L V r sm.s sm.l sm.lb
 rw [ml] at CG
 obtain ⟨val,v2,h2,rfl,hb2⟩:=Go.Proofs.YtkeapmmochpcfaaGreat.Nf.stand_call good quiets (R:=fun val x=>val = .bool (Rp.okG L) ∧ Bel v1.heap.size v1 x) (fun x w t d ⟨h1,h2⟩=>⟨h1,h2.on v1.tape t v1.drawn d⟩) Tryz.func12 rfl (by kernel_rfl) (by kernel_rfl) (fun i=>rfl) h1
  (fun t d=>(CG (on v1 t d) om.tape.rd).mono (fun e w' hz=>⟨_,hz.1,rfl,Rp.bel_from hz.2⟩))
 rw [Go.Proofs.YtkeapmmochpcfaaGreat.Nf.finish_mid rfl] at h2
 replace h1:=h2
 clear h2
 try simp only [Act.put,Act.eval,List.map_toArray,List.map_cons,List.map_nil,Array.getD_eq_getD_getElem?,List.getElem?_toArray,List.getElem?_cons_succ,List.getElem?_cons_zero,Option.getD_some,Option.bind_some,List.size_toArray,List.length_cons,List.length_nil,Nat.reduceAdd,Nat.reduceSub,Nat.zero_add,List.range,List.range.loop,Array.replicate_succ,Array.replicate_zero,List.push_toArray,List.append_toArray,List.nil_append,List.cons_append,List.setIfInBounds_toArray,List.set_cons_succ,List.set_cons_zero,List.getElem_toArray,List.getElem_cons_succ,List.getElem_cons_zero,if_true,if_false,Bool.false_eq_true,↓reduceIte] at h1
 replace h1:=Go.Proofs.YtkeapmmochpcfaaGreat.Nf.stand_oper good (fun i=>rfl) rfl rfl (by decide) (by rfl) (v':=v2) (x:=.value (.bool (!Rp.okG L))) (.inl rfl) (fun t d=>by simp [execOp,go_sem,Act.eval]) h1
 try simp only [Act.put,Act.eval,List.map_toArray,List.map_cons,List.map_nil,Array.getD_eq_getD_getElem?,List.getElem?_toArray,List.getElem?_cons_succ,List.getElem?_cons_zero,Option.getD_some,Option.bind_some,List.size_toArray,List.length_cons,List.length_nil,Nat.reduceAdd,Nat.reduceSub,Nat.zero_add,List.range,List.range.loop,Array.replicate_succ,Array.replicate_zero,List.push_toArray,List.append_toArray,List.nil_append,List.cons_append,List.setIfInBounds_toArray,List.set_cons_succ,List.set_cons_zero,List.getElem_toArray,List.getElem_cons_succ,List.getElem_cons_zero,if_true,if_false,Bool.false_eq_true,↓reduceIte] at h1
 replace h1:=Go.Proofs.YtkeapmmochpcfaaGreat.Nf.stand_region_end h1
 have be2 : Bel W.heap.size W v2:=be1.trans (hb2.mono be1.size)
 cases ok : Rp.okG L with
 | false =>
  rw [har.no ok] at ml2
  subst ml2
  simp only [ok,Bool.not_false] at h1
  replace h1:=Go.Proofs.YtkeapmmochpcfaaGreat.Nf.stand_cond rfl h1
  try simp only [Act.put,Act.eval,List.map_toArray,List.map_cons,List.map_nil,Array.getD_eq_getD_getElem?,List.getElem?_toArray,List.getElem?_cons_succ,List.getElem?_cons_zero,Option.getD_some,Option.bind_some,List.size_toArray,List.length_cons,List.length_nil,Nat.reduceAdd,Nat.reduceSub,Nat.zero_add,List.range,List.range.loop,Array.replicate_succ,Array.replicate_zero,List.push_toArray,List.append_toArray,List.nil_append,List.cons_append,List.setIfInBounds_toArray,List.set_cons_succ,List.set_cons_zero,List.getElem_toArray,List.getElem_cons_succ,List.getElem_cons_zero,if_true,if_false,Bool.false_eq_true,↓reduceIte] at h1
  replace h1:=Go.Proofs.YtkeapmmochpcfaaGreat.Nf.stand_region (Go.Proofs.YtkeapmmochpcfaaGreat.Nf.stand_seq h1)
  try simp only [Act.put,Act.eval,List.map_toArray,List.map_cons,List.map_nil,Array.getD_eq_getD_getElem?,List.getElem?_toArray,List.getElem?_cons_succ,List.getElem?_cons_zero,Option.getD_some,Option.bind_some,List.size_toArray,List.length_cons,List.length_nil,Nat.reduceAdd,Nat.reduceSub,Nat.zero_add,List.range,List.range.loop,Array.replicate_succ,Array.replicate_zero,List.push_toArray,List.append_toArray,List.nil_append,List.cons_append,List.setIfInBounds_toArray,List.set_cons_succ,List.set_cons_zero,List.getElem_toArray,List.getElem_cons_succ,List.getElem_cons_zero,if_true,if_false,Bool.false_eq_true,↓reduceIte] at h1
  replace h1:=Go.Proofs.YtkeapmmochpcfaaGreat.Nf.stand_oper good (fun i=>rfl) rfl rfl (by decide) (by rfl) (.inl rfl) (fun t d=>rfl) h1
  try simp only [Act.put,Act.eval,List.map_toArray,List.map_cons,List.map_nil,Array.getD_eq_getD_getElem?,List.getElem?_toArray,List.getElem?_cons_succ,List.getElem?_cons_zero,Option.getD_some,Option.bind_some,List.size_toArray,List.length_cons,List.length_nil,Nat.reduceAdd,Nat.reduceSub,Nat.zero_add,List.range,List.range.loop,Array.replicate_succ,Array.replicate_zero,List.push_toArray,List.append_toArray,List.nil_append,List.cons_append,List.setIfInBounds_toArray,List.set_cons_succ,List.set_cons_zero,List.getElem_toArray,List.getElem_cons_succ,List.getElem_cons_zero,if_true,if_false,Bool.false_eq_true,↓reduceIte] at h1
  replace h1:=Go.Proofs.YtkeapmmochpcfaaGreat.Nf.stand_oper good (fun i=>rfl) rfl rfl (by decide) (by rfl) (v':=v2) (x:=.value (.int .i64 0)) (.inl rfl) (fun t d=>by simp [execOp,go_sem,Act.eval]) h1
  try simp only [Act.put,Act.eval,List.map_toArray,List.map_cons,List.map_nil,Array.getD_eq_getD_getElem?,List.getElem?_toArray,List.getElem?_cons_succ,List.getElem?_cons_zero,Option.getD_some,Option.bind_some,List.size_toArray,List.length_cons,List.length_nil,Nat.reduceAdd,Nat.reduceSub,Nat.zero_add,List.range,List.range.loop,Array.replicate_succ,Array.replicate_zero,List.push_toArray,List.append_toArray,List.nil_append,List.cons_append,List.setIfInBounds_toArray,List.set_cons_succ,List.set_cons_zero,List.getElem_toArray,List.getElem_cons_succ,List.getElem_cons_zero,if_true,if_false,Bool.false_eq_true,↓reduceIte] at h1
  replace h1:=Go.Proofs.YtkeapmmochpcfaaGreat.Nf.stand_oper good (fun i=>rfl) rfl rfl (by decide) (by rfl) (v':=v2) (x:=.value (.bool true)) (.inl rfl) (fun t d=>by simp [execOp,go_sem,Act.eval]) h1
  try simp only [Act.put,Act.eval,List.map_toArray,List.map_cons,List.map_nil,Array.getD_eq_getD_getElem?,List.getElem?_toArray,List.getElem?_cons_succ,List.getElem?_cons_zero,Option.getD_some,Option.bind_some,List.size_toArray,List.length_cons,List.length_nil,Nat.reduceAdd,Nat.reduceSub,Nat.zero_add,List.range,List.range.loop,Array.replicate_succ,Array.replicate_zero,List.push_toArray,List.append_toArray,List.nil_append,List.cons_append,List.setIfInBounds_toArray,List.set_cons_succ,List.set_cons_zero,List.getElem_toArray,List.getElem_cons_succ,List.getElem_cons_zero,if_true,if_false,Bool.false_eq_true,↓reduceIte] at h1
  replace h1:=Go.Proofs.YtkeapmmochpcfaaGreat.Nf.stand_oper good (fun i=>rfl) rfl rfl (by decide) (by rfl) (.inl rfl) (fun t d=>rfl) h1
  try simp only [Act.put,Act.eval,List.map_toArray,List.map_cons,List.map_nil,Array.getD_eq_getD_getElem?,List.getElem?_toArray,List.getElem?_cons_succ,List.getElem?_cons_zero,Option.getD_some,Option.bind_some,List.size_toArray,List.length_cons,List.length_nil,Nat.reduceAdd,Nat.reduceSub,Nat.zero_add,List.range,List.range.loop,Array.replicate_succ,Array.replicate_zero,List.push_toArray,List.append_toArray,List.nil_append,List.cons_append,List.setIfInBounds_toArray,List.set_cons_succ,List.set_cons_zero,List.getElem_toArray,List.getElem_cons_succ,List.getElem_cons_zero,if_true,if_false,Bool.false_eq_true,↓reduceIte] at h1
  replace h1:=Go.Proofs.YtkeapmmochpcfaaGreat.Nf.stand_goret rfl (Go.Proofs.YtkeapmmochpcfaaGreat.Nf.stand_region_end h1)
  exact Go.Proofs.YtkeapmmochpcfaaGreat.Nf.stand_end (val:=.bool true) Tryz.func4 init4 h1 (by simp [results,Tryz.results4]) (HPOST _ _ (fun b hb=>hb.elim) be2)
 | true =>
  simp only [ok,Bool.not_true] at h1
  replace h1:=Go.Proofs.YtkeapmmochpcfaaGreat.Nf.stand_cond rfl h1
  try simp only [Act.put,Act.eval,List.map_toArray,List.map_cons,List.map_nil,Array.getD_eq_getD_getElem?,List.getElem?_toArray,List.getElem?_cons_succ,List.getElem?_cons_zero,Option.getD_some,Option.bind_some,List.size_toArray,List.length_cons,List.length_nil,Nat.reduceAdd,Nat.reduceSub,Nat.zero_add,List.range,List.range.loop,Array.replicate_succ,Array.replicate_zero,List.push_toArray,List.append_toArray,List.nil_append,List.cons_append,List.setIfInBounds_toArray,List.set_cons_succ,List.set_cons_zero,List.getElem_toArray,List.getElem_cons_succ,List.getElem_cons_zero,if_true,if_false,Bool.false_eq_true,↓reduceIte] at h1
  replace h1:=Go.Proofs.YtkeapmmochpcfaaGreat.Nf.stand_skip h1
  replace h1:=Go.Proofs.YtkeapmmochpcfaaGreat.Nf.stand_region (Go.Proofs.YtkeapmmochpcfaaGreat.Nf.stand_seq h1)
  try simp only [Act.put,Act.eval,List.map_toArray,List.map_cons,List.map_nil,Array.getD_eq_getD_getElem?,List.getElem?_toArray,List.getElem?_cons_succ,List.getElem?_cons_zero,Option.getD_some,Option.bind_some,List.size_toArray,List.length_cons,List.length_nil,Nat.reduceAdd,Nat.reduceSub,Nat.zero_add,List.range,List.range.loop,Array.replicate_succ,Array.replicate_zero,List.push_toArray,List.append_toArray,List.nil_append,List.cons_append,List.setIfInBounds_toArray,List.set_cons_succ,List.set_cons_zero,List.getElem_toArray,List.getElem_cons_succ,List.getElem_cons_zero,if_true,if_false,Bool.false_eq_true,↓reduceIte] at h1
  replace h1:=Go.Proofs.YtkeapmmochpcfaaGreat.Nf.stand_oper good (fun i=>rfl) rfl rfl (by decide) (by rfl) (.inl rfl) (fun t d=>rfl) h1
  try simp only [Act.put,Act.eval,List.map_toArray,List.map_cons,List.map_nil,Array.getD_eq_getD_getElem?,List.getElem?_toArray,List.getElem?_cons_succ,List.getElem?_cons_zero,Option.getD_some,Option.bind_some,List.size_toArray,List.length_cons,List.length_nil,Nat.reduceAdd,Nat.reduceSub,Nat.zero_add,List.range,List.range.loop,Array.replicate_succ,Array.replicate_zero,List.push_toArray,List.append_toArray,List.nil_append,List.cons_append,List.setIfInBounds_toArray,List.set_cons_succ,List.set_cons_zero,List.getElem_toArray,List.getElem_cons_succ,List.getElem_cons_zero,if_true,if_false,Bool.false_eq_true,↓reduceIte] at h1
  replace h1:=Go.Proofs.YtkeapmmochpcfaaGreat.Nf.stand_enter rfl rfl (by decide) rfl Tryz.func8 (by decide) rfl h1
  try simp only [Act.put,Act.eval,List.map_toArray,List.map_cons,List.map_nil,Array.getD_eq_getD_getElem?,List.getElem?_toArray,List.getElem?_cons_succ,List.getElem?_cons_zero,Option.getD_some,Option.bind_some,List.size_toArray,List.length_cons,List.length_nil,Nat.reduceAdd,Nat.reduceSub,Nat.zero_add,List.range,List.range.loop,Array.replicate_succ,Array.replicate_zero,List.push_toArray,List.append_toArray,List.nil_append,List.cons_append,List.setIfInBounds_toArray,List.set_cons_succ,List.set_cons_zero,List.getElem_toArray,List.getElem_cons_succ,List.getElem_cons_zero,if_true,if_false,Bool.false_eq_true,↓reduceIte] at h1
  have hml2 : m2 = m:=by rw [← ml2,← ml]; exact Rp.arnd_len ok har
  subst hml2
  have om2 : Rp.Own v2 lo hi (.slice p m2 q) L:=om.bel hb2
  have oa2 : Rp.Own v2 lo2 hi2 (.slice p2 m2 q2) M:=oa.bel hb2
  subst ml
  obtain ⟨s,t,J,v3,B3,h1,hW3,oE,oM,hb3,hB3⟩:=whole_stand p q L om2.rd sm.s sm.l sm.lb h1
  rw [Go.Proofs.YtkeapmmochpcfaaGreat.Nf.finish_mid rfl] at h1
  try simp only [Act.put,Act.eval,List.map_toArray,List.map_cons,List.map_nil,Array.getD_eq_getD_getElem?,List.getElem?_toArray,List.getElem?_cons_succ,List.getElem?_cons_zero,Option.getD_some,Option.bind_some,List.size_toArray,List.length_cons,List.length_nil,Nat.reduceAdd,Nat.reduceSub,Nat.zero_add,List.range,List.range.loop,Array.replicate_succ,Array.replicate_zero,List.push_toArray,List.append_toArray,List.nil_append,List.cons_append,List.setIfInBounds_toArray,List.set_cons_succ,List.set_cons_zero,List.getElem_toArray,List.getElem_cons_succ,List.getElem_cons_zero,if_true,if_false,Bool.false_eq_true,↓reduceIte] at h1
  have be3 : Bel W.heap.size W v3:=be2.trans (hb3.mono be2.size)
  have oa3 : Rp.Own v3 lo2 hi2 (.slice p2 L.length q2) M:=oa2.bel hb3
  obtain ⟨T7,l7,v7,h2,hT2,hb7⟩:=Go.Proofs.YtkeapmmochpcfaaGreat.Nf.stand_pieceL good quiets init4 (fun i=>rfl) (td:=[.inRegion ops10 (List.range' 2 (ops10.toList.drop 2).length),.code (restN 8 body4)]) (by
    intro x hx
    simp only [List.mem_cons,List.not_mem_nil,or_false] at hx
    rcases hx with rfl | rfl
    ·
     exact mid10
    ·
     exact code4d) ⟨[.inRegion ops10 (List.range' 2 (ops10.toList.drop 2).length)],restN 8 body4,rfl,by kernel_rfl⟩ (F5.tape (W0:=W)) h1
   (fun k d=>Go.Proofs.YtkeapmmochpcfaaGreat.Nf.hasEnd_mid (ops10.toList.drop 2) (drop_at ops10 2) (law_p2 a0 len0 cap0 W (on v3 k d) ok har hW3 ml2 mc2 oa3.tape.rd (Rp.rdE_of oE).tape (Rp.rdM_of oM).tape (be3.on W.tape k W.drawn d) (fun i=>match i with
    | 28=>.slice p L.length q
    | 29=>.bool true
    | 30=>.bool false
    | 34=>.slice p L.length q
    | k=>u k)))
  exact Go.Proofs.YtkeapmmochpcfaaGreat.Nf.stand_end (val:=.bool true) Tryz.func4 init4 h2 (by simp [results,Tryz.results4,hT2]) (HPOST _ _ (fun b hb=>by
   have n1:=be2.size
   rcases hB3 b hb with hb | hb
   ·
    exact hb.elim
   ·
    omega) hb7)
end Go.Proofs.YtkeapmmochpcfaaGreat.An
