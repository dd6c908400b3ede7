/- The rest of impl.Whole: what all have said is taken as it comes. -/
import Derived.Test.YtpkkmhpobfjclaaGreatBun24
import Derived.Test.YtpkkmhpobfjclaaGreatBun19
set_option maxRecDepth 100000
set_option maxHeartbeats 32000000
set_option linter.unusedVariables false
namespace Go.Proofs.YtpkkmhpobfjclaaGreat.Sd
open Go Go.Conc Go.ChangeShapes Go.WideShapes Go.ChangeAt Go.RowKit
open Nf (Stand Bel Pz cutN restN EndQ HasEnd on wpB)
open Bo (Box)
open Vv (Sl sv hidIt)
structure Ac (L : List Rp.Rep) (n0 Ch n : Nat) (l : List Nat) (xs ys : Nat → Value) (tm : Bool) (W0 : World) (r j : Nat) (s t : Sl) (J : Rp.Rep) (w : World) : Prop where
 b2 : Box w n0 nil2
 b3 : Box w (n0 + 1) #[sv s,sv t]
 oE : En.Own w (n0 + 2) (sv s) J.1
 oM : Mm.Own w (n0 + 2) (sv t) J.2
 acc : Rp.Acc L (l.take j) J
 ch : w.heap[Ch]? = some (.chan n ((l.drop r).map fun i=>rep (xs i) (ys i)).toArray true n r tm)
 be : Below n0 W0 w
 gt : n0 + 2 ≤ Ch
section
variable {L : List Rp.Rep} {n0 Ch n : Nat} {l : List Nat} {xs ys : Nat → Value} {tm : Bool} {W0 : World} {r j : Nat} {s t : Sl} {J : Rp.Rep} {w : World}
theorem Ac.kept {w' : World} (h : Ac L n0 Ch n l xs ys tm W0 r j s t J w) (k : Below w.heap.size w w') : Ac L n0 Ch n l xs ys tm W0 r j s t J w':=by
 have hc : Ch < w.heap.size:=(Array.getElem?_eq_some_iff.1 h.ch).1
 have hb:=h.b3.lt
 exact ⟨h.b2.kept k,h.b3.kept k,h.oE.kept k,h.oM.kept k,h.acc,by rw [k.block Ch hc]; exact h.ch,h.be.trans (k.mono (by omega)),h.gt⟩
theorem chan_apart {C : Nat} {o : Obj} {e sz m b : Nat} {v : Value} {ys : List Value} (h : w.ownsRow b e sz v m ys) (hC : w.heap[C]? = some o) (ho : ∀ c e z,o ≠ .cells c e z) : ∀ g,v.ownBlock = some g → g ≠ C:=by
 intro g hg eg
 subst eg
 rcases h.2 with ⟨e1,_⟩ | ⟨x,cap,cur,e1,_,hx,_⟩
 ·
  rw [e1] at hg; cases hg
 ·
  rw [e1] at hg
  cases hg
  rw [hC] at hx
  cases hx
  exact ho _ _ _ rfl
theorem setChan_only (c cap : Nat) (buf : Array Value) (cl : Bool) (p q : Nat) (tm : Bool) (w : World) : Only c w (w.setChan c cap buf cl p q tm) :=
 ⟨rfl,rfl,rfl,by simp [World.setChan],fun k hk hne=>by simp [World.setChan,Array.getElem?_setIfInBounds_ne (Ne.symm hne)]⟩
theorem box_only {b c : Nat} {C : Array Value} {w w' : World} (h : Box w b C) (k : Only c w w') (hne : b ≠ c) : Box w' b C:=by
 have e:=k.block b h.lt hne
 refine ⟨Nat.lt_of_lt_of_le h.lt k.size,fun i=>?_,fun i=>?_⟩
 ·
  rw [← h.at' i]; unfold World.cell?; rw [e]
 ·
  rw [← h.fr i]; unfold World.frozen?; rw [e]
theorem Ac.recv (h : Ac L n0 Ch n l xs ys tm W0 r j s t J w) : Ac L n0 Ch n l xs ys tm W0 (r + 1) j s t J (w.setChan Ch n ((((l.drop r).map fun i=>rep (xs i) (ys i)).toArray).extract 1 (((l.drop r).map fun i=>rep (xs i) (ys i)).toArray).size) true n (r + 1) tm):=by
 have k:=setChan_only Ch n ((((l.drop r).map fun i=>rep (xs i) (ys i)).toArray).extract 1 (((l.drop r).map fun i=>rep (xs i) (ys i)).toArray).size) true n (r + 1) tm w
 have hgt:=h.gt
 have hc : Ch < w.heap.size:=(Array.getElem?_eq_some_iff.1 h.ch).1
 refine ⟨box_only h.b2 k (by omega),box_only h.b3 k (by omega),h.oE.only k (.inr (chan_apart h.oE h.ch (by intro c e z; simp))),h.oM.only k (.inr (chan_apart h.oM h.ch (by intro c e z; simp))),h.acc,?_,⟨k.os.trans h.be.os,k.tape.trans h.be.tape,k.output.trans h.be.output,Nat.le_trans h.be.size k.size,fun i hi=>?_⟩,h.gt⟩
 ·
  show (w.heap.setIfInBounds Ch _)[Ch]? = _
  rw [Array.getElem?_setIfInBounds_self_of_lt hc]
  congr 2
  rw [show r + 1 = 1 + r by omega,← List.drop_drop]
  simp [List.extract_toArray,List.map_drop]
  exact List.take_of_length_le (by simp; omega)
 ·
  rw [k.block i (by have:=h.b2.lt; omega) (by omega)]
  exact h.be.block i hi
theorem Ac.store {s' t' : Sl} {J' : Rp.Rep} (h : Ac L n0 Ch n l xs ys tm W0 r j s t J w) (h1 : En.Own w (n0 + 2) (sv s') J'.1) (h2 : Mm.Own w (n0 + 2) (sv t') J'.2) (ha : Rp.Acc L (l.take (j + 1)) J') :
  Ac L n0 Ch n l xs ys tm W0 r (j + 1) s' t' J' ((w.setCell ⟨n0 + 1,0,none⟩ (sv s')).setCell ⟨n0 + 1,1,none⟩ (sv t')):=by
 have k : Only (n0 + 1) w ((w.setCell ⟨n0 + 1,0,none⟩ (sv s')).setCell ⟨n0 + 1,1,none⟩ (sv t')):=((Only.refl (n0 + 1) w).setCell 0 (sv s')).setCell 1 (sv t')
 have hgt:=h.gt
 have hc : Ch < w.heap.size:=(Array.getElem?_eq_some_iff.1 h.ch).1
 refine ⟨box_only h.b2 k (by omega),(h.b3.put 0 (sv s') (by simp) rfl).put 1 (sv t') (by simp) (by simp),h1.only k (.inl (by omega)),h2.only k (.inl (by omega)),ha,?_,⟨k.os.trans h.be.os,k.tape.trans h.be.tape,k.output.trans h.be.output,Nat.le_trans h.be.size k.size,fun i hi=>?_⟩,h.gt⟩
 ·
  rw [k.block Ch hc (by omega)]; exact h.ch
 ·
  rw [k.block i (by have:=h.b2.lt; omega) (by omega)]
  exact h.be.block i hi
end
def loop7 (fz : Func:=Tryz.f7) : Code:=match restN 3 (body7 fz) with
 | .seq (.seq _ (.block _ (.loop c))) _=>c
 | c=>c
def fst : Code → Code
 | .seq a _=>a
 | c=>c
def snd : Code → Code
 | .seq _ b=>b
 | c=>c
def LI (a0 : Option Addr) (m cap : Nat) (L : List Rp.Rep) (n0 Ch n : Nat) (l : List Nat) (xs ys : Nat → Value) (tm : Bool) (W0 : World) (a : Act) (w : World) : Prop :=
 ∃ (j : Nat) (s t : Sl) (J : Rp.Rep) (u : Nat → Value),a = ⟨#[.slice a0 m cap,u 1,.pointer (some ⟨n0,0,none⟩),.pointer (some ⟨n0 + 1,0,none⟩),u 4,u 5,u 6,u 7,u 8,u 9,u 10,.chan (some Ch),u 12,u 13,u 14,u 15,u 16,u 17,u 18],[]⟩ ∧ j ≤ n ∧ Ac L n0 Ch n l xs ys tm W0 j j s t J w
def mu (Ch : Nat) (_ : Act) (w : World) : Nat:=match w.heap[Ch]? with
 | some (.chan _ b _ _ _ _)=>b.size
 | _=>0
theorem round7 {a0 : Option Addr} {m cap : Nat} {L : List Rp.Rep} {n0 Ch n : Nat} {l : List Nat} {S : List Vv.Rw} {tm : Bool} {W0 : World} {j i : Nat} {s t p q : Sl} {J : Rp.Rep} {w : World} {Q : Exit → Act → World → Prop} {u : Nat → Value} {K : Nat}
  (ok : Rp.okG L = true) (hl : ∀ i ∈ l,i < L.length) (hn : l.length = n) (hj : j < n) (hi : l[j]? = some i) (hS : Rp.RdC W0 a0 S L) (h0 : W0.heap.size = n0) (hp : (Vv.rat S i).1 = p) (hq : (Vv.rat S i).2 = q) (hK : K = n - j)
  (h : Ac L n0 Ch n l (fun i=>sv (Vv.rat S i).1) (fun i=>sv (Vv.rat S i).2) tm W0 (j + 1) j s t J w) :
  (snd loop7).wp Tryz.prog (Exit.then (fun a' w'=>LI a0 m cap L n0 Ch n l (fun i=>sv (Vv.rat S i).1) (fun i=>sv (Vv.rat S i).2) tm W0 a' w' ∧ mu Ch a' w' < K) Q)
   ⟨#[.slice a0 m cap,u 1,.pointer (some ⟨n0,0,none⟩),.pointer (some ⟨n0 + 1,0,none⟩),u 4,u 5,u 6,u 7,u 8,u 9,u 10,.chan (some Ch),.tuple #[.agg #[sv p,sv q],.bool true],.bool true,u 14,u 15,u 16,u 17,u 18],[]⟩ w:=by
 have hiL : i < L.length:=hl i (List.mem_of_getElem? hi)
 have rE : Rp.RdE W0 p (Rp.rat L i).1:=by rw [← hp]; exact hS.bk i hiL
 have rM : Rp.RdM W0 q (Rp.rat L i).2:=by rw [← hq]; exact hS.mb i hiL
 have htk : l.take (j + 1) = l.take j ++ [i]:=by rw [List.take_add_one,hi]; rfl
 have hlt : ∀ x ∈ l.take j,x < L.length:=fun x hx=>hl x (List.mem_of_mem_take hx)
 have HA:=hidIt h
 have okJ:=h.acc.ok ok hlt
 have okI : Rp.okR (Rp.rat L i) = true:=(Rp.okG_all ok).2.2.1 i hiL
 have hlen:=h.acc.len ok hlt hiL
 obtain ⟨s0,s1,s2⟩:=s
 obtain ⟨t0,t1,t2⟩:=t
 obtain ⟨p0,p1,p2⟩:=p
 obtain ⟨q0,q1,q2⟩:=q
 have CB : Hid (∀ W,Ac L n0 Ch n l (fun i=>sv (Vv.rat S i).1) (fun i=>sv (Vv.rat S i).2) tm W0 (j + 1) j (s0,s1,s2) (t0,t1,t2) J W → Calls Tryz.prog 19 #[.agg #[.slice s0 s1 s2,.slice t0 t1 t2],.agg #[.slice p0 p1 p2,.slice q0 q1 q2]] W fun e w'=>Rp.BotP J (Rp.rat L i) W e w'):=hidIt (fun W hW =>
  Rp.impl_bothOf (s0,s1,s2) (t0,t1,t2) (p0,p1,p2) (q0,q1,q2) J (Rp.rat L i) W (Rp.rdE_of hW.oE) (Rp.rdM_of hW.oM) (rE.kept (by rw [h0]; exact hW.be)) (rM.kept (by rw [h0]; exact hW.be)) (Rp.okR_short okJ) (Rp.okR_short okI) okJ okI hlen)
 have HF : Hid (∀ (x y : Sl) (J' : Rp.Rep) (W : World),Ac L n0 Ch n l (fun i=>sv (Vv.rat S i).1) (fun i=>sv (Vv.rat S i).2) tm W0 (j + 1) (j + 1) x y J' W → ∀ v4 v12 v13 v14 v15 v16 v17 : Value,LI a0 m cap L n0 Ch n l (fun i=>sv (Vv.rat S i).1) (fun i=>sv (Vv.rat S i).2) tm W0 ⟨#[.slice a0 m cap,u 1,.pointer (some ⟨n0,0,none⟩),.pointer (some ⟨n0 + 1,0,none⟩),v4,u 5,u 6,u 7,u 8,u 9,u 10,.chan (some Ch),v12,v13,v14,v15,v16,v17,u 18],[]⟩ W):=hidIt (fun x y J' W hW v4 v12 v13 v14 v15 v16 v17=>⟨j + 1,x,y,J',fun i=>match i with
  | 4=>v4
  | 12=>v12
  | 13=>v13
  | 14=>v14
  | 15=>v15
  | 16=>v16
  | 17=>v17
  | k=>u k,rfl,by omega,hW⟩)
 have HMU : Hid (∀ (x y : Sl) (J' : Rp.Rep) (W : World) (a : Act),Ac L n0 Ch n l (fun i=>sv (Vv.rat S i).1) (fun i=>sv (Vv.rat S i).2) tm W0 (j + 1) (j + 1) x y J' W → mu Ch a W < K):=hidIt (fun x y J' W a hW=>by
  unfold mu
  rw [hW.ch]
  simp
  omega)
 have HST:=hidIt htk
 clear h rE rM htk hS hp hq okJ okI hlen
 generalize LI a0 m cap L n0 Ch n l (fun i=>sv (Vv.rat S i).1) (fun i=>sv (Vv.rat S i).2) tm W0 = LQ at HF ⊢
 generalize mu Ch = MU at HMU ⊢
 generalize hx : (fun i=>sv (Vv.rat S i).1) = xs at HA CB HF HMU
 generalize hy : (fun i=>sv (Vv.rat S i).2) = ys at HA CB HF HMU
 clear hx hy
 have HA1 : Hid (Ac L n0 Ch n l xs ys tm W0 (j + 1) j (s0,s1,s2) (t0,t1,t2) J (w.alloc (.cells #[.slice p0 p1 p2,.slice q0 q1 q2] 27))):=hidIt (HA.out.kept ((Below.refl _ w).alloc (Nat.le_refl _) _))
 have c0:=HA1.out.b3.c 0 rfl
 have c1:=HA1.out.b3.c 1 rfl
 have bz:=HA1.out.b3.lt
 simp only [sv] at c0 c1 ⊢
 simp only [loop7,snd,restN,body7,Tryz.f7,Option.getD_some]
 go_wp2_with (fail)
 refine (CB.out _ HA1.out).mono ?_
 intro e w1 hz
 obtain ⟨⟨x0,x1,x2⟩,⟨y0,y1,y2⟩,J',rfl,oE,oM,e1,e2,kk⟩:=hz.out
 clear hz
 have hA2:=HA1.out.kept kk
 have hJ:=hA2.acc.step e1 e2
 rw [← HST.out] at hJ
 have HS:=hidIt (hA2.store (oE.mono (by omega)) (oM.mono (by omega)) hJ)
 have d0:=hA2.b3.c 0 rfl
 have f0:=hA2.b3.fr 0
 have b9:=hA2.b3.put 0 (.slice x0 x1 x2) (by simp) rfl
 have d1:=b9.c 1 rfl
 have f1:=b9.fr 1
 clear hA2 hJ oE oM e1 e2 kk c0 c1 b9 HA HA1 CB HST hi hiL hlt ok hl
 simp only [sv] at HS d0 d1 ⊢
 go_wp2_with (fail)
 exact ⟨HF.out _ _ _ _ HS.out _ _ _ _ _ _ _,HMU.out _ _ _ _ _ HS.out⟩
def W2F (L : List Rp.Rep) (v : World) (T : Array Value) (x : World) : Prop :=
 ∃ (s t : Sl) (J : Rp.Rep),Rp.WhlR L J ∧ (results Tryz.f7 T).run Tryz.prog x = .ok (.agg #[sv s,sv t]) x ∧ En.Own x v.heap.size (sv s) J.1 ∧ Mm.Own x v.heap.size (sv t) J.2 ∧ Bel v.heap.size v x
theorem W2F.tape {L : List Rp.Rep} {v : World} : ∀ (T : Array Value) (x : World) (t : Go.Proofs.YtpkkmhpobfjclaaGreat.Nf.Tp) (d : Nat),W2F L v T x → W2F L v T (on x t d) :=
 fun T x t d ⟨s,q,J,h1,h2,h3,h4,h5⟩=>⟨s,q,J,h1,Go.Proofs.YtpkkmhpobfjclaaGreat.Nf.results_on h2 t d,h3,h4,h5.on v.tape t v.drawn d⟩
theorem recv_run {a : Act} {o : Oper} {w : World} {x : Operand} {Ch : Nat} (hop : o.op = .recv 43 x true) (hx : a.eval x = .chan (some Ch)) : (execOp a.eval o).run Tryz.prog w = .ok (.comm #[rcase Ch (.agg nil2)] true (.recv true)) w:=by
 unfold execOp
 simp only [hop,hx]
 simp [go_sem,rcase]
 rfl
def tail7 (fz : Func:=Tryz.f7) : Code:=snd (restN 3 (body7 fz))
theorem loop7_eq : loop7 = .seq (fst loop7) (snd loop7):=by simp only [loop7,fst,snd,restN,body7,Tryz.f7,Option.getD_some]
theorem tail7_wp {a0 : Option Addr} {m cap : Nat} {L : List Rp.Rep} {n0 Ch n : Nat} {l : List Nat} {xs ys : Nat → Value} {tm : Bool} {v : World} {t' : Go.Proofs.YtpkkmhpobfjclaaGreat.Nf.Tp} {d' : Nat} {r j : Nat} {s t : Sl} {J : Rp.Rep} {w : World} {u : Nat → Value}
  (h0 : v.heap.size = n0) (hW : Rp.WhlR L J) (h : Ac L n0 Ch n l xs ys tm (on v t' d') r j s t J w) :
  tail7.wp Tryz.prog (EndQ true (W2F L v)) ⟨#[.slice a0 m cap,u 1,.pointer (some ⟨n0,0,none⟩),.pointer (some ⟨n0 + 1,0,none⟩),u 4,u 5,u 6,u 7,u 8,u 9,u 10,.chan (some Ch),u 12,u 13,u 14,u 15,u 16,u 17,u 18],[]⟩ w:=by
 have HA:=hidIt h
 obtain ⟨s0,s1,s2⟩:=s
 obtain ⟨t0,t1,t2⟩:=t
 have c0:=h.b3.c 0 rfl
 have c1:=h.b3.c 1 rfl
 have d0:=h.b2.c 0 rfl
 have f0:=h.b2.fr 0
 have b9:=h.b2.put 0 (.slice s0 s1 s2) (by simp [nil2]) rfl
 have d1:=b9.c 1 rfl
 have f1:=b9.fr 1
 have bT:=b9.put 1 (.slice t0 t1 t2) (by simp [nil2]) rfl
 have r0:=bT.c 0 rfl
 have r1:=bT.c 1 rfl
 clear h b9 bT
 have HW:=hidIt hW
 clear hW
 simp only [sv,nil2] at c0 c1 d0 d1 r0 r1
 simp only [tail7,snd,restN,body7,Tryz.f7,Option.getD_some]
 go_wp2_with (fail)
 have k : Only n0 w ((w.setCell ⟨n0,0,none⟩ (.slice s0 s1 s2)).setCell ⟨n0,1,none⟩ (.slice t0 t1 t2)):=((Only.refl n0 w).setCell 0 _).setCell 1 _
 have be:=HA.out.be
 have hsz:=HA.out.b2.lt
 refine ⟨rfl,rfl,(s0,s1,s2),(t0,t1,t2),J,HW.out,by simp [results,Tryz.results7,go_sem,r0,r1,sv],(HA.out.oE.only k (.inl (by omega))).mono (by omega),(HA.out.oM.only k (.inl (by omega))).mono (by omega),⟨k.os.trans be.os,k.output.trans be.output,Nat.le_trans be.size k.size,fun i hi=>?_⟩⟩
 rw [k.block i (by omega) (by omega)]
 exact be.block i (by omega)
theorem rest7_wp {a0 : Option Addr} {m cap : Nat} {L : List Rp.Rep} {n0 Ch n : Nat} {l : List Nat} {S : List Vv.Rw} {tm : Bool} {v : World} {t' : Go.Proofs.YtpkkmhpobfjclaaGreat.Nf.Tp} {d' : Nat} {w : World} {u : Nat → Value}
  (h0 : v.heap.size = n0) (ok : Rp.okG L = true) (hp : l.Perm (List.range L.length)) (hL : L.length = n) (hS : Rp.RdC (on v t' d') a0 S L)
  (h : Ac L n0 Ch n l (fun i=>sv (Vv.rat S i).1) (fun i=>sv (Vv.rat S i).2) tm (on v t' d') 0 0 (none,0,0) (none,0,0) ([],[]) w) :
  wpB Tryz.prog (base 7) (.seq (.block 0 (.loop loop7)) tail7) (EndQ true (W2F L v)) ⟨#[.slice a0 m cap,u 1,.pointer (some ⟨n0,0,none⟩),.pointer (some ⟨n0 + 1,0,none⟩),u 4,u 5,u 6,u 7,u 8,u 9,u 10,.chan (some Ch),u 12,u 13,u 14,u 15,u 16,u 17,u 18],[]⟩ w:=by
 have hln : l.length = n:=by rw [hp.length_eq,List.length_range,hL]
 have hl : ∀ i ∈ l,i < L.length:=fun i hi=>List.mem_range.1 (hp.mem_iff.1 hi)
 refine Go.Proofs.YtpkkmhpobfjclaaGreat.Nf.wpB_seq (Go.Proofs.YtpkkmhpobfjclaaGreat.Nf.wpB_block (Go.Proofs.YtpkkmhpobfjclaaGreat.Nf.wpB_loop (LI a0 m cap L n0 Ch n l (fun i=>sv (Vv.rat S i).1) (fun i=>sv (Vv.rat S i).2) tm (on v t' d')) (mu Ch) ⟨0,_,_,_,u,rfl,Nat.zero_le _,h⟩ ?_))
 rintro a w ⟨j,s,t,J,u,rfl,hjn,hA⟩
 rw [loop7_eq]
 by_cases hj : j < n
 ·
  have hi : l[j]? = some l[j]:=List.getElem?_eq_getElem (by omega)
  have hmu : ∀ a,mu Ch a w = n - j:=fun a=>by unfold mu; rw [hA.ch]; simp; omega
  have hbuf : ((l.drop j).map fun i=>rep (sv (Vv.rat S i).1) (sv (Vv.rat S i).2)).toArray.getD 0 undef = rep (sv (Vv.rat S l[j]).1) (sv (Vv.rat S l[j]).2):=by
   rw [Array.getD_eq_getD_getElem?]
   simp [hi]
  refine Go.Proofs.YtpkkmhpobfjclaaGreat.Nf.wpB_seq ?_
  refine Go.Proofs.YtpkkmhpobfjclaaGreat.Nf.wpB_recv (o := { dst := some 12, op := .recv 43 (.tmp 11) true, type := 0, pos := "l13_gossip.go:123", after := #[], guard := none }) (l := [{ dst := some 13, op := .extract (.tmp 12) 1, type := 4, pos := "l13_gossip.go:123", after := #[{ on := 0, ground := .data }], guard := none }]) (by decide) rfl (recv_run rfl rfl) hA.ch (by simp; omega) ?_
  rw [hbuf]
  have hA2:=hA.recv
  have HR:=fun Q u=>round7 (a0:=a0) (m:=m) (cap:=cap) (Q:=Q) (u:=u) ok hl hln hj hi hS h0 rfl rfl rfl hA2
  generalize w.setChan Ch n _ true n (j + 1) tm = w2 at HR ⊢
  simp only [hmu]
  generalize Exit.inBlock 0 (Exit.then (wpB Tryz.prog (base 7) tail7 (EndQ true (W2F L v))) (EndQ true (W2F L v))) = Q0
  replace HR:=HR Q0
  generalize hq : (Exit.then (fun a' w'=>LI a0 m cap L n0 Ch n l (fun i=>sv (Vv.rat S i).1) (fun i=>sv (Vv.rat S i).2) tm (on v t' d') a' w' ∧ mu Ch a' w' < n - j) Q0) = Q1 at HR ⊢
  clear hq hA hA2 h hbuf hmu
  generalize (Vv.rat S l[j]).1 = p at HR ⊢
  generalize (Vv.rat S l[j]).2 = q at HR ⊢
  simp only [Act.put,List.setIfInBounds_toArray,List.set_cons_succ,List.set_cons_zero,rep]
  go_wp2_with (fail)
  exact Go.Proofs.YtpkkmhpobfjclaaGreat.Nf.wpB_of (HR _)
 ·
  have ej : j = n:=by omega
  subst ej
  have hch:=hA.ch
  rw [List.drop_of_length_le (by omega),List.map_nil] at hch
  have HT:=fun u=>tail7_wp (a0:=a0) (m:=m) (cap:=cap) (u:=u) h0 (hA.acc.whl ok (by rw [List.take_of_length_le (by omega)]; exact hp)) hA
  refine Go.Proofs.YtpkkmhpobfjclaaGreat.Nf.wpB_seq ?_
  refine Go.Proofs.YtpkkmhpobfjclaaGreat.Nf.wpB_recv0 (o := { dst := some 12, op := .recv 43 (.tmp 11) true, type := 0, pos := "l13_gossip.go:123", after := #[], guard := none }) (l := [{ dst := some 13, op := .extract (.tmp 12) 1, type := 4, pos := "l13_gossip.go:123", after := #[{ on := 0, ground := .data }], guard := none }]) (by decide) rfl (recv_run rfl rfl) hch ?_
  have hx : ∀ (R : Act → World → Prop) a' w',tail7.wp Tryz.prog (EndQ true (W2F L v)) a' w' → (Exit.then R (Exit.inBlock 0 (Exit.then (wpB Tryz.prog (base 7) tail7 (EndQ true (W2F L v))) (EndQ true (W2F L v))))) (.exit 0) a' w':=fun R a' w' h=>Go.Proofs.YtpkkmhpobfjclaaGreat.Nf.wpB_of h
  have hx2:=hx (fun a' w'=>LI a0 m cap L n0 Ch j l (fun i=>sv (Vv.rat S i).1) (fun i=>sv (Vv.rat S i).2) tm (on v t' d') a' w' ∧ mu Ch a' w' < mu Ch ⟨#[.slice a0 m cap,u 1,.pointer (some ⟨n0,0,none⟩),.pointer (some ⟨n0 + 1,0,none⟩),u 4,u 5,u 6,u 7,u 8,u 9,u 10,.chan (some Ch),u 12,u 13,u 14,u 15,u 16,u 17,u 18],[]⟩ w)
  clear hx
  generalize (Exit.then (fun a' w'=>LI a0 m cap L n0 Ch j l (fun i=>sv (Vv.rat S i).1) (fun i=>sv (Vv.rat S i).2) tm (on v t' d') a' w' ∧ mu Ch a' w' < mu Ch _ w) (Exit.inBlock 0 (Exit.then (wpB Tryz.prog (base 7) tail7 (EndQ true (W2F L v))) (EndQ true (W2F L v))))) = Q1 at hx2 ⊢
  clear hch hA h hp ok hS hl hln hL hj hjn
  simp only [Act.put,List.setIfInBounds_toArray,List.set_cons_succ,List.set_cons_zero]
  go_wp2_with (fail)
  refine Go.Proofs.YtpkkmhpobfjclaaGreat.Nf.wpB_of ?_
  simp only [loop7,snd,restN,body7,Tryz.f7,Option.getD_some]
  go_wp2_with (fail)
  exact HT (fun i=>match i with
   | 12=>.tuple #[.agg nil2,.bool false]
   | 13=>.bool false
   | k=>u k)
end Go.Proofs.YtpkkmhpobfjclaaGreat.Sd
namespace Go.Proofs.YtpkkmhpobfjclaaGreat.Sd
open Go Go.Conc Go.ChangeShapes Go.WideShapes Go.ChangeAt Go.RowKit
open Nf (Stand Bel Pz cutN restN EndQ HasEnd on wpB)
open Bo (Box)
open Vv (Sl sv hidIt)
set_option linter.unusedSimpArgs false
theorem whole_stand [Go.ConcR.Payload] {m0 : Machine} {B : Nat → Prop} {c : Frame} {cs : List Frame} {v : World} (a : Option Addr) (cap : Nat) (L : List Rp.Rep) (hR : Rp.Rd v a L) (hs : Rp.Short L) (hl : L.length ≤ 9223372036854775807) (hlb : ∀ i,i < L.length → (Rp.rat L i).1.length ≤ 9223372036854775807 ∧ (Rp.rat L i).2.length ≤ 9223372036854775807)
  (h : Stand Tryz.prog m0 B (G (Frame.enter Tryz.prog 7 #[.slice a L.length cap] .normal) (c :: cs)) v) :
  ∃ (s t : Sl) (J : Rp.Rep) (v' : World) (B' : Nat → Prop),Stand Tryz.prog m0 B' (G (c.finish (.agg #[sv s,sv t])) cs) v' ∧ Rp.WhlR L J ∧ En.Own v' v.heap.size (sv s) J.1 ∧ Mm.Own v' v.heap.size (sv t) J.2 ∧ Bel v.heap.size v v' ∧ ∀ b,B' b → B b ∨ v.heap.size ≤ b:=by
 rw [enter_whole] at h
 obtain ⟨T1,v1,h1,u,rfl,hb1,hs1,bx0,bx1⟩:=Go.Proofs.YtpkkmhpobfjclaaGreat.Nf.stand_pieceM good quiets init7 (fun i=>rfl) (td:=[.code (cutN 2 body7)]) (r:=restN 2 body7) rfl (by intro x hx; simp only [List.mem_singleton] at hx; subst hx; exact code7a) ⟨[],_,rfl,rfl⟩ W0F.tape h (fun t d=>Go.Proofs.YtpkkmhpobfjclaaGreat.Nf.hasEnd_code (whole_p0 a L.length cap v t d))
 simp only [restN,body7,Tryz.f7,Option.getD_some] at h1
 replace h1:=Go.Proofs.YtpkkmhpobfjclaaGreat.Nf.stand_region (Go.Proofs.YtpkkmhpobfjclaaGreat.Nf.stand_seq (Go.Proofs.YtpkkmhpobfjclaaGreat.Nf.stand_seq h1))
 simp only [List.size_toArray,List.length_cons,List.length_nil,Nat.reduceAdd,Nat.zero_add,List.range,List.range.loop] at h1
 replace h1:=Go.Proofs.YtpkkmhpobfjclaaGreat.Nf.stand_oper good (fun i=>rfl) rfl rfl (by decide) (by rfl) (.inl rfl) (fun t d=>rfl) h1
 try simp only [Act.put,Act.eval,List.map_toArray,List.map_cons,List.map_nil,Array.getD_eq_getD_getElem?,List.getElem?_toArray,List.getElem?_cons_succ,List.getElem?_cons_zero,Option.getD_some,Option.bind_some,List.size_toArray,List.length_cons,List.length_nil,Nat.reduceAdd,Nat.reduceSub,Nat.zero_add,List.range,List.range.loop,Array.replicate_succ,Array.replicate_zero,List.push_toArray,List.append_toArray,List.nil_append,List.cons_append,List.setIfInBounds_toArray,List.set_cons_succ,List.set_cons_zero,List.getElem_toArray,List.getElem_cons_succ,List.getElem_cons_zero] at h1
 replace h1:=Go.Proofs.YtpkkmhpobfjclaaGreat.Nf.stand_enter rfl rfl (by decide) rfl Tryz.func17 (by decide) rfl h1
 try simp only [Act.put,Act.eval,List.map_toArray,List.map_cons,List.map_nil,Array.getD_eq_getD_getElem?,List.getElem?_toArray,List.getElem?_cons_succ,List.getElem?_cons_zero,Option.getD_some,Option.bind_some,List.size_toArray,List.length_cons,List.length_nil,Nat.reduceAdd,Nat.reduceSub,Nat.zero_add,List.range,List.range.loop,Array.replicate_succ,Array.replicate_zero,List.push_toArray,List.append_toArray,List.nil_append,List.cons_append,List.setIfInBounds_toArray,List.set_cons_succ,List.set_cons_zero,List.getElem_toArray,List.getElem_cons_succ,List.getElem_cons_zero] at h1
 have hR1 : Rp.Rd v1 a L:=hR.bel hb1
 obtain ⟨val,v2,h2,rfl,hb2⟩:=Go.Proofs.YtpkkmhpobfjclaaGreat.Nf.stand_call good quiets (R:=fun val x=>val = .bool (Rp.okG L) ∧ Bel v1.heap.size v1 x) (fun x w t d ⟨h1,h2⟩=>⟨h1,h2.on v1.tape t v1.drawn d⟩) Tryz.func17 rfl (by kernel_rfl) (by kernel_rfl) (fun i=>rfl) h1
  (fun t d=>(Rp.impl_GroupOk a cap L (on v1 t d) hR1.tape hs hl hlb).mono (fun e w' hz=>⟨_,hz.1,rfl,Rp.bel_from hz.2⟩))
 rw [Go.Proofs.YtpkkmhpobfjclaaGreat.Nf.finish_mid rfl] at h2
 clear h1
 have h1:=h2
 clear h2
 have hb3:=hb1.trans (hb2.mono (by have:=hb1.size; omega))
 have bx0':=Rp.box_bel bx0 hb2
 have bx1':=Rp.box_bel bx1 hb2
 have hn2 : v1.heap.size ≤ v2.heap.size:=hb2.size
 try simp only [Act.put,Act.eval,List.map_toArray,List.map_cons,List.map_nil,Array.getD_eq_getD_getElem?,List.getElem?_toArray,List.getElem?_cons_succ,List.getElem?_cons_zero,Option.getD_some,Option.bind_some,List.size_toArray,List.length_cons,List.length_nil,Nat.reduceAdd,Nat.reduceSub,Nat.zero_add,List.range,List.range.loop,Array.replicate_succ,Array.replicate_zero,List.push_toArray,List.append_toArray,List.nil_append,List.cons_append,List.setIfInBounds_toArray,List.set_cons_succ,List.set_cons_zero,List.getElem_toArray,List.getElem_cons_succ,List.getElem_cons_zero] at h1
 cases ok : Rp.okG L with
 | false =>
  rw [ok] at h1
  replace h1:=Go.Proofs.YtpkkmhpobfjclaaGreat.Nf.stand_oper good (fun i=>rfl) rfl rfl (by decide) (by rfl) (.inl rfl) (fun t d=>rfl) h1
  try simp only [Act.put,Act.eval,List.map_toArray,List.map_cons,List.map_nil,Array.getD_eq_getD_getElem?,List.getElem?_toArray,List.getElem?_cons_succ,List.getElem?_cons_zero,Option.getD_some,Option.bind_some,List.size_toArray,List.length_cons,List.length_nil,Nat.reduceAdd,Nat.reduceSub,Nat.zero_add,List.range,List.range.loop,Array.replicate_succ,Array.replicate_zero,List.push_toArray,List.append_toArray,List.nil_append,List.cons_append,List.setIfInBounds_toArray,List.set_cons_succ,List.set_cons_zero,List.getElem_toArray,List.getElem_cons_succ,List.getElem_cons_zero,if_true,if_false,Bool.false_eq_true,↓reduceIte] at h1
  replace h1:=Go.Proofs.YtpkkmhpobfjclaaGreat.Nf.stand_cond rfl (Go.Proofs.YtpkkmhpobfjclaaGreat.Nf.stand_region_end h1)
  try simp only [Act.put,Act.eval,List.map_toArray,List.map_cons,List.map_nil,Array.getD_eq_getD_getElem?,List.getElem?_toArray,List.getElem?_cons_succ,List.getElem?_cons_zero,Option.getD_some,Option.bind_some,List.size_toArray,List.length_cons,List.length_nil,Nat.reduceAdd,Nat.reduceSub,Nat.zero_add,List.range,List.range.loop,Array.replicate_succ,Array.replicate_zero,List.push_toArray,List.append_toArray,List.nil_append,List.cons_append,List.setIfInBounds_toArray,List.set_cons_succ,List.set_cons_zero,List.getElem_toArray,List.getElem_cons_succ,List.getElem_cons_zero,if_true,if_false,Bool.false_eq_true,↓reduceIte] at h1
  replace h1:=Go.Proofs.YtpkkmhpobfjclaaGreat.Nf.stand_region (Go.Proofs.YtpkkmhpobfjclaaGreat.Nf.stand_seq h1)
  try simp only [Act.put,Act.eval,List.map_toArray,List.map_cons,List.map_nil,Array.getD_eq_getD_getElem?,List.getElem?_toArray,List.getElem?_cons_succ,List.getElem?_cons_zero,Option.getD_some,Option.bind_some,List.size_toArray,List.length_cons,List.length_nil,Nat.reduceAdd,Nat.reduceSub,Nat.zero_add,List.range,List.range.loop,Array.replicate_succ,Array.replicate_zero,List.push_toArray,List.append_toArray,List.nil_append,List.cons_append,List.setIfInBounds_toArray,List.set_cons_succ,List.set_cons_zero,List.getElem_toArray,List.getElem_cons_succ,List.getElem_cons_zero,if_true,if_false,Bool.false_eq_true,↓reduceIte] at h1
  replace h1:=Go.Proofs.YtpkkmhpobfjclaaGreat.Nf.stand_oper good (fun i=>rfl) rfl rfl (by decide) (by rfl) (v':=v2) (.inl rfl) (fun t d=>run_load rfl rfl (bx1'.c 0 rfl) (bx1'.c 1 rfl)) h1
  try simp only [Act.put,Act.eval,List.map_toArray,List.map_cons,List.map_nil,Array.getD_eq_getD_getElem?,List.getElem?_toArray,List.getElem?_cons_succ,List.getElem?_cons_zero,Option.getD_some,Option.bind_some,List.size_toArray,List.length_cons,List.length_nil,Nat.reduceAdd,Nat.reduceSub,Nat.zero_add,List.range,List.range.loop,Array.replicate_succ,Array.replicate_zero,List.push_toArray,List.append_toArray,List.nil_append,List.cons_append,List.setIfInBounds_toArray,List.set_cons_succ,List.set_cons_zero,List.getElem_toArray,List.getElem_cons_succ,List.getElem_cons_zero,if_true,if_false,Bool.false_eq_true,↓reduceIte] at h1
  replace h1:=Go.Proofs.YtpkkmhpobfjclaaGreat.Nf.stand_oper good (fun i=>rfl) rfl rfl (by decide) (by rfl) (v':=(v2.setCell ⟨v.heap.size,0,none⟩ (.slice none 0 0)).setCell ⟨v.heap.size,1,none⟩ (.slice none 0 0)) (.inr ⟨rfl,rfl⟩) (fun t d=>run_store rfl rfl rfl ⟨_,_,_,rfl⟩ ⟨_,_,_,rfl⟩ (Rp.box_tape bx0') rfl) h1
  try simp only [Act.put,Act.eval,List.map_toArray,List.map_cons,List.map_nil,Array.getD_eq_getD_getElem?,List.getElem?_toArray,List.getElem?_cons_succ,List.getElem?_cons_zero,Option.getD_some,Option.bind_some,List.size_toArray,List.length_cons,List.length_nil,Nat.reduceAdd,Nat.reduceSub,Nat.zero_add,List.range,List.range.loop,Array.replicate_succ,Array.replicate_zero,List.push_toArray,List.append_toArray,List.nil_append,List.cons_append,List.setIfInBounds_toArray,List.set_cons_succ,List.set_cons_zero,List.getElem_toArray,List.getElem_cons_succ,List.getElem_cons_zero,if_true,if_false,Bool.false_eq_true,↓reduceIte] at h1
  replace h1:=Go.Proofs.YtpkkmhpobfjclaaGreat.Nf.stand_goret rfl (Go.Proofs.YtpkkmhpobfjclaaGreat.Nf.stand_region_end h1)
  have b9:=(bx0'.put 0 (.slice none 0 0) (by simp [nil2]) rfl).put 1 (.slice none 0 0) (by simp [nil2]) rfl
  have r0:=b9.c 0 rfl
  have r1:=b9.c 1 rfl
  replace h1:=Go.Proofs.YtpkkmhpobfjclaaGreat.Nf.stand_ret (val:=.agg #[.slice none 0 0,.slice none 0 0]) Tryz.func7 h1 (by simp [results,Tryz.results7,go_sem,r0,r1]; rfl)
  refine ⟨(none,0,0),(none,0,0),([],[]),_,_,h1,⟨fun _=>rfl,(fun q=>by rw [ok] at q; cases q),(fun q=>by rw [ok] at q; cases q)⟩,⟨rfl,.inl ⟨rfl,rfl⟩⟩,⟨rfl,.inl ⟨rfl,rfl⟩⟩,hb3.trans (Bel.of (((Below.refl _ _).setCell (p:=⟨v.heap.size,0,none⟩) (Nat.le_refl _) _).setCell (p:=⟨v.heap.size,1,none⟩) (Nat.le_refl _) _)),fun b hb=>.inl hb⟩
 | true =>
  rw [ok] at h1
  replace h1:=Go.Proofs.YtpkkmhpobfjclaaGreat.Nf.stand_oper good (fun i=>rfl) rfl rfl (by decide) (by rfl) (.inl rfl) (fun t d=>rfl) h1
  try simp only [Act.put,Act.eval,List.map_toArray,List.map_cons,List.map_nil,Array.getD_eq_getD_getElem?,List.getElem?_toArray,List.getElem?_cons_succ,List.getElem?_cons_zero,Option.getD_some,Option.bind_some,List.size_toArray,List.length_cons,List.length_nil,Nat.reduceAdd,Nat.reduceSub,Nat.zero_add,List.range,List.range.loop,Array.replicate_succ,Array.replicate_zero,List.push_toArray,List.append_toArray,List.nil_append,List.cons_append,List.setIfInBounds_toArray,List.set_cons_succ,List.set_cons_zero,List.getElem_toArray,List.getElem_cons_succ,List.getElem_cons_zero,if_true,if_false,Bool.false_eq_true,↓reduceIte] at h1
  replace h1:=Go.Proofs.YtpkkmhpobfjclaaGreat.Nf.stand_cond rfl (Go.Proofs.YtpkkmhpobfjclaaGreat.Nf.stand_region_end h1)
  try simp only [Act.put,Act.eval,List.map_toArray,List.map_cons,List.map_nil,Array.getD_eq_getD_getElem?,List.getElem?_toArray,List.getElem?_cons_succ,List.getElem?_cons_zero,Option.getD_some,Option.bind_some,List.size_toArray,List.length_cons,List.length_nil,Nat.reduceAdd,Nat.reduceSub,Nat.zero_add,List.range,List.range.loop,Array.replicate_succ,Array.replicate_zero,List.push_toArray,List.append_toArray,List.nil_append,List.cons_append,List.setIfInBounds_toArray,List.set_cons_succ,List.set_cons_zero,List.getElem_toArray,List.getElem_cons_succ,List.getElem_cons_zero,if_true,if_false,Bool.false_eq_true,↓reduceIte] at h1
  replace h1:=Go.Proofs.YtpkkmhpobfjclaaGreat.Nf.stand_region (Go.Proofs.YtpkkmhpobfjclaaGreat.Nf.stand_seq (Go.Proofs.YtpkkmhpobfjclaaGreat.Nf.stand_seq (Go.Proofs.YtpkkmhpobfjclaaGreat.Nf.stand_skip h1)))
  try simp only [Act.put,Act.eval,List.map_toArray,List.map_cons,List.map_nil,Array.getD_eq_getD_getElem?,List.getElem?_toArray,List.getElem?_cons_succ,List.getElem?_cons_zero,Option.getD_some,Option.bind_some,List.size_toArray,List.length_cons,List.length_nil,Nat.reduceAdd,Nat.reduceSub,Nat.zero_add,List.range,List.range.loop,Array.replicate_succ,Array.replicate_zero,List.push_toArray,List.append_toArray,List.nil_append,List.cons_append,List.setIfInBounds_toArray,List.set_cons_succ,List.set_cons_zero,List.getElem_toArray,List.getElem_cons_succ,List.getElem_cons_zero,if_true,if_false,Bool.false_eq_true,↓reduceIte] at h1
  replace h1:=Go.Proofs.YtpkkmhpobfjclaaGreat.Nf.stand_oper good (fun i=>rfl) rfl rfl (by decide) (by rfl) (.inl rfl) (fun t d=>rfl) h1
  try simp only [Act.put,Act.eval,List.map_toArray,List.map_cons,List.map_nil,Array.getD_eq_getD_getElem?,List.getElem?_toArray,List.getElem?_cons_succ,List.getElem?_cons_zero,Option.getD_some,Option.bind_some,List.size_toArray,List.length_cons,List.length_nil,Nat.reduceAdd,Nat.reduceSub,Nat.zero_add,List.range,List.range.loop,Array.replicate_succ,Array.replicate_zero,List.push_toArray,List.append_toArray,List.nil_append,List.cons_append,List.setIfInBounds_toArray,List.set_cons_succ,List.set_cons_zero,List.getElem_toArray,List.getElem_cons_succ,List.getElem_cons_zero,if_true,if_false,Bool.false_eq_true,↓reduceIte] at h1
  replace h1:=Go.Proofs.YtpkkmhpobfjclaaGreat.Nf.stand_enter rfl rfl (by decide) rfl Tryz.func18 (by decide) rfl h1
  try simp only [Act.put,Act.eval,List.map_toArray,List.map_cons,List.map_nil,Array.getD_eq_getD_getElem?,List.getElem?_toArray,List.getElem?_cons_succ,List.getElem?_cons_zero,Option.getD_some,Option.bind_some,List.size_toArray,List.length_cons,List.length_nil,Nat.reduceAdd,Nat.reduceSub,Nat.zero_add,List.range,List.range.loop,Array.replicate_succ,Array.replicate_zero,List.push_toArray,List.append_toArray,List.nil_append,List.cons_append,List.setIfInBounds_toArray,List.set_cons_succ,List.set_cons_zero,List.getElem_toArray,List.getElem_cons_succ,List.getElem_cons_zero,if_true,if_false,Bool.false_eq_true,↓reduceIte] at h1
  obtain ⟨hn1,hn6,_,_⟩:=Rp.okG_all ok
  obtain ⟨S,hS⟩:=hR
  obtain ⟨lb,lo,rfl⟩:=Rp.Rd.addr ⟨S,hS⟩ hn1
  have hS2 : Rp.RdC v2 (some ⟨lb,lo,none⟩) S L:=hS.bel hb3
  have hcell : ∀ j,j < L.length → v2.cell? ⟨lb,lo + j * 2,none⟩ = some (sv (Vv.rat S j).1) ∧ v2.cell? ⟨lb,lo + j * 2 + 1,none⟩ = some (sv (Vv.rat S j).2):=fun j hj=>by
   obtain ⟨b,off,e,c0,c1⟩:=hS2.row.all (i:=j) (by rw [hS2.len]; exact hj)
   cases e
   exact ⟨c0,c1⟩
  obtain ⟨v3,B3,l,tm,h3,hch,hp,hb4,hB3⟩:=stand_said (xs:=fun j=>sv (Vv.rat S j).1) (ys:=fun j=>sv (Vv.rat S j).2) (by omega) hn1 h1 (fun j hj=>(hcell j hj).1) (fun j hj=>(hcell j hj).2) (fun j _=>⟨_,_,_,rfl⟩) (fun j _=>⟨_,_,_,rfl⟩)
  have hll : l.length = L.length:=by rw [hp.length_eq,List.length_range]
  rw [hll] at hch
  clear h1
  have h1:=Go.Proofs.YtpkkmhpobfjclaaGreat.Nf.stand_region_end h3
  clear h3
  try simp only [Act.put,Act.eval,List.map_toArray,List.map_cons,List.map_nil,Array.getD_eq_getD_getElem?,List.getElem?_toArray,List.getElem?_cons_succ,List.getElem?_cons_zero,Option.getD_some,Option.bind_some,List.size_toArray,List.length_cons,List.length_nil,Nat.reduceAdd,Nat.reduceSub,Nat.zero_add,List.range,List.range.loop,Array.replicate_succ,Array.replicate_zero,List.push_toArray,List.append_toArray,List.nil_append,List.cons_append,List.setIfInBounds_toArray,List.set_cons_succ,List.set_cons_zero,List.getElem_toArray,List.getElem_cons_succ,List.getElem_cons_zero,if_true,if_false,Bool.false_eq_true,↓reduceIte] at h1
  have hb5:=hb3.trans (hb4.mono (by have:=hb3.size; omega))
  obtain ⟨T',li,v4,h4,s,t,J,hW,hres,oE,oM,hb6⟩:=Go.Proofs.YtpkkmhpobfjclaaGreat.Nf.stand_pieceL good quiets init7 (fun i=>rfl) (td:=[.code (.block 0 (.loop loop7)),.code tail7]) (F:=W2F L v) (by
    intro x hx
    simp only [List.mem_cons,List.not_mem_nil,or_false] at hx
    rcases hx with rfl | rfl
    ·
     show Go.Proofs.YtpkkmhpobfjclaaGreat.Nf.codeB K Tryz.prog 7 _ = true
     kernel_rfl
    ·
     show Go.Proofs.YtpkkmhpobfjclaaGreat.Nf.codeB K Tryz.prog 7 _ = true
     kernel_rfl) ⟨[.code (.block 0 (.loop loop7))],tail7,rfl,by kernel_rfl⟩ W2F.tape h1 (fun t d=>Go.Proofs.YtpkkmhpobfjclaaGreat.Nf.hasEndB_seq (rest7_wp (n0:=v.heap.size) (Ch:=v2.heap.size) (S:=S) (tm:=tm) (t':=t) (d':=d) (l:=l) (n:=L.length) (u:=fun i=>match i with
    | 6=>.slice (some ⟨lb,lo,none⟩) L.length cap
    | 7=>.bool true
    | 8=>.bool !true
    | 10=>.slice (some ⟨lb,lo,none⟩) L.length cap
    | k=>u k) rfl ok hp rfl (Rp.RdC.bel hS (x:=on v t d) ⟨rfl,rfl,Nat.le_refl _,fun _ _=>rfl⟩) ⟨Rp.box_tape (Rp.box_bel bx0' hb4),Rp.box_tape (Rp.box_bel bx1' hb4),⟨rfl,.inl ⟨rfl,rfl⟩⟩,⟨rfl,.inl ⟨rfl,rfl⟩⟩,Rp.Acc.nil L,hch,hb5.below t d d,by omega⟩))
  exact ⟨s,t,J,v4,B3,Go.Proofs.YtpkkmhpobfjclaaGreat.Nf.stand_ret Tryz.func7 h4 hres,hW,oE,oM,hb6,fun b hb=>(hB3 b hb).imp id (fun h=>by have:=hb3.size; omega)⟩
end Go.Proofs.YtpkkmhpobfjclaaGreat.Sd
namespace Go.Proofs.YtpkkmhpobfjclaaGreat.Rp
open Go.ChangeShapes Go.WideShapes Go.ChangeAt Go.RowKit
open Vv (Sl sv hidIt)
theorem Own1.bel {w x : World} {lo hi : Nat} {s t : Sl} {r : Rep} (h : Own1 w lo hi s t r) (k : Go.Proofs.YtpkkmhpobfjclaaGreat.Nf.Bel w.heap.size w x) : Own1 x lo hi s t r:=⟨ownE_bel h.bk k,h.bb,ownM_bel h.mb k,h.bm,h.lo',Nat.le_trans h.hi' k.size⟩
theorem Own1.tape {w : World} {t : Go.Proofs.YtpkkmhpobfjclaaGreat.Nf.Tp} {d lo hi : Nat} {s u : Sl} {r : Rep} (h : Own1 w lo hi s u r) : Own1 (Go.Proofs.YtpkkmhpobfjclaaGreat.Nf.on w t d) lo hi s u r:=⟨h.bk,h.bb,h.mb,h.bm,h.lo',h.hi'⟩
theorem Own1.of' {n : Nat} {w' : World} {s t : Sl} {r : Rep} (h1 : En.Own w' n (sv s) r.1) (h2 : Mm.Own w' n (sv t) r.2) (h3 : n ≤ w'.heap.size) : Own1 w' n w'.heap.size s t r :=
 ⟨h1,fun g hg=>(World.ownsRow.lt h1 g hg).2,h2,fun g hg=>(World.ownsRow.lt h2 g hg).2,h3,Nat.le_refl _⟩
theorem box_in {lo hi b : Nat} {w w' : World} {c : Array Value} (h : Bo.Box w b c) (Y : OnlyIn lo hi w w') (hn : ¬ (lo ≤ b ∧ b < hi)) : Bo.Box w' b c:=by
 have e:=Y.block b h.lt hn
 refine ⟨Nat.lt_of_lt_of_le h.lt Y.size,fun i=>?_,fun i=>?_⟩
 ·
  rw [← h.at' i]; unfold World.cell?; rw [e]
 ·
  rw [← h.fr i]; unfold World.frozen?; rw [e]
end Go.Proofs.YtpkkmhpobfjclaaGreat.Rp
namespace Go.Proofs.YtpkkmhpobfjclaaGreat.Wl
open Go Go.Conc Go.ChangeShapes Go.WideShapes Go.ChangeAt Go.RowKit
open Nf (Stand Bel Pz cutN restN EndQ HasEnd on)
open Bo (Box)
open Vv (Sl sv hidIt)
set_option linter.unusedSimpArgs false
def body3 (fz : Func:=Tryz.f3) : Code:=fz.body.getD .skip
section
variable (a0 : Option Addr) (m0 cap0 : Nat) (L0 : List Rp.Rep) (W0 : World)
def S1 (l : Int) (u : Nat → Value) : Array Value:=#[.slice a0 m0 cap0,u 1,.bool false,.int .i64 l,u 4,u 5,u 6,u 7,u 8,u 9,u 10,u 11,u 12,u 13,u 14,u 15,u 16,u 17,u 18,u 19,u 20,u 21,u 22,u 23,u 24,u 25,u 26,u 27,u 28,u 29,u 30,u 31,u 32,u 33,u 34,u 35,u 36,u 37,u 38,u 39,u 40,u 41,u 42,u 43,u 44,u 45,u 46,u 47,u 48,u 49,u 50,u 51,u 52,u 53,u 54,u 55,u 56,u 57,u 58,u 59,u 60,u 61,u 62,u 63,u 64,u 65,u 66,u 67,u 68]
def F1 (T : Array Value) (x : World) : Prop:=∃ l : Int,T = S1 a0 m0 cap0 l (fun i=>T.getD i undef) ∧ Bel W0.heap.size W0 x ∧ (0 ≤ l → m0 + Rp.bulk L0 ≤ 1048576)
def S2 (b4 : Nat) (p : Option Addr) (q : Nat) (u : Nat → Value) : Array Value:=#[.slice a0 m0 cap0,u 1,.bool false,u 3,.pointer (some ⟨b4,0,none⟩),.slice p m0 q,u 6,u 7,u 8,u 9,u 10,u 11,u 12,u 13,u 14,u 15,u 16,u 17,u 18,u 19,u 20,u 21,u 22,u 23,u 24,u 25,u 26,u 27,u 28,u 29,u 30,u 31,u 32,u 33,u 34,u 35,u 36,u 37,u 38,u 39,u 40,u 41,u 42,u 43,u 44,u 45,u 46,u 47,u 48,u 49,u 50,u 51,u 52,u 53,u 54,u 55,u 56,u 57,u 58,u 59,u 60,u 61,u 62,u 63,u 64,u 65,u 66,u 67,u 68]
structure G2 (b4 : Nat) (p : Option Addr) (q : Nat) (lo hi lo1 hi1 : Nat) (s t : Sl) (J : Rp.Rep) (x : World) : Prop where
 be : Bel W0.heap.size W0 x
 x4 : Box x b4 #[sv s,sv t]
 ow : Rp.Own1 x lo hi s t J
 ox : Rp.Own x lo1 hi1 (.slice p m0 q) L0
 wh : Rp.WhlR L0 J
 n0 : W0.heap.size ≤ lo
 n1 : hi ≤ b4
 n2 : b4 < lo1
 na : p = none → q = 0
 nq : m0 ≤ q
 nc : q ≤ 9223372036854775807
def F2 (T : Array Value) (x : World) : Prop:=∃ b4 p q lo hi lo1 hi1 s t J,T = S2 a0 m0 cap0 b4 p q (fun i=>T.getD i undef) ∧ G2 m0 L0 W0 b4 p q lo hi lo1 hi1 s t J x
def S4 (b4 b6 : Nat) (m : Nat) (u : Nat → Value) : Array Value:=#[.slice a0 m0 cap0,u 1,.bool false,u 3,.pointer (some ⟨b4,0,none⟩),u 5,.pointer (some ⟨b6,0,none⟩),u 7,.int .i64 (m : Int),u 9,u 10,u 11,u 12,u 13,u 14,u 15,u 16,u 17,u 18,u 19,u 20,u 21,u 22,u 23,u 24,u 25,u 26,u 27,u 28,u 29,u 30,u 31,u 32,u 33,u 34,u 35,u 36,u 37,u 38,u 39,u 40,u 41,u 42,u 43,u 44,u 45,u 46,u 47,u 48,u 49,u 50,u 51,u 52,u 53,u 54,u 55,u 56,u 57,u 58,u 59,u 60,u 61,u 62,u 63,u 64,u 65,u 66,u 67,u 68]
structure G4 (b4 b6 m lo hi lo2 hi2 : Nat) (s t s2 t2 : Sl) (J : Rp.Rep) (x : World) : Prop where
 be : Bel W0.heap.size W0 x
 x4 : Box x b4 #[sv s,sv t]
 x6 : Box x b6 #[sv s2,sv t2]
 ow : Rp.Own1 x lo hi s t J
 og : Rp.Own1 x lo2 hi2 s2 t2 (Rp.mark1 1 J)
 wh : Rp.WhlR L0 J
 mm : m = 1 + Rp.cost1 J
 n0 : W0.heap.size ≤ lo
 n1 : hi ≤ b4
 n2 : b4 < lo2
 n3 : hi2 ≤ b6
def F4 (T : Array Value) (x : World) : Prop:=∃ b4 b6 m lo hi lo2 hi2 s t s2 t2 J,T = S4 a0 m0 cap0 b4 b6 m (fun i=>T.getD i undef) ∧ G4 L0 W0 b4 b6 m lo hi lo2 hi2 s t s2 t2 J x
def F5 (T : Array Value) (x : World) : Prop:=T[2]? = some (.bool true) ∧ Bel W0.heap.size W0 x
end
theorem F1.tape {a0 : Option Addr} {m0 cap0 : Nat} {L0 : List Rp.Rep} {W0 : World} : ∀ (T : Array Value) (x : World) (t : Go.Proofs.YtpkkmhpobfjclaaGreat.Nf.Tp) (d : Nat),F1 a0 m0 cap0 L0 W0 T x → F1 a0 m0 cap0 L0 W0 T (on x t d) :=
 fun T x t d ⟨l,h1,h2,h3⟩=>⟨l,h1,h2.on W0.tape t W0.drawn d,h3⟩
theorem G2.tape {m0 : Nat} {L0 : List Rp.Rep} {W0 x : World} {b4 : Nat} {p : Option Addr} {q lo hi lo1 hi1 : Nat} {s t : Sl} {J : Rp.Rep} (h : G2 m0 L0 W0 b4 p q lo hi lo1 hi1 s t J x) (k : Go.Proofs.YtpkkmhpobfjclaaGreat.Nf.Tp) (d : Nat) : G2 m0 L0 W0 b4 p q lo hi lo1 hi1 s t J (on x k d) :=
 ⟨h.be.on W0.tape k W0.drawn d,Rp.box_tape h.x4,h.ow.tape,h.ox.tape,h.wh,h.n0,h.n1,h.n2,h.na,h.nq,h.nc⟩
theorem F2.tape {a0 : Option Addr} {m0 cap0 : Nat} {L0 : List Rp.Rep} {W0 : World} : ∀ (T : Array Value) (x : World) (t : Go.Proofs.YtpkkmhpobfjclaaGreat.Nf.Tp) (d : Nat),F2 a0 m0 cap0 L0 W0 T x → F2 a0 m0 cap0 L0 W0 T (on x t d) :=
 fun T x t d ⟨b4,p,q,lo,hi,lo1,hi1,s,r,J,h1,h2⟩=>⟨b4,p,q,lo,hi,lo1,hi1,s,r,J,h1,h2.tape t d⟩
theorem F4.tape {a0 : Option Addr} {m0 cap0 : Nat} {L0 : List Rp.Rep} {W0 : World} : ∀ (T : Array Value) (x : World) (t : Go.Proofs.YtpkkmhpobfjclaaGreat.Nf.Tp) (d : Nat),F4 a0 m0 cap0 L0 W0 T x → F4 a0 m0 cap0 L0 W0 T (on x t d) :=
 fun T x t d ⟨b4,b6,m,lo,hi,lo2,hi2,s,r,s2,t2,J,h1,h⟩=>⟨b4,b6,m,lo,hi,lo2,hi2,s,r,s2,t2,J,h1,⟨h.be.on W0.tape t W0.drawn d,Rp.box_tape h.x4,Rp.box_tape h.x6,h.ow.tape,h.og.tape,h.wh,h.mm,h.n0,h.n1,h.n2,h.n3⟩⟩
theorem F5.tape {W0 : World} : ∀ (T : Array Value) (x : World) (t : Go.Proofs.YtpkkmhpobfjclaaGreat.Nf.Tp) (d : Nat),F5 W0 T x → F5 W0 T (on x t d) :=
 fun T x t d ⟨h1,h2⟩=>⟨h1,h2.on W0.tape t W0.drawn d⟩
theorem G2.bel {m0 : Nat} {L0 : List Rp.Rep} {W0 x y : World} {b4 : Nat} {p : Option Addr} {q lo hi lo1 hi1 : Nat} {s t : Sl} {J : Rp.Rep} (h : G2 m0 L0 W0 b4 p q lo hi lo1 hi1 s t J x) (e : Bel x.heap.size x y) (k : Go.Proofs.YtpkkmhpobfjclaaGreat.Nf.Tp) (d : Nat) : G2 m0 L0 W0 b4 p q lo hi lo1 hi1 s t J (on y k d) :=
 G2.tape ⟨h.be.trans (e.mono h.be.size),Rp.box_bel h.x4 e,h.ow.bel e,h.ox.bel e,h.wh,h.n0,h.n1,h.n2,h.na,h.nq,h.nc⟩ k d
theorem G4.bel {L0 : List Rp.Rep} {W0 x y : World} {b4 b6 m lo hi lo2 hi2 : Nat} {s t s2 t2 : Sl} {J : Rp.Rep} (h : G4 L0 W0 b4 b6 m lo hi lo2 hi2 s t s2 t2 J x) (e : Bel x.heap.size x y) (k : Go.Proofs.YtpkkmhpobfjclaaGreat.Nf.Tp) (d : Nat) : G4 L0 W0 b4 b6 m lo hi lo2 hi2 s t s2 t2 J (on y k d) :=
 ⟨(h.be.trans (e.mono h.be.size)).on W0.tape k W0.drawn d,Rp.box_tape (Rp.box_bel h.x4 e),Rp.box_tape (Rp.box_bel h.x6 e),(h.ow.bel e).tape,(h.og.bel e).tape,h.wh,h.mm,h.n0,h.n1,h.n2,h.n3⟩
end Go.Proofs.YtpkkmhpobfjclaaGreat.Wl
namespace Go.Proofs.YtpkkmhpobfjclaaGreat.Wl
open Go Go.Conc Go.ChangeShapes Go.WideShapes Go.ChangeAt Go.RowKit
open Nf (Stand Bel Pz cutN restN EndQ HasEnd on)
open Bo (Box)
open Vv (Sl sv hidIt)
set_option linter.unusedSimpArgs false
theorem law_p1 (a0 : Option Addr) (cap0 : Nat) (L0 : List Rp.Rep) (W0 W : World) (hR : Rp.Rd W a0 L0) (hl : L0.length ≤ 9223372036854775807) (hs : Rp.Short L0) (be : Bel W0.heap.size W0 W) :
  (cutN 3 body3).wp Tryz.prog (EndQ false (F1 a0 L0.length cap0 L0 W0)) ⟨#[.slice a0 L0.length cap0,undef,undef,undef,undef,undef,undef,undef,undef,undef,undef,undef,undef,undef,undef,undef,undef,undef,undef,undef,undef,undef,undef,undef,undef,undef,undef,undef,undef,undef,undef,undef,undef,undef,undef,undef,undef,undef,undef,undef,undef,undef,undef,undef,undef,undef,undef,undef,undef,undef,undef,undef,undef,undef,undef,undef,undef,undef,undef,undef,undef,undef,undef,undef,undef,undef,undef,undef,undef],[]⟩ W:=by
 have Z0:=hidIt (Rp.szS_any a0 cap0 L0 1048576 W hR hl hs (by decide) (by decide))
 have HB:=hidIt be
 have hsz:=be.size
 generalize hm : L0.length = m0 at *
 have HF : Hid (∀ (l : Int) (x : World) (T : Array Value),En.Le2 l 1048576 (m0 + Rp.bulk L0) → Below W.heap.size W x → T = S1 a0 m0 cap0 l (fun i=>T.getD i undef) → F1 a0 m0 cap0 L0 W0 T x):=hidIt (fun l x T h1 h2 h3=>⟨l,h3,be.trans ((Bel.of h2).mono hsz),fun h0=>by have:=h1.sum h0; omega⟩)
 clear hR hl hs be hm
 generalize F1 a0 m0 cap0 L0 W0 = FF at HF ⊢
 simp only [body3,cutN,Tryz.f3,Option.getD_some]
 go_wp2_with (fail)
 refine Z0.out.mono ?_
 rintro e w1 ⟨l,rfl,hl,kk⟩
 have HL:=hidIt hl
 have HK:=hidIt kk
 clear hl kk
 go_wp2_with (fail)
 exact ⟨rfl,rfl,HF.out l w1 _ HL.out HK.out rfl⟩
theorem law_p2 (a0 : Option Addr) (cap0 : Nat) (L0 : List Rp.Rep) (W0 W : World) (hR : Rp.Rd W a0 L0) (hl : L0.length ≤ 9223372036854775807) (hs : Rp.Short L0) (be : Bel W0.heap.size W0 W) (hb : L0.length + Rp.bulk L0 ≤ 1048576) (l : Int) (u : Nat → Value) :
  (cutN 2 (restN 4 body3)).wp Tryz.prog (EndQ false (F2 a0 L0.length cap0 L0 W0)) ⟨#[.slice a0 L0.length cap0,u 1,.bool false,.int .i64 l,u 4,u 5,u 6,u 7,u 8,u 9,u 10,u 11,u 12,u 13,u 14,u 15,u 16,u 17,u 18,u 19,u 20,u 21,u 22,u 23,u 24,u 25,u 26,u 27,u 28,u 29,u 30,u 31,u 32,u 33,u 34,u 35,u 36,u 37,u 38,u 39,u 40,u 41,u 42,u 43,u 44,u 45,u 46,u 47,u 48,u 49,u 50,u 51,u 52,u 53,u 54,u 55,u 56,u 57,u 58,u 59,u 60,u 61,u 62,u 63,u 64,u 65,u 66,u 67,u 68],[]⟩ W:=by
 have hm0 : L0.length ≤ 1048576:=by omega
 have hbk : Rp.bulk L0 ≤ 1048576:=by omega
 have HR0:=hidIt hR
 have HW0:=hidIt be
 have hsz:=be.size
 have T0:=hidIt (fun V (r : Rp.Rd V a0 L0)=>Rp.toS_any a0 cap0 L0 V r hm0 hbk)
 have CS:=hidIt (fun V a ca (r : Rp.Rd V a L0)=>Rp.spec_Whole a ca L0 V r hs hl (fun i hi=>by have:=Rp.bulk_one hi; unfold Rp.bulk1 at this; omega))
 have HB:=hidIt (Below.refl W.heap.size W)
 have HG : Hid (∀ b4 p q lo hi lo1 hi1 s t J x T,T = S2 a0 L0.length cap0 b4 p q (fun i=>T.getD i undef) → G2 L0.length L0 W0 b4 p q lo hi lo1 hi1 s t J x → F2 a0 L0.length cap0 L0 W0 T x):=hidIt (fun b4 p q lo hi lo1 hi1 s t J x T h1 h2=>⟨b4,p,q,lo,hi,lo1,hi1,s,t,J,h1,h2⟩)
 generalize F2 a0 L0.length cap0 L0 W0 = FF at HG ⊢
 generalize hn : L0.length = m0 at *
 have HN:=hidIt hn
 clear hR hl hs be hb hn
 simp only [body3,cutN,restN,Tryz.f3,Option.getD_some]
 go_wp2_with (fail)
 refine (T0.out _ HR0.out).mono ?_
 intro e w1 hz
 obtain ⟨v,rfl,oo,kk⟩:=hz.out
 clear hz
 have s0:=hidIt oo
 obtain ⟨p0,q0,ev,hc0,hd0,hn0⟩:=oo.formN HN.out
 subst ev
 replace HB:=hidIt (HB.out.trans (kk.mono HB.out.size))
 have sz1:=kk.size
 clear oo kk
 go_wp2_with (fail)
 refine (CS.out _ p0 q0 s0.out.rd).mono ?_
 intro e w2 hz
 obtain ⟨J,ht,hw⟩:=hz.out
 obtain ⟨⟨x0,x1,x2⟩,⟨y0,y1,y2⟩,rfl,oE,oM,kk⟩:=ht
 have HJ:=hidIt hw
 have O1:=hidIt (Rp.Own1.of oE oM kk.size)
 replace HB:=hidIt (HB.out.trans (kk.mono HB.out.size))
 have sz2:=kk.size
 clear hz hw oE oM kk s0
 have ka : Below w2.heap.size w2 (w2.alloc (.cells #[.slice x0 x1 x2,.slice y0 y1 y2] 27)):=(Below.refl _ _).alloc (Nat.le_refl _) _
 have O2:=hidIt (O1.out.kept ka)
 have HB2:=hidIt (HB.out.trans (ka.mono HB.out.size))
 have BX:=hidIt (Box.new w2 #[.slice x0 x1 x2,.slice y0 y1 y2] 27)
 have sz3 : (w2.alloc (.cells #[.slice x0 x1 x2,.slice y0 y1 y2] 27)).heap.size = w2.heap.size + 1:=by simp
 clear ka HB O1
 simp only [sv]
 go_wp2_with (fail)
 refine (T0.out _ (HR0.out.kept HB2.out)).mono ?_
 intro e w4 hz
 obtain ⟨v,rfl,oo,kk⟩:=hz.out
 clear hz
 have x1':=hidIt oo
 obtain ⟨p1,q1,ev,hc1,hd1,hn1⟩:=oo.formN HN.out
 subst ev
 have HB3:=hidIt (HB2.out.trans (kk.mono HB2.out.size))
 have O3:=hidIt (O2.out.kept kk)
 have BX3:=hidIt (BX.out.kept kk)
 clear oo kk O2 BX HB2
 go_wp2_with (fail)
 exact ⟨rfl,rfl,HG.out w2.heap.size p1 q1 _ _ _ _ (x0,x1,x2) (y0,y1,y2) J w4 _ rfl ⟨HW0.out.trans ((Bel.of HB3.out).mono hsz),BX3.out,O3.out,x1'.out,HJ.out,by omega,Nat.le_refl _,by omega,hn1,hc1,hd1⟩⟩
end Go.Proofs.YtpkkmhpobfjclaaGreat.Wl
namespace Go.Proofs.YtpkkmhpobfjclaaGreat.Wl
open Go Go.Conc Go.ChangeShapes Go.WideShapes Go.ChangeAt Go.RowKit
open Nf (Stand Bel Pz cutN restN EndQ HasEnd on)
open Bo (Box)
open Vv (Sl sv hidIt)
set_option linter.unusedSimpArgs false
def ops7 (fz : Func:=Tryz.f3) : Array Oper:=match restN 6 (body3 fz) with
 | .seq (.region _ o _) _=>o
 | _=>#[]
theorem drop_at (ops : Array Oper) (k j : Nat) : (ops.toList.drop k)[j]? = ops[k + j]?:=by rw [List.getElem?_drop,Array.getElem?_toList]
theorem law_p3 (a0 : Option Addr) (cap0 : Nat) (L0 : List Rp.Rep) (W0 W : World) (hR : Rp.Rd W a0 L0) (hl : L0.length ≤ 9223372036854775807) (hs : Rp.Short L0) (hb : L0.length + Rp.bulk L0 ≤ 1048576)
  {b4 q lo hi lo1 hi1 lo2 hi2 : Nat} {p : Option Addr} {s t s2 t2 : Sl} {J : Rp.Rep} (hG : G2 L0.length L0 W0 b4 p q lo hi lo1 hi1 s t J W) (hO : Rp.Own1 W lo2 hi2 s2 t2 J) (hbJ : Rp.bulk1 J ≤ 528) (h2 : hi1 ≤ lo2) (h3 : b4 < lo2) (u : Nat → Value)
  (Kk : Act → World → Prop) (hK : ∀ a w,(cutN 11 (restN 7 body3)).wp Tryz.prog (EndQ false (F4 a0 L0.length cap0 L0 W0)) a w → Kk a w) :
  wpList Tryz.prog ops7 (Exit.then Kk (EndQ false (F4 a0 L0.length cap0 L0 W0))) (ops7.toList.drop 2) ⟨#[.slice a0 L0.length cap0,u 1,.bool false,u 3,.pointer (some ⟨b4,0,none⟩),.slice p L0.length q,u 6,u 7,u 8,u 9,u 10,u 11,u 12,u 13,u 14,u 15,u 16,u 17,u 18,u 19,u 20,u 21,.agg #[sv s2,sv t2],u 23,u 24,u 25,u 26,u 27,u 28,u 29,u 30,u 31,u 32,u 33,u 34,u 35,u 36,u 37,u 38,u 39,u 40,u 41,u 42,u 43,u 44,u 45,u 46,u 47,u 48,u 49,u 50,u 51,u 52,u 53,u 54,u 55,u 56,u 57,u 58,u 59,u 60,u 61,u 62,u 63,u 64,u 65,u 66,u 67,u 68],[]⟩ W:=by
 have hm0 : L0.length ≤ 1048576:=by omega
 have hbk : Rp.bulk L0 ≤ 1048576:=by omega
 have hW:=hG.be.size
 have hn0:=hG.n0
 have hn1:=hG.n1
 have hn2:=hG.n2
 have hlx:=hG.ox.lo_le
 have hlo:=hG.ow.lo'
 have hhi:=hO.hi'
 have hlg:=hO.lo'
 obtain ⟨s0,s1,s2'⟩:=s
 obtain ⟨t0,t1,t2'⟩:=t
 obtain ⟨g0,g1,g2⟩:=s2
 obtain ⟨h0,h1,h2'⟩:=t2
 have ka : Below W.heap.size W (W.alloc (.cells #[.slice g0 g1 g2,.slice h0 h1 h2'] 27)):=(Below.refl _ _).alloc (Nat.le_refl _) _
 have HW0:=hidIt hG.be
 have HB:=hidIt ka
 have HR0:=hidIt hR
 have HZ:=hidIt (hG.be.trans ((Bel.of ka).mono hG.be.size))
 have X4:=hidIt (hG.x4.kept ka)
 have X6:=hidIt (Box.new W #[.slice g0 g1 g2,.slice h0 h1 h2'] 27)
 have OW:=hidIt (hG.ow.kept ka)
 have OX:=hidIt (hG.ox.kept ka)
 have OG:=hidIt (hO.kept ka)
 have HWH:=hidIt hG.wh
 have hsa : (W.alloc (.cells #[.slice g0 g1 g2,.slice h0 h1 h2'] 27)).heap.size = W.heap.size + 1:=by simp
 have T0:=hidIt (fun V (r : Rp.Rd V a0 L0)=>Rp.toS_any a0 cap0 L0 V r hm0 hbk)
 have E0:=hidIt (fun V a a' c c' (r : Rp.Rd V a L0) (r' : Rp.Rd V a' L0)=>Rp.eqS_same a a' c c' L0 V r r' hl)
 have EQ:=hidIt (fun V (hE : Rp.RdE V (g0,g1,g2) J.1) (hM : Rp.RdM V (h0,h1,h2') J.2) (hE' : Rp.RdE V (s0,s1,s2') J.1) (hM' : Rp.RdM V (t0,t1,t2') J.2)=>Rp.eq_same (g0,g1,g2) (h0,h1,h2') (s0,s1,s2') (t0,t1,t2') J V hE hM hE' hM')
 have MX:=hidIt (fun V (o : Rp.Own V lo1 hi1 (.slice p L0.length q) L0)=>Rp.markS_any lo1 hi1 (.slice p L0.length q) L0 1 V o (by decide) (by omega) hm0)
 have MG:=hidIt (fun V (o : Rp.Own1 V lo2 hi2 (g0,g1,g2) (h0,h1,h2') J)=>Rp.mark1_any lo2 hi2 (g0,g1,g2) (h0,h1,h2') J 1 V o (by decide) (by omega))
 have HH:=hidIt (fun V (hE : Rp.RdE V (g0,g1,g2) (Rp.mark1 1 J).1) (hM : Rp.RdM V (h0,h1,h2') (Rp.mark1 1 J).2)=>Rp.held1_any (g0,g1,g2) (h0,h1,h2') J 1 V hE hM (by decide) (by omega))
 have HG : Hid (∀ b4 b6 m lo hi lo2 hi2 s t s2 t2 x T,T = S4 a0 L0.length cap0 b4 b6 m (fun i=>T.getD i undef) → G4 L0 W0 b4 b6 m lo hi lo2 hi2 s t s2 t2 J x → F4 a0 L0.length cap0 L0 W0 T x):=hidIt (fun b4 b6 m lo hi lo2 hi2 s t s2 t2 x T h1 h2=>⟨b4,b6,m,lo,hi,lo2,hi2,s,t,s2,t2,J,h1,h2⟩)
 have HKK:=hidIt (rfl : Rp.cost1 J = Rp.cost1 J)
 have hkx : ¬ ((1 + Rp.cost L0 : Nat) : Int) < 0:=by omega
 have hkj : ¬ ((1 + Rp.cost1 J : Nat) : Int) < 0:=by omega
 have hjj : (((1 + Rp.cost1 J : Nat) : Int) != ((1 + Rp.cost1 J : Nat) : Int)) = false:=by simp
 have HNq:=hidIt (And.intro hG.na (And.intro hG.nq hG.nc))
 generalize F4 a0 L0.length cap0 L0 W0 = FF at HG hK ⊢
 generalize hxx : (1 + Rp.cost L0 : Nat) = kx at *
 have HXX:=hidIt hxx
 generalize hjx : (1 + Rp.cost1 J : Nat) = kj at *
 have HJX:=hidIt hjx
 generalize hn : L0.length = m0 at *
 have HN:=hidIt hn
 clear hR hl hs hb hG hO hbJ ka hn hxx hjx HKK hm0 hbk
 simp only [sv]
 simp only [body3,cutN,restN,ops7,Tryz.f3,Option.getD_some,List.drop_succ_cons,List.drop_zero] at hK ⊢
 have ca:=X4.out.c 0 (v:=.slice s0 s1 s2') rfl
 have cb:=X4.out.c 1 (v:=.slice t0 t1 t2') rfl
 have cc:=X6.out.c 0 (v:=.slice g0 g1 g2) rfl
 have cd:=X6.out.c 1 (v:=.slice h0 h1 h2') rfl
 go_wp2_with (fail)
 refine (EQ.out _ OG.out.rE OG.out.rM OW.out.rE OW.out.rM).mono ?_
 rintro e w1 ⟨rfl,kk⟩
 clear ca cb cc cd
 replace HZ:=hidIt (HZ.out.trans ((Bel.of kk).mono HZ.out.size))
 replace X4:=hidIt (X4.out.kept kk)
 replace X6:=hidIt (X6.out.kept kk)
 replace OW:=hidIt (OW.out.kept kk)
 replace OX:=hidIt (OX.out.kept kk)
 replace OG:=hidIt (OG.out.kept kk)
 replace HB:=hidIt (HB.out.trans (kk.mono HB.out.size))
 clear kk
 go_wp2_with (fail)
 refine (T0.out _ (HR0.out.kept HB.out)).mono ?_
 intro e w2 hz
 obtain ⟨v,rfl,oo,kk⟩:=hz.out
 clear hz
 have y0:=hidIt oo
 obtain ⟨p2,q2,ev,hc2,hd2,hn2'⟩:=oo.formN HN.out
 subst ev
 replace HZ:=hidIt (HZ.out.trans ((Bel.of kk).mono HZ.out.size))
 replace X4:=hidIt (X4.out.kept kk)
 replace X6:=hidIt (X6.out.kept kk)
 replace OW:=hidIt (OW.out.kept kk)
 replace OX:=hidIt (OX.out.kept kk)
 replace OG:=hidIt (OG.out.kept kk)
 clear oo kk HB
 go_wp2_with (fail)
 refine (E0.out _ p p2 q q2 OX.out.rd y0.out.rd).mono ?_
 rintro e w3 ⟨rfl,kk⟩
 replace HZ:=hidIt (HZ.out.trans ((Bel.of kk).mono HZ.out.size))
 replace X4:=hidIt (X4.out.kept kk)
 replace X6:=hidIt (X6.out.kept kk)
 replace OW:=hidIt (OW.out.kept kk)
 replace OX:=hidIt (OX.out.kept kk)
 replace OG:=hidIt (OG.out.kept kk)
 clear kk y0
 go_wp2_with (fail)
 refine (MX.out _ OX.out).mono ?_
 intro e w4 hz
 obtain ⟨rfl,_,yy⟩:=hz.out
 clear hz
 have hs3:=HZ.out.size
 replace HZ:=hidIt (HZ.out.trans (Bel.of (yy.below (by omega) hs3)))
 replace OW:=hidIt (OW.out.apart yy (.inl (by omega)))
 replace OG:=hidIt (OG.out.apart yy (.inr (by omega)))
 replace X4:=hidIt (Rp.box_in X4.out yy (by omega))
 replace X6:=hidIt (Rp.box_in X6.out yy (by omega))
 clear yy OX
 rw [HXX.out]
 have ca:=X4.out.c 0 (v:=.slice s0 s1 s2') rfl
 have cb:=X4.out.c 1 (v:=.slice t0 t1 t2') rfl
 have cc:=X6.out.c 0 (v:=.slice g0 g1 g2) rfl
 have cd:=X6.out.c 1 (v:=.slice h0 h1 h2') rfl
 go_wp2_with (fail)
 refine (EQ.out _ OG.out.rE OG.out.rM OW.out.rE OW.out.rM).mono ?_
 rintro e w5 ⟨rfl,kk⟩
 clear ca cb cc cd
 replace HZ:=hidIt (HZ.out.trans ((Bel.of kk).mono HZ.out.size))
 replace X4:=hidIt (X4.out.kept kk)
 replace X6:=hidIt (X6.out.kept kk)
 replace OW:=hidIt (OW.out.kept kk)
 replace OG:=hidIt (OG.out.kept kk)
 clear kk
 have ca:=X4.out.c 0 (v:=.slice s0 s1 s2') rfl
 have cb:=X4.out.c 1 (v:=.slice t0 t1 t2') rfl
 have cc:=X6.out.c 0 (v:=.slice g0 g1 g2) rfl
 have cd:=X6.out.c 1 (v:=.slice h0 h1 h2') rfl
 go_wp2_with (fail)
 refine (MG.out _ OG.out).mono ?_
 intro e w6 hz
 obtain ⟨rfl,og2,yy⟩:=hz.out
 clear hz ca cb cc cd
 have hs5:=HZ.out.size
 replace HZ:=hidIt (HZ.out.trans (Bel.of (yy.below (by omega) hs5)))
 replace OW:=hidIt (OW.out.apart yy (.inl (by omega)))
 replace X4:=hidIt (Rp.box_in X4.out yy (by omega))
 replace X6:=hidIt (Rp.box_in X6.out yy (by omega))
 clear yy OG
 have OG:=hidIt og2
 clear og2
 rw [HJX.out]
 have ca:=X4.out.c 0 (v:=.slice s0 s1 s2') rfl
 have cb:=X4.out.c 1 (v:=.slice t0 t1 t2') rfl
 have cc:=X6.out.c 0 (v:=.slice g0 g1 g2) rfl
 have cd:=X6.out.c 1 (v:=.slice h0 h1 h2') rfl
 go_wp2_with (fail)
 refine (HH.out _ OG.out.rE OG.out.rM).mono ?_
 rintro e w7 ⟨rfl,kk⟩
 clear ca cb cc cd
 replace HZ:=hidIt (HZ.out.trans ((Bel.of kk).mono HZ.out.size))
 replace X4:=hidIt (X4.out.kept kk)
 replace X6:=hidIt (X6.out.kept kk)
 replace OW:=hidIt (OW.out.kept kk)
 replace OG:=hidIt (OG.out.kept kk)
 clear kk
 go_wp2_with (fail)
 exact ⟨rfl,rfl,HG.out b4 W.heap.size kj lo hi lo2 hi2 _ _ _ _ w7 _ rfl ⟨HZ.out,X4.out,X6.out,OW.out,OG.out,HWH.out,HJX.out.symm,hn0,hn1,h3,hhi⟩⟩
end Go.Proofs.YtpkkmhpobfjclaaGreat.Wl
