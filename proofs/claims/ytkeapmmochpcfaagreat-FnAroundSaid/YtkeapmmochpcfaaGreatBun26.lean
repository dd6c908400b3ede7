/- What all come to, in whatever order they are taken. -/
import Derived.Test.YtkeapmmochpcfaaGreatBun25
import Derived.Test.YtkeapmmochpcfaaGreatBun24
import Derived.Test.YtkeapmmochpcfaaGreatBun6
set_option maxRecDepth 100000
set_option maxHeartbeats 32000000
set_option linter.unusedVariables false
namespace Go.Proofs.YtkeapmmochpcfaaGreat.Bk
theorem part_ris {G G' : List (List En)} (h : AllRis G) (hs : ∀ b ∈ G',b ∈ G) : AllRis G':=fun b hb=>h b (hs b hb)
theorem part_len {G G' : List (List En)} (h : AllRis G) (hs : ∀ b ∈ G',b ∈ G) : (whole G').length ≤ (whole G).length :=
 sub_len _ _ (whole_ris (part_ris h hs)) (whole_ris h) (fun k hk=>by
  have t:=whole_top h k
  rw [hk] at t
  rcases (whole_top (part_ris h hs) k).mem with q | ⟨b,hb,q⟩
  ·
   exact q
  ·
   rw [← q]; exact t.none_of (hs b hb))
theorem perm_whole {G G' : List (List En)} (h : AllRis G) (hs : ∀ b,b ∈ G' ↔ b ∈ G) : whole G' = whole G :=
 whole_of (part_ris h (fun b hb=>(hs b).1 hb)) (whole_ris h) (fun k=>⟨(whole_top h k).key,fun b hb=>(whole_top h k).ub b ((hs b).1 hb),(whole_top h k).mem.imp id (fun ⟨b,hb,q⟩=>⟨b,(hs b).2 hb,q⟩)⟩)
theorem part_ok {G G' : List (List En)} (h : Gok G) (hs : ∀ b ∈ G',b ∈ G) : okBk (whole G') = true :=
 ok_mk (Nat.le_trans (part_len h.ris hs) h.len) (fun e he=>by
  obtain ⟨b,hb,hm⟩:=whole_mem (part_ris h.ris hs) he
  exact ok_all (h.ok b (hs b hb)) hm) (whole_ris (part_ris h.ris hs))
end Go.Proofs.YtkeapmmochpcfaaGreat.Bk
namespace Go.Proofs.YtkeapmmochpcfaaGreat.Mk
theorem part_ris {G G' : List (List En)} (h : AllRis G) (hs : ∀ b ∈ G',b ∈ G) : AllRis G':=fun b hb=>h b (hs b hb)
theorem perm_whole {G G' : List (List En)} (h : AllRis G) (hs : ∀ b,b ∈ G' ↔ b ∈ G) : whole G' = whole G :=
 whole_of (part_ris h (fun b hb=>(hs b).1 hb)) (whole_ris h) (fun k=>⟨(whole_top h k).key,fun b hb=>(whole_top h k).ub b ((hs b).1 hb),(whole_top h k).mem.imp id (fun ⟨b,hb,q⟩=>⟨b,(hs b).2 hb,q⟩)⟩)
theorem fold_ok : ∀ (G : List (List En)) (A : List En),okBk A = true → (∀ b ∈ G,okBk b = true) → okBk (G.foldl mergeE A) = true
 | [],A,hA,_=>hA
 | b :: G,A,hA,hG=>by
  have hb:=hG b (List.mem_cons_self ..)
  exact fold_ok G (mergeE A b) (merge_ok hA hb (merge_join _ _ (ok_ris hA) (ok_ris hb))) (fun c hc=>hG c (List.mem_cons_of_mem _ hc))
theorem part_ok {G G' : List (List En)} (h : Gok G) (hs : ∀ b ∈ G',b ∈ G) : okBk (whole G') = true:=fold_ok G' [] (by decide) (fun b hb=>h.ok b (hs b hb))
end Go.Proofs.YtkeapmmochpcfaaGreat.Mk
namespace Go.Proofs.YtkeapmmochpcfaaGreat.Rp
def taken (L : List Rep) (l : List Nat) : List Rep:=l.map (rat L)
structure Acc (L : List Rep) (l : List Nat) (J : Rep) : Prop where
 bk : En.toB J.1 = Bk.whole (bks (taken L l))
 mb : Mm.toB J.2 = Mk.whole (mbs (taken L l))
theorem Acc.nil (L : List Rep) : Acc L [] ([],[]):=⟨rfl,rfl⟩
theorem taken_bks {L : List Rep} {l : List Nat} (hl : ∀ i ∈ l,i < L.length) : ∀ b ∈ bks (taken L l),b ∈ bks L:=by
 intro b hb
 obtain ⟨r,hr,rfl⟩:=List.mem_map.1 hb
 obtain ⟨i,hi,rfl⟩:=List.mem_map.1 hr
 exact List.mem_map.2 ⟨_,rat_mem (hl i hi),rfl⟩
theorem taken_mbs {L : List Rep} {l : List Nat} (hl : ∀ i ∈ l,i < L.length) : ∀ b ∈ mbs (taken L l),b ∈ mbs L:=by
 intro b hb
 obtain ⟨r,hr,rfl⟩:=List.mem_map.1 hb
 obtain ⟨i,hi,rfl⟩:=List.mem_map.1 hr
 exact List.mem_map.2 ⟨_,rat_mem (hl i hi),rfl⟩
theorem Acc.ok {L : List Rep} {l : List Nat} {J : Rep} (h : Acc L l J) (ok : okG L = true) (hl : ∀ i ∈ l,i < L.length) : okR J = true:=by
 obtain ⟨_,_,h3,h4⟩:=(okG_iff L).1 ok
 unfold okR
 rw [h.bk,h.mb,Bk.part_ok h3 (taken_bks hl),Mk.part_ok h4 (taken_mbs hl)]
 rfl
theorem taken_snoc (L : List Rep) (l : List Nat) (i : Nat) : taken L (l ++ [i]) = taken L l ++ [rat L i]:=by simp [taken]
theorem Acc.step {L : List Rep} {l : List Nat} {J J' : Rep} {i : Nat} (h : Acc L l J) (h1 : En.toB J'.1 = Bk.mergeE (En.toB J.1) (En.toB (rat L i).1)) (h2 : Mm.toB J'.2 = Mk.mergeE (Mm.toB J.2) (Mm.toB (rat L i).2)) : Acc L (l ++ [i]) J':=by
 refine ⟨?_,?_⟩
 ·
  rw [taken_snoc,h1,h.bk]
  unfold bks
  rw [List.map_append,List.map_singleton,Bk.whole_snoc]
 ·
  rw [taken_snoc,h2,h.mb]
  unfold mbs
  rw [List.map_append,List.map_singleton,Mk.whole_snoc]
theorem Acc.len {L : List Rep} {l : List Nat} {J : Rep} {i : Nat} (h : Acc L l J) (ok : okG L = true) (hl : ∀ i ∈ l,i < L.length) (hi : i < L.length) : (Bk.mergeE (En.toB J.1) (En.toB (rat L i).1)).length ≤ 80:=by
 obtain ⟨_,_,h3,h4⟩:=(okG_iff L).1 ok
 have e : Bk.mergeE (En.toB J.1) (En.toB (rat L i).1) = Bk.whole (bks (taken L (l ++ [i]))):=by
  rw [taken_snoc,h.bk]
  unfold bks
  rw [List.map_append,List.map_singleton,Bk.whole_snoc]
 rw [e]
 exact Nat.le_trans (Bk.part_len h3.ris (taken_bks (fun j hj=>by
  rcases List.mem_append.1 hj with q | q
  ·
   exact hl j q
  ·
   rw [List.mem_singleton.1 q]; exact hi))) h3.len
theorem Acc.whl {L : List Rep} {l : List Nat} {J : Rep} (h : Acc L l J) (ok : okG L = true) (hp : l.Perm (List.range L.length)) : WhlR L J:=by
 obtain ⟨_,_,h3,h4⟩:=(okG_iff L).1 ok
 have hm : ∀ i,i ∈ l ↔ i < L.length:=fun i=>by rw [hp.mem_iff,List.mem_range]
 have hr : ∀ r,r ∈ taken L l ↔ r ∈ L:=fun r=>by
  constructor
  ·
   intro q
   obtain ⟨i,hi,rfl⟩:=List.mem_map.1 q
   exact rat_mem ((hm i).1 hi)
  ·
   intro q
   obtain ⟨i,hi,rfl⟩:=List.mem_iff_getElem.1 q
   exact List.mem_map.2 ⟨i,(hm i).2 hi,rat_at hi⟩
 refine ⟨(fun q=>by rw [ok] at q; cases q),fun _=>?_,fun _=>?_⟩
 ·
  rw [h.bk]
  refine Bk.perm_whole h3.ris (fun b=>?_)
  unfold bks
  simp only [List.mem_map]
  exact exists_congr (fun r=>and_congr (hr r) Iff.rfl)
 ·
  rw [h.mb]
  refine Mk.perm_whole h4.ris (fun b=>?_)
  unfold mbs
  simp only [List.mem_map]
  exact exists_congr (fun r=>and_congr (hr r) Iff.rfl)
end Go.Proofs.YtkeapmmochpcfaaGreat.Rp
namespace Go.Proofs.YtkeapmmochpcfaaGreat.Sd
open Go Go.Conc Go.ChangeShapes Go.WideShapes Go.ChangeAt Go.RowKit
open Nf (Stand Bel Pz cutN restN EndQ HasEnd on)
open Bo (Box)
open Vv (Sl sv hidIt)
def body7 (fz : Func:=Tryz.f8) : Code:=fz.body.getD .skip
def nil2 : Array Value:=#[.slice none 0 0,.slice none 0 0]
def W0F (a : Option Addr) (m cap : Nat) (v : World) (T : Array Value) (x : World) : Prop :=
 ∃ u : Nat → Value,T = #[.slice a m cap,u 1,.pointer (some ⟨v.heap.size,0,none⟩),.pointer (some ⟨v.heap.size + 1,0,none⟩),u 4,u 5,u 6,u 7,u 8,u 9,u 10,u 11,u 12,u 13,u 14,u 15,u 16,u 17,u 18] ∧ Bel v.heap.size v x ∧ x.heap.size = v.heap.size + 2 ∧ Box x v.heap.size nil2 ∧ Box x (v.heap.size + 1) nil2
theorem W0F.tape {a : Option Addr} {m cap : Nat} {v : World} : ∀ (T : Array Value) (x : World) (t : Go.Proofs.YtkeapmmochpcfaaGreat.Nf.Tp) (d : Nat),W0F a m cap v T x → W0F a m cap v T (on x t d) :=
 fun T x t d ⟨u,h1,h2,h3,h4,h5⟩=>⟨u,h1,h2.on v.tape t v.drawn d,h3,Rp.box_tape h4,Rp.box_tape h5⟩
theorem whole_p0 (a : Option Addr) (m cap : Nat) (v : World) (t : Go.Proofs.YtkeapmmochpcfaaGreat.Nf.Tp) (d : Nat) : (cutN 2 body7).wp Tryz.prog (EndQ false (W0F a m cap v)) ⟨#[.slice a m cap,undef,undef,undef,undef,undef,undef,undef,undef,undef,undef,undef,undef,undef,undef,undef,undef,undef,undef],[]⟩ (on v t d):=by
 simp only [body7,cutN,Tryz.f8,Option.getD_some]
 go_wp2_with (fail)
 exact ⟨rfl,rfl,fun i=>if i = 5 then .agg nil2 else undef,rfl,(Bel.of (((Below.refl v.heap.size v).alloc (Nat.le_refl _) _).alloc (by simp) _)).on v.tape t v.drawn d,by simp [on],Rp.box_tape (w:=(v.alloc (.cells nil2 32)).alloc (.cells nil2 32)) ((Box.new v nil2 _).alloc _),Rp.box_tape (w:=(v.alloc (.cells nil2 32)).alloc (.cells nil2 32)) (Box.newAt (by simp))⟩
theorem enter_whole (a : Option Addr) (m cap : Nat) : Frame.enter Tryz.prog 8 #[.slice a m cap] .normal = (base 8).at ⟨#[.slice a m cap,undef,undef,undef,undef,undef,undef,undef,undef,undef,undef,undef,undef,undef,undef,undef,undef,undef,undef],[]⟩ [.code body7]:=by
 rw [enter_at (fn:=Tryz.f8) (c:=body7) _ Tryz.func8 rfl]
 simp only [Tryz.ntmps8,List.size_toArray,List.length_cons,List.length_nil,Nat.reduceAdd,Nat.reduceSub,Array.replicate_succ,Array.replicate_zero,List.push_toArray,List.append_toArray,List.nil_append,List.cons_append]
theorem init7 : Tryz.prog.inits.idxOf? 8 = none:=by kernel_rfl
theorem code7a : Go.Proofs.YtkeapmmochpcfaaGreat.Nf.codeB K Tryz.prog 8 (cutN 2 body7) = true:=by kernel_rfl
end Go.Proofs.YtkeapmmochpcfaaGreat.Sd
namespace Go.Proofs.YtkeapmmochpcfaaGreat.Sd
open Go Go.Conc Go.ChangeShapes Go.WideShapes Go.ChangeAt Go.RowKit
open Nf (Stand Bel Pz cutN restN EndQ HasEnd on wpB)
open Bo (Box)
open Vv (Sl sv hidIt)
structure Ac (L : List Rp.Rep) (n0 Ch n : Nat) (l : List Nat) (xs ys : Nat → Value) (tm : Bool) (W0 : World) (r j : Nat) (s t : Sl) (J : Rp.Rep) (w : World) : Prop where
 b2 : Box w n0 nil2
 b3 : Box w (n0 + 1) #[sv s,sv t]
 oE : En.Own w (n0 + 2) (sv s) J.1
 oM : Mm.Own w (n0 + 2) (sv t) J.2
 acc : Rp.Acc L (l.take j) J
 ch : w.heap[Ch]? = some (.chan n ((l.drop r).map fun i=>rep (xs i) (ys i)).toArray true n r tm)
 be : Below n0 W0 w
 gt : n0 + 2 ≤ Ch
section
variable {L : List Rp.Rep} {n0 Ch n : Nat} {l : List Nat} {xs ys : Nat → Value} {tm : Bool} {W0 : World} {r j : Nat} {s t : Sl} {J : Rp.Rep} {w : World}
theorem Ac.kept {w' : World} (h : Ac L n0 Ch n l xs ys tm W0 r j s t J w) (k : Below w.heap.size w w') : Ac L n0 Ch n l xs ys tm W0 r j s t J w':=by
 have hc : Ch < w.heap.size:=(Array.getElem?_eq_some_iff.1 h.ch).1
 have hb:=h.b3.lt
 exact ⟨h.b2.kept k,h.b3.kept k,h.oE.kept k,h.oM.kept k,h.acc,by rw [k.block Ch hc]; exact h.ch,h.be.trans (k.mono (by omega)),h.gt⟩
theorem chan_apart {C : Nat} {o : Obj} {e sz m b : Nat} {v : Value} {ys : List Value} (h : w.ownsRow b e sz v m ys) (hC : w.heap[C]? = some o) (ho : ∀ c e z,o ≠ .cells c e z) : ∀ g,v.ownBlock = some g → g ≠ C:=by
 intro g hg eg
 subst eg
 rcases h.2 with ⟨e1,_⟩ | ⟨x,cap,cur,e1,_,hx,_⟩
 ·
  rw [e1] at hg; cases hg
 ·
  rw [e1] at hg
  cases hg
  rw [hC] at hx
  cases hx
  exact ho _ _ _ rfl
theorem setChan_only (c cap : Nat) (buf : Array Value) (cl : Bool) (p q : Nat) (tm : Bool) (w : World) : Only c w (w.setChan c cap buf cl p q tm) :=
 ⟨rfl,rfl,rfl,by simp [World.setChan],fun k hk hne=>by simp [World.setChan,Array.getElem?_setIfInBounds_ne (Ne.symm hne)]⟩
theorem box_only {b c : Nat} {C : Array Value} {w w' : World} (h : Box w b C) (k : Only c w w') (hne : b ≠ c) : Box w' b C:=by
 have e:=k.block b h.lt hne
 refine ⟨Nat.lt_of_lt_of_le h.lt k.size,fun i=>?_,fun i=>?_⟩
 ·
  rw [← h.at' i]; unfold World.cell?; rw [e]
 ·
  rw [← h.fr i]; unfold World.frozen?; rw [e]
theorem Ac.recv (h : Ac L n0 Ch n l xs ys tm W0 r j s t J w) : Ac L n0 Ch n l xs ys tm W0 (r + 1) j s t J (w.setChan Ch n ((((l.drop r).map fun i=>rep (xs i) (ys i)).toArray).extract 1 (((l.drop r).map fun i=>rep (xs i) (ys i)).toArray).size) true n (r + 1) tm):=by
 have k:=setChan_only Ch n ((((l.drop r).map fun i=>rep (xs i) (ys i)).toArray).extract 1 (((l.drop r).map fun i=>rep (xs i) (ys i)).toArray).size) true n (r + 1) tm w
 have hgt:=h.gt
 have hc : Ch < w.heap.size:=(Array.getElem?_eq_some_iff.1 h.ch).1
 refine ⟨box_only h.b2 k (by omega),box_only h.b3 k (by omega),h.oE.only k (.inr (chan_apart h.oE h.ch (by intro c e z; simp))),h.oM.only k (.inr (chan_apart h.oM h.ch (by intro c e z; simp))),h.acc,?_,⟨k.os.trans h.be.os,k.tape.trans h.be.tape,k.output.trans h.be.output,Nat.le_trans h.be.size k.size,fun i hi=>?_⟩,h.gt⟩
 ·
  show (w.heap.setIfInBounds Ch _)[Ch]? = _
  rw [Array.getElem?_setIfInBounds_self_of_lt hc]
  congr 2
  rw [show r + 1 = 1 + r by omega,← List.drop_drop]
  simp [List.extract_toArray,List.map_drop]
  exact List.take_of_length_le (by simp; omega)
 ·
  rw [k.block i (by have:=h.b2.lt; omega) (by omega)]
  exact h.be.block i hi
theorem Ac.store {s' t' : Sl} {J' : Rp.Rep} (h : Ac L n0 Ch n l xs ys tm W0 r j s t J w) (h1 : En.Own w (n0 + 2) (sv s') J'.1) (h2 : Mm.Own w (n0 + 2) (sv t') J'.2) (ha : Rp.Acc L (l.take (j + 1)) J') :
  Ac L n0 Ch n l xs ys tm W0 r (j + 1) s' t' J' ((w.setCell ⟨n0 + 1,0,none⟩ (sv s')).setCell ⟨n0 + 1,1,none⟩ (sv t')):=by
 have k : Only (n0 + 1) w ((w.setCell ⟨n0 + 1,0,none⟩ (sv s')).setCell ⟨n0 + 1,1,none⟩ (sv t')):=((Only.refl (n0 + 1) w).setCell 0 (sv s')).setCell 1 (sv t')
 have hgt:=h.gt
 have hc : Ch < w.heap.size:=(Array.getElem?_eq_some_iff.1 h.ch).1
 refine ⟨box_only h.b2 k (by omega),(h.b3.put 0 (sv s') (by simp) rfl).put 1 (sv t') (by simp) (by simp),h1.only k (.inl (by omega)),h2.only k (.inl (by omega)),ha,?_,⟨k.os.trans h.be.os,k.tape.trans h.be.tape,k.output.trans h.be.output,Nat.le_trans h.be.size k.size,fun i hi=>?_⟩,h.gt⟩
 ·
  rw [k.block Ch hc (by omega)]; exact h.ch
 ·
  rw [k.block i (by have:=h.b2.lt; omega) (by omega)]
  exact h.be.block i hi
end
def loop7 (fz : Func:=Tryz.f8) : Code:=match restN 3 (body7 fz) with
 | .seq (.seq _ (.block _ (.loop c))) _=>c
 | c=>c
def fst : Code → Code
 | .seq a _=>a
 | c=>c
def snd : Code → Code
 | .seq _ b=>b
 | c=>c
def LI (a0 : Option Addr) (m cap : Nat) (L : List Rp.Rep) (n0 Ch n : Nat) (l : List Nat) (xs ys : Nat → Value) (tm : Bool) (W0 : World) (a : Act) (w : World) : Prop :=
 ∃ (j : Nat) (s t : Sl) (J : Rp.Rep) (u : Nat → Value),a = ⟨#[.slice a0 m cap,u 1,.pointer (some ⟨n0,0,none⟩),.pointer (some ⟨n0 + 1,0,none⟩),u 4,u 5,u 6,u 7,u 8,u 9,u 10,.chan (some Ch),u 12,u 13,u 14,u 15,u 16,u 17,u 18],[]⟩ ∧ j ≤ n ∧ Ac L n0 Ch n l xs ys tm W0 j j s t J w
def mu (Ch : Nat) (_ : Act) (w : World) : Nat:=match w.heap[Ch]? with
 | some (.chan _ b _ _ _ _)=>b.size
 | _=>0
theorem round7 {a0 : Option Addr} {m cap : Nat} {L : List Rp.Rep} {n0 Ch n : Nat} {l : List Nat} {S : List Vv.Rw} {tm : Bool} {W0 : World} {j i : Nat} {s t p q : Sl} {J : Rp.Rep} {w : World} {Q : Exit → Act → World → Prop} {u : Nat → Value} {K : Nat}
  (ok : Rp.okG L = true) (hl : ∀ i ∈ l,i < L.length) (hn : l.length = n) (hj : j < n) (hi : l[j]? = some i) (hS : Rp.RdC W0 a0 S L) (h0 : W0.heap.size = n0) (hp : (Vv.rat S i).1 = p) (hq : (Vv.rat S i).2 = q) (hK : K = n - j)
  (h : Ac L n0 Ch n l (fun i=>sv (Vv.rat S i).1) (fun i=>sv (Vv.rat S i).2) tm W0 (j + 1) j s t J w) :
  (snd loop7).wp Tryz.prog (Exit.then (fun a' w'=>LI a0 m cap L n0 Ch n l (fun i=>sv (Vv.rat S i).1) (fun i=>sv (Vv.rat S i).2) tm W0 a' w' ∧ mu Ch a' w' < K) Q)
   ⟨#[.slice a0 m cap,u 1,.pointer (some ⟨n0,0,none⟩),.pointer (some ⟨n0 + 1,0,none⟩),u 4,u 5,u 6,u 7,u 8,u 9,u 10,.chan (some Ch),.tuple #[.agg #[sv p,sv q],.bool true],.bool true,u 14,u 15,u 16,u 17,u 18],[]⟩ w:=by
 have hiL : i < L.length:=hl i (List.mem_of_getElem? hi)
 have rE : Rp.RdE W0 p (Rp.rat L i).1:=by rw [← hp]; exact hS.bk i hiL
 have rM : Rp.RdM W0 q (Rp.rat L i).2:=by rw [← hq]; exact hS.mb i hiL
 have htk : l.take (j + 1) = l.take j ++ [i]:=by rw [List.take_add_one,hi]; rfl
 have hlt : ∀ x ∈ l.take j,x < L.length:=fun x hx=>hl x (List.mem_of_mem_take hx)
 have HA:=hidIt h
 have okJ:=h.acc.ok ok hlt
 have okI : Rp.okR (Rp.rat L i) = true:=(Rp.okG_all ok).2.2.1 i hiL
 have hlen:=h.acc.len ok hlt hiL
 obtain ⟨s0,s1,s2⟩:=s
 obtain ⟨t0,t1,t2⟩:=t
 obtain ⟨p0,p1,p2⟩:=p
 obtain ⟨q0,q1,q2⟩:=q
 have CB : Hid (∀ W,Ac L n0 Ch n l (fun i=>sv (Vv.rat S i).1) (fun i=>sv (Vv.rat S i).2) tm W0 (j + 1) j (s0,s1,s2) (t0,t1,t2) J W → Calls Tryz.prog 29 #[.agg #[.slice s0 s1 s2,.slice t0 t1 t2],.agg #[.slice p0 p1 p2,.slice q0 q1 q2]] W fun e w'=>Rp.BotP J (Rp.rat L i) W e w'):=hidIt (fun W hW =>
  Rp.impl_bothOf (s0,s1,s2) (t0,t1,t2) (p0,p1,p2) (q0,q1,q2) J (Rp.rat L i) W (Rp.rdE_of hW.oE) (Rp.rdM_of hW.oM) (rE.kept (by rw [h0]; exact hW.be)) (rM.kept (by rw [h0]; exact hW.be)) (Rp.okR_short okJ) (Rp.okR_short okI) okJ okI hlen)
 have HF : Hid (∀ (x y : Sl) (J' : Rp.Rep) (W : World),Ac L n0 Ch n l (fun i=>sv (Vv.rat S i).1) (fun i=>sv (Vv.rat S i).2) tm W0 (j + 1) (j + 1) x y J' W → ∀ v4 v12 v13 v14 v15 v16 v17 : Value,LI a0 m cap L n0 Ch n l (fun i=>sv (Vv.rat S i).1) (fun i=>sv (Vv.rat S i).2) tm W0 ⟨#[.slice a0 m cap,u 1,.pointer (some ⟨n0,0,none⟩),.pointer (some ⟨n0 + 1,0,none⟩),v4,u 5,u 6,u 7,u 8,u 9,u 10,.chan (some Ch),v12,v13,v14,v15,v16,v17,u 18],[]⟩ W):=hidIt (fun x y J' W hW v4 v12 v13 v14 v15 v16 v17=>⟨j + 1,x,y,J',fun i=>match i with
  | 4=>v4
  | 12=>v12
  | 13=>v13
  | 14=>v14
  | 15=>v15
  | 16=>v16
  | 17=>v17
  | k=>u k,rfl,by omega,hW⟩)
 have HMU : Hid (∀ (x y : Sl) (J' : Rp.Rep) (W : World) (a : Act),Ac L n0 Ch n l (fun i=>sv (Vv.rat S i).1) (fun i=>sv (Vv.rat S i).2) tm W0 (j + 1) (j + 1) x y J' W → mu Ch a W < K):=hidIt (fun x y J' W a hW=>by
  unfold mu
  rw [hW.ch]
  simp
  omega)
 have HST:=hidIt htk
 clear h rE rM htk hS hp hq okJ okI hlen
 generalize LI a0 m cap L n0 Ch n l (fun i=>sv (Vv.rat S i).1) (fun i=>sv (Vv.rat S i).2) tm W0 = LQ at HF ⊢
 generalize mu Ch = MU at HMU ⊢
 generalize hx : (fun i=>sv (Vv.rat S i).1) = xs at HA CB HF HMU
 generalize hy : (fun i=>sv (Vv.rat S i).2) = ys at HA CB HF HMU
 clear hx hy
 have HA1 : Hid (Ac L n0 Ch n l xs ys tm W0 (j + 1) j (s0,s1,s2) (t0,t1,t2) J (w.alloc (.cells #[.slice p0 p1 p2,.slice q0 q1 q2] 32))):=hidIt (HA.out.kept ((Below.refl _ w).alloc (Nat.le_refl _) _))
 have c0:=HA1.out.b3.c 0 rfl
 have c1:=HA1.out.b3.c 1 rfl
 have bz:=HA1.out.b3.lt
 simp only [sv] at c0 c1 ⊢
 simp only [loop7,snd,restN,body7,Tryz.f8,Option.getD_some]
 go_wp2_with (fail)
 refine (CB.out _ HA1.out).mono ?_
 intro e w1 hz
 obtain ⟨⟨x0,x1,x2⟩,⟨y0,y1,y2⟩,J',rfl,oE,oM,e1,e2,kk⟩:=hz.out
 clear hz
 have hA2:=HA1.out.kept kk
 have hJ:=hA2.acc.step e1 e2
 rw [← HST.out] at hJ
 have HS:=hidIt (hA2.store (oE.mono (by omega)) (oM.mono (by omega)) hJ)
 have d0:=hA2.b3.c 0 rfl
 have f0:=hA2.b3.fr 0
 have b9:=hA2.b3.put 0 (.slice x0 x1 x2) (by simp) rfl
 have d1:=b9.c 1 rfl
 have f1:=b9.fr 1
 clear hA2 hJ oE oM e1 e2 kk c0 c1 b9 HA HA1 CB HST hi hiL hlt ok hl
 simp only [sv] at HS d0 d1 ⊢
 go_wp2_with (fail)
 exact ⟨HF.out _ _ _ _ HS.out _ _ _ _ _ _ _,HMU.out _ _ _ _ _ HS.out⟩
def W2F (L : List Rp.Rep) (v : World) (T : Array Value) (x : World) : Prop :=
 ∃ (s t : Sl) (J : Rp.Rep),Rp.WhlR L J ∧ (results Tryz.f8 T).run Tryz.prog x = .ok (.agg #[sv s,sv t]) x ∧ En.Own x v.heap.size (sv s) J.1 ∧ Mm.Own x v.heap.size (sv t) J.2 ∧ Bel v.heap.size v x
theorem W2F.tape {L : List Rp.Rep} {v : World} : ∀ (T : Array Value) (x : World) (t : Go.Proofs.YtkeapmmochpcfaaGreat.Nf.Tp) (d : Nat),W2F L v T x → W2F L v T (on x t d) :=
 fun T x t d ⟨s,q,J,h1,h2,h3,h4,h5⟩=>⟨s,q,J,h1,Go.Proofs.YtkeapmmochpcfaaGreat.Nf.results_on h2 t d,h3,h4,h5.on v.tape t v.drawn d⟩
theorem recv_run {a : Act} {o : Oper} {w : World} {x : Operand} {Ch : Nat} (hop : o.op = .recv 49 x true) (hx : a.eval x = .chan (some Ch)) : (execOp a.eval o).run Tryz.prog w = .ok (.comm #[rcase Ch (.agg nil2)] true (.recv true)) w:=by
 unfold execOp
 simp only [hop,hx]
 simp [go_sem,rcase]
 rfl
def tail7 (fz : Func:=Tryz.f8) : Code:=snd (restN 3 (body7 fz))
theorem loop7_eq : loop7 = .seq (fst loop7) (snd loop7):=by simp only [loop7,fst,snd,restN,body7,Tryz.f8,Option.getD_some]
theorem tail7_wp {a0 : Option Addr} {m cap : Nat} {L : List Rp.Rep} {n0 Ch n : Nat} {l : List Nat} {xs ys : Nat → Value} {tm : Bool} {v : World} {t' : Go.Proofs.YtkeapmmochpcfaaGreat.Nf.Tp} {d' : Nat} {r j : Nat} {s t : Sl} {J : Rp.Rep} {w : World} {u : Nat → Value}
  (h0 : v.heap.size = n0) (hW : Rp.WhlR L J) (h : Ac L n0 Ch n l xs ys tm (on v t' d') r j s t J w) :
  tail7.wp Tryz.prog (EndQ true (W2F L v)) ⟨#[.slice a0 m cap,u 1,.pointer (some ⟨n0,0,none⟩),.pointer (some ⟨n0 + 1,0,none⟩),u 4,u 5,u 6,u 7,u 8,u 9,u 10,.chan (some Ch),u 12,u 13,u 14,u 15,u 16,u 17,u 18],[]⟩ w:=by
 have HA:=hidIt h
 obtain ⟨s0,s1,s2⟩:=s
 obtain ⟨t0,t1,t2⟩:=t
 have c0:=h.b3.c 0 rfl
 have c1:=h.b3.c 1 rfl
 have d0:=h.b2.c 0 rfl
 have f0:=h.b2.fr 0
 have b9:=h.b2.put 0 (.slice s0 s1 s2) (by simp [nil2]) rfl
 have d1:=b9.c 1 rfl
 have f1:=b9.fr 1
 have bT:=b9.put 1 (.slice t0 t1 t2) (by simp [nil2]) rfl
 have r0:=bT.c 0 rfl
 have r1:=bT.c 1 rfl
 clear h b9 bT
 have HW:=hidIt hW
 clear hW
 simp only [sv,nil2] at c0 c1 d0 d1 r0 r1
 simp only [tail7,snd,restN,body7,Tryz.f8,Option.getD_some]
 go_wp2_with (fail)
 have k : Only n0 w ((w.setCell ⟨n0,0,none⟩ (.slice s0 s1 s2)).setCell ⟨n0,1,none⟩ (.slice t0 t1 t2)):=((Only.refl n0 w).setCell 0 _).setCell 1 _
 have be:=HA.out.be
 have hsz:=HA.out.b2.lt
 refine ⟨rfl,rfl,(s0,s1,s2),(t0,t1,t2),J,HW.out,by simp [results,Tryz.results8,go_sem,r0,r1,sv],(HA.out.oE.only k (.inl (by omega))).mono (by omega),(HA.out.oM.only k (.inl (by omega))).mono (by omega),⟨k.os.trans be.os,k.output.trans be.output,Nat.le_trans be.size k.size,fun i hi=>?_⟩⟩
 rw [k.block i (by omega) (by omega)]
 exact be.block i (by omega)
theorem rest7_wp {a0 : Option Addr} {m cap : Nat} {L : List Rp.Rep} {n0 Ch n : Nat} {l : List Nat} {S : List Vv.Rw} {tm : Bool} {v : World} {t' : Go.Proofs.YtkeapmmochpcfaaGreat.Nf.Tp} {d' : Nat} {w : World} {u : Nat → Value}
  (h0 : v.heap.size = n0) (ok : Rp.okG L = true) (hp : l.Perm (List.range L.length)) (hL : L.length = n) (hS : Rp.RdC (on v t' d') a0 S L)
  (h : Ac L n0 Ch n l (fun i=>sv (Vv.rat S i).1) (fun i=>sv (Vv.rat S i).2) tm (on v t' d') 0 0 (none,0,0) (none,0,0) ([],[]) w) :
  wpB Tryz.prog (base 8) (.seq (.block 0 (.loop loop7)) tail7) (EndQ true (W2F L v)) ⟨#[.slice a0 m cap,u 1,.pointer (some ⟨n0,0,none⟩),.pointer (some ⟨n0 + 1,0,none⟩),u 4,u 5,u 6,u 7,u 8,u 9,u 10,.chan (some Ch),u 12,u 13,u 14,u 15,u 16,u 17,u 18],[]⟩ w:=by
 have hln : l.length = n:=by rw [hp.length_eq,List.length_range,hL]
 have hl : ∀ i ∈ l,i < L.length:=fun i hi=>List.mem_range.1 (hp.mem_iff.1 hi)
 refine Go.Proofs.YtkeapmmochpcfaaGreat.Nf.wpB_seq (Go.Proofs.YtkeapmmochpcfaaGreat.Nf.wpB_block (Go.Proofs.YtkeapmmochpcfaaGreat.Nf.wpB_loop (LI a0 m cap L n0 Ch n l (fun i=>sv (Vv.rat S i).1) (fun i=>sv (Vv.rat S i).2) tm (on v t' d')) (mu Ch) ⟨0,_,_,_,u,rfl,Nat.zero_le _,h⟩ ?_))
 rintro a w ⟨j,s,t,J,u,rfl,hjn,hA⟩
 rw [loop7_eq]
 by_cases hj : j < n
 ·
  have hi : l[j]? = some l[j]:=List.getElem?_eq_getElem (by omega)
  have hmu : ∀ a,mu Ch a w = n - j:=fun a=>by unfold mu; rw [hA.ch]; simp; omega
  have hbuf : ((l.drop j).map fun i=>rep (sv (Vv.rat S i).1) (sv (Vv.rat S i).2)).toArray.getD 0 undef = rep (sv (Vv.rat S l[j]).1) (sv (Vv.rat S l[j]).2):=by
   rw [Array.getD_eq_getD_getElem?]
   simp [hi]
  refine Go.Proofs.YtkeapmmochpcfaaGreat.Nf.wpB_seq ?_
  refine Go.Proofs.YtkeapmmochpcfaaGreat.Nf.wpB_recv (o := { dst := some 12, op := .recv 49 (.tmp 11) true, type := 0, pos := "l13_gossip.go:123", after := #[], guard := none }) (l := [{ dst := some 13, op := .extract (.tmp 12) 1, type := 4, pos := "l13_gossip.go:123", after := #[{ on := 0, ground := .data }], guard := none }]) (by decide) rfl (recv_run rfl rfl) hA.ch (by simp; omega) ?_
  rw [hbuf]
  have hA2:=hA.recv
  have HR:=fun Q u=>round7 (a0:=a0) (m:=m) (cap:=cap) (Q:=Q) (u:=u) ok hl hln hj hi hS h0 rfl rfl rfl hA2
  generalize w.setChan Ch n _ true n (j + 1) tm = w2 at HR ⊢
  simp only [hmu]
  generalize Exit.inBlock 0 (Exit.then (wpB Tryz.prog (base 8) tail7 (EndQ true (W2F L v))) (EndQ true (W2F L v))) = Q0
  replace HR:=HR Q0
  generalize hq : (Exit.then (fun a' w'=>LI a0 m cap L n0 Ch n l (fun i=>sv (Vv.rat S i).1) (fun i=>sv (Vv.rat S i).2) tm (on v t' d') a' w' ∧ mu Ch a' w' < n - j) Q0) = Q1 at HR ⊢
  clear hq hA hA2 h hbuf hmu
  generalize (Vv.rat S l[j]).1 = p at HR ⊢
  generalize (Vv.rat S l[j]).2 = q at HR ⊢
  simp only [Act.put,List.setIfInBounds_toArray,List.set_cons_succ,List.set_cons_zero,rep]
  go_wp2_with (fail)
  exact Go.Proofs.YtkeapmmochpcfaaGreat.Nf.wpB_of (HR _)
 ·
  have ej : j = n:=by omega
  subst ej
  have hch:=hA.ch
  rw [List.drop_of_length_le (by omega),List.map_nil] at hch
  have HT:=fun u=>tail7_wp (a0:=a0) (m:=m) (cap:=cap) (u:=u) h0 (hA.acc.whl ok (by rw [List.take_of_length_le (by omega)]; exact hp)) hA
  refine Go.Proofs.YtkeapmmochpcfaaGreat.Nf.wpB_seq ?_
  refine Go.Proofs.YtkeapmmochpcfaaGreat.Nf.wpB_recv0 (o := { dst := some 12, op := .recv 49 (.tmp 11) true, type := 0, pos := "l13_gossip.go:123", after := #[], guard := none }) (l := [{ dst := some 13, op := .extract (.tmp 12) 1, type := 4, pos := "l13_gossip.go:123", after := #[{ on := 0, ground := .data }], guard := none }]) (by decide) rfl (recv_run rfl rfl) hch ?_
  have hx : ∀ (R : Act → World → Prop) a' w',tail7.wp Tryz.prog (EndQ true (W2F L v)) a' w' → (Exit.then R (Exit.inBlock 0 (Exit.then (wpB Tryz.prog (base 8) tail7 (EndQ true (W2F L v))) (EndQ true (W2F L v))))) (.exit 0) a' w':=fun R a' w' h=>Go.Proofs.YtkeapmmochpcfaaGreat.Nf.wpB_of h
  have hx2:=hx (fun a' w'=>LI a0 m cap L n0 Ch j l (fun i=>sv (Vv.rat S i).1) (fun i=>sv (Vv.rat S i).2) tm (on v t' d') a' w' ∧ mu Ch a' w' < mu Ch ⟨#[.slice a0 m cap,u 1,.pointer (some ⟨n0,0,none⟩),.pointer (some ⟨n0 + 1,0,none⟩),u 4,u 5,u 6,u 7,u 8,u 9,u 10,.chan (some Ch),u 12,u 13,u 14,u 15,u 16,u 17,u 18],[]⟩ w)
  clear hx
  generalize (Exit.then (fun a' w'=>LI a0 m cap L n0 Ch j l (fun i=>sv (Vv.rat S i).1) (fun i=>sv (Vv.rat S i).2) tm (on v t' d') a' w' ∧ mu Ch a' w' < mu Ch _ w) (Exit.inBlock 0 (Exit.then (wpB Tryz.prog (base 8) tail7 (EndQ true (W2F L v))) (EndQ true (W2F L v))))) = Q1 at hx2 ⊢
  clear hch hA h hp ok hS hl hln hL hj hjn
  simp only [Act.put,List.setIfInBounds_toArray,List.set_cons_succ,List.set_cons_zero]
  go_wp2_with (fail)
  refine Go.Proofs.YtkeapmmochpcfaaGreat.Nf.wpB_of ?_
  simp only [loop7,snd,restN,body7,Tryz.f8,Option.getD_some]
  go_wp2_with (fail)
  exact HT (fun i=>match i with
   | 12=>.tuple #[.agg nil2,.bool false]
   | 13=>.bool false
   | k=>u k)
end Go.Proofs.YtkeapmmochpcfaaGreat.Sd
namespace Go.Proofs.YtkeapmmochpcfaaGreat.Sd
open Go Go.Conc Go.ChangeShapes Go.WideShapes Go.ChangeAt Go.RowKit
open Nf (Stand Bel Pz cutN restN EndQ HasEnd on wpB)
open Bo (Box)
open Vv (Sl sv hidIt)
set_option linter.unusedSimpArgs false
theorem whole_stand [Go.ConcR.Payload] {m0 : Machine} {B : Nat → Prop} {c : Frame} {cs : List Frame} {v : World} (a : Option Addr) (cap : Nat) (L : List Rp.Rep) (hR : Rp.Rd v a L) (hs : Rp.Short L) (hl : L.length ≤ 9223372036854775807) (hlb : ∀ i,i < L.length → (Rp.rat L i).1.length ≤ 9223372036854775807 ∧ (Rp.rat L i).2.length ≤ 9223372036854775807)
  (h : Stand Tryz.prog m0 B (G (Frame.enter Tryz.prog 8 #[.slice a L.length cap] .normal) (c :: cs)) v) :
  ∃ (s t : Sl) (J : Rp.Rep) (v' : World) (B' : Nat → Prop),Stand Tryz.prog m0 B' (G (c.finish (.agg #[sv s,sv t])) cs) v' ∧ Rp.WhlR L J ∧ En.Own v' v.heap.size (sv s) J.1 ∧ Mm.Own v' v.heap.size (sv t) J.2 ∧ Bel v.heap.size v v' ∧ ∀ b,B' b → B b ∨ v.heap.size ≤ b:=by
 rw [enter_whole] at h
 obtain ⟨T1,v1,h1,u,rfl,hb1,hs1,bx0,bx1⟩:=Go.Proofs.YtkeapmmochpcfaaGreat.Nf.stand_pieceM good quiets init7 (fun i=>rfl) (td:=[.code (cutN 2 body7)]) (r:=restN 2 body7) rfl (by intro x hx; simp only [List.mem_singleton] at hx; subst hx; exact code7a) ⟨[],_,rfl,rfl⟩ W0F.tape h (fun t d=>Go.Proofs.YtkeapmmochpcfaaGreat.Nf.hasEnd_code (whole_p0 a L.length cap v t d))
 simp only [restN,body7,Tryz.f8,Option.getD_some] at h1
 replace h1:=Go.Proofs.YtkeapmmochpcfaaGreat.Nf.stand_region (Go.Proofs.YtkeapmmochpcfaaGreat.Nf.stand_seq (Go.Proofs.YtkeapmmochpcfaaGreat.Nf.stand_seq h1))
 simp only [List.size_toArray,List.length_cons,List.length_nil,Nat.reduceAdd,Nat.zero_add,List.range,List.range.loop] at h1
 replace h1:=Go.Proofs.YtkeapmmochpcfaaGreat.Nf.stand_oper good (fun i=>rfl) rfl rfl (by decide) (by rfl) (.inl rfl) (fun t d=>rfl) h1
 try simp only [Act.put,Act.eval,List.map_toArray,List.map_cons,List.map_nil,Array.getD_eq_getD_getElem?,List.getElem?_toArray,List.getElem?_cons_succ,List.getElem?_cons_zero,Option.getD_some,Option.bind_some,List.size_toArray,List.length_cons,List.length_nil,Nat.reduceAdd,Nat.reduceSub,Nat.zero_add,List.range,List.range.loop,Array.replicate_succ,Array.replicate_zero,List.push_toArray,List.append_toArray,List.nil_append,List.cons_append,List.setIfInBounds_toArray,List.set_cons_succ,List.set_cons_zero,List.getElem_toArray,List.getElem_cons_succ,List.getElem_cons_zero] at h1
 replace h1:=Go.Proofs.YtkeapmmochpcfaaGreat.Nf.stand_enter rfl rfl (by decide) rfl Tryz.func11 (by decide) rfl h1
 try simp only [Act.put,Act.eval,List.map_toArray,List.map_cons,List.map_nil,Array.getD_eq_getD_getElem?,List.getElem?_toArray,List.getElem?_cons_succ,List.getElem?_cons_zero,Option.getD_some,Option.bind_some,List.size_toArray,List.length_cons,List.length_nil,Nat.reduceAdd,Nat.reduceSub,Nat.zero_add,List.range,List.range.loop,Array.replicate_succ,Array.replicate_zero,List.push_toArray,List.append_toArray,List.nil_append,List.cons_append,List.setIfInBounds_toArray,List.set_cons_succ,List.set_cons_zero,List.getElem_toArray,List.getElem_cons_succ,List.getElem_cons_zero] at h1
 have hR1 : Rp.Rd v1 a L:=hR.bel hb1
 obtain ⟨val,v2,h2,rfl,hb2⟩:=Go.Proofs.YtkeapmmochpcfaaGreat.Nf.stand_call good quiets (R:=fun val x=>val = .bool (Rp.okG L) ∧ Bel v1.heap.size v1 x) (fun x w t d ⟨h1,h2⟩=>⟨h1,h2.on v1.tape t v1.drawn d⟩) Tryz.func11 rfl (by kernel_rfl) (by kernel_rfl) (fun i=>rfl) h1
  (fun t d=>(Rp.impl_GroupOk a cap L (on v1 t d) hR1.tape hs hl hlb).mono (fun e w' hz=>⟨_,hz.1,rfl,Rp.bel_from hz.2⟩))
 rw [Go.Proofs.YtkeapmmochpcfaaGreat.Nf.finish_mid rfl] at h2
 clear h1
 have h1:=h2
 clear h2
 have hb3:=hb1.trans (hb2.mono (by have:=hb1.size; omega))
 have bx0':=Rp.box_bel bx0 hb2
 have bx1':=Rp.box_bel bx1 hb2
 have hn2 : v1.heap.size ≤ v2.heap.size:=hb2.size
 try simp only [Act.put,Act.eval,List.map_toArray,List.map_cons,List.map_nil,Array.getD_eq_getD_getElem?,List.getElem?_toArray,List.getElem?_cons_succ,List.getElem?_cons_zero,Option.getD_some,Option.bind_some,List.size_toArray,List.length_cons,List.length_nil,Nat.reduceAdd,Nat.reduceSub,Nat.zero_add,List.range,List.range.loop,Array.replicate_succ,Array.replicate_zero,List.push_toArray,List.append_toArray,List.nil_append,List.cons_append,List.setIfInBounds_toArray,List.set_cons_succ,List.set_cons_zero,List.getElem_toArray,List.getElem_cons_succ,List.getElem_cons_zero] at h1
 cases ok : Rp.okG L with
 | false =>
  rw [ok] at h1
  replace h1:=Go.Proofs.YtkeapmmochpcfaaGreat.Nf.stand_oper good (fun i=>rfl) rfl rfl (by decide) (by rfl) (.inl rfl) (fun t d=>rfl) h1
  try simp only [Act.put,Act.eval,List.map_toArray,List.map_cons,List.map_nil,Array.getD_eq_getD_getElem?,List.getElem?_toArray,List.getElem?_cons_succ,List.getElem?_cons_zero,Option.getD_some,Option.bind_some,List.size_toArray,List.length_cons,List.length_nil,Nat.reduceAdd,Nat.reduceSub,Nat.zero_add,List.range,List.range.loop,Array.replicate_succ,Array.replicate_zero,List.push_toArray,List.append_toArray,List.nil_append,List.cons_append,List.setIfInBounds_toArray,List.set_cons_succ,List.set_cons_zero,List.getElem_toArray,List.getElem_cons_succ,List.getElem_cons_zero,if_true,if_false,Bool.false_eq_true,↓reduceIte] at h1
  replace h1:=Go.Proofs.YtkeapmmochpcfaaGreat.Nf.stand_cond rfl (Go.Proofs.YtkeapmmochpcfaaGreat.Nf.stand_region_end h1)
  try simp only [Act.put,Act.eval,List.map_toArray,List.map_cons,List.map_nil,Array.getD_eq_getD_getElem?,List.getElem?_toArray,List.getElem?_cons_succ,List.getElem?_cons_zero,Option.getD_some,Option.bind_some,List.size_toArray,List.length_cons,List.length_nil,Nat.reduceAdd,Nat.reduceSub,Nat.zero_add,List.range,List.range.loop,Array.replicate_succ,Array.replicate_zero,List.push_toArray,List.append_toArray,List.nil_append,List.cons_append,List.setIfInBounds_toArray,List.set_cons_succ,List.set_cons_zero,List.getElem_toArray,List.getElem_cons_succ,List.getElem_cons_zero,if_true,if_false,Bool.false_eq_true,↓reduceIte] at h1
  replace h1:=Go.Proofs.YtkeapmmochpcfaaGreat.Nf.stand_region (Go.Proofs.YtkeapmmochpcfaaGreat.Nf.stand_seq h1)
  try simp only [Act.put,Act.eval,List.map_toArray,List.map_cons,List.map_nil,Array.getD_eq_getD_getElem?,List.getElem?_toArray,List.getElem?_cons_succ,List.getElem?_cons_zero,Option.getD_some,Option.bind_some,List.size_toArray,List.length_cons,List.length_nil,Nat.reduceAdd,Nat.reduceSub,Nat.zero_add,List.range,List.range.loop,Array.replicate_succ,Array.replicate_zero,List.push_toArray,List.append_toArray,List.nil_append,List.cons_append,List.setIfInBounds_toArray,List.set_cons_succ,List.set_cons_zero,List.getElem_toArray,List.getElem_cons_succ,List.getElem_cons_zero,if_true,if_false,Bool.false_eq_true,↓reduceIte] at h1
  replace h1:=Go.Proofs.YtkeapmmochpcfaaGreat.Nf.stand_oper good (fun i=>rfl) rfl rfl (by decide) (by rfl) (v':=v2) (.inl rfl) (fun t d=>run_load rfl rfl (bx1'.c 0 rfl) (bx1'.c 1 rfl)) h1
  try simp only [Act.put,Act.eval,List.map_toArray,List.map_cons,List.map_nil,Array.getD_eq_getD_getElem?,List.getElem?_toArray,List.getElem?_cons_succ,List.getElem?_cons_zero,Option.getD_some,Option.bind_some,List.size_toArray,List.length_cons,List.length_nil,Nat.reduceAdd,Nat.reduceSub,Nat.zero_add,List.range,List.range.loop,Array.replicate_succ,Array.replicate_zero,List.push_toArray,List.append_toArray,List.nil_append,List.cons_append,List.setIfInBounds_toArray,List.set_cons_succ,List.set_cons_zero,List.getElem_toArray,List.getElem_cons_succ,List.getElem_cons_zero,if_true,if_false,Bool.false_eq_true,↓reduceIte] at h1
  replace h1:=Go.Proofs.YtkeapmmochpcfaaGreat.Nf.stand_oper good (fun i=>rfl) rfl rfl (by decide) (by rfl) (v':=(v2.setCell ⟨v.heap.size,0,none⟩ (.slice none 0 0)).setCell ⟨v.heap.size,1,none⟩ (.slice none 0 0)) (.inr ⟨rfl,rfl⟩) (fun t d=>run_store rfl rfl rfl ⟨_,_,_,rfl⟩ ⟨_,_,_,rfl⟩ (Rp.box_tape bx0') rfl) h1
  try simp only [Act.put,Act.eval,List.map_toArray,List.map_cons,List.map_nil,Array.getD_eq_getD_getElem?,List.getElem?_toArray,List.getElem?_cons_succ,List.getElem?_cons_zero,Option.getD_some,Option.bind_some,List.size_toArray,List.length_cons,List.length_nil,Nat.reduceAdd,Nat.reduceSub,Nat.zero_add,List.range,List.range.loop,Array.replicate_succ,Array.replicate_zero,List.push_toArray,List.append_toArray,List.nil_append,List.cons_append,List.setIfInBounds_toArray,List.set_cons_succ,List.set_cons_zero,List.getElem_toArray,List.getElem_cons_succ,List.getElem_cons_zero,if_true,if_false,Bool.false_eq_true,↓reduceIte] at h1
  replace h1:=Go.Proofs.YtkeapmmochpcfaaGreat.Nf.stand_goret rfl (Go.Proofs.YtkeapmmochpcfaaGreat.Nf.stand_region_end h1)
  have b9:=(bx0'.put 0 (.slice none 0 0) (by simp [nil2]) rfl).put 1 (.slice none 0 0) (by simp [nil2]) rfl
  have r0:=b9.c 0 rfl
  have r1:=b9.c 1 rfl
  replace h1:=Go.Proofs.YtkeapmmochpcfaaGreat.Nf.stand_ret (val:=.agg #[.slice none 0 0,.slice none 0 0]) Tryz.func8 h1 (by simp [results,Tryz.results8,go_sem,r0,r1]; rfl)
  refine ⟨(none,0,0),(none,0,0),([],[]),_,_,h1,⟨fun _=>rfl,(fun q=>by rw [ok] at q; cases q),(fun q=>by rw [ok] at q; cases q)⟩,⟨rfl,.inl ⟨rfl,rfl⟩⟩,⟨rfl,.inl ⟨rfl,rfl⟩⟩,hb3.trans (Bel.of (((Below.refl _ _).setCell (p:=⟨v.heap.size,0,none⟩) (Nat.le_refl _) _).setCell (p:=⟨v.heap.size,1,none⟩) (Nat.le_refl _) _)),fun b hb=>.inl hb⟩
 | true =>
  rw [ok] at h1
  replace h1:=Go.Proofs.YtkeapmmochpcfaaGreat.Nf.stand_oper good (fun i=>rfl) rfl rfl (by decide) (by rfl) (.inl rfl) (fun t d=>rfl) h1
  try simp only [Act.put,Act.eval,List.map_toArray,List.map_cons,List.map_nil,Array.getD_eq_getD_getElem?,List.getElem?_toArray,List.getElem?_cons_succ,List.getElem?_cons_zero,Option.getD_some,Option.bind_some,List.size_toArray,List.length_cons,List.length_nil,Nat.reduceAdd,Nat.reduceSub,Nat.zero_add,List.range,List.range.loop,Array.replicate_succ,Array.replicate_zero,List.push_toArray,List.append_toArray,List.nil_append,List.cons_append,List.setIfInBounds_toArray,List.set_cons_succ,List.set_cons_zero,List.getElem_toArray,List.getElem_cons_succ,List.getElem_cons_zero,if_true,if_false,Bool.false_eq_true,↓reduceIte] at h1
  replace h1:=Go.Proofs.YtkeapmmochpcfaaGreat.Nf.stand_cond rfl (Go.Proofs.YtkeapmmochpcfaaGreat.Nf.stand_region_end h1)
  try simp only [Act.put,Act.eval,List.map_toArray,List.map_cons,List.map_nil,Array.getD_eq_getD_getElem?,List.getElem?_toArray,List.getElem?_cons_succ,List.getElem?_cons_zero,Option.getD_some,Option.bind_some,List.size_toArray,List.length_cons,List.length_nil,Nat.reduceAdd,Nat.reduceSub,Nat.zero_add,List.range,List.range.loop,Array.replicate_succ,Array.replicate_zero,List.push_toArray,List.append_toArray,List.nil_append,List.cons_append,List.setIfInBounds_toArray,List.set_cons_succ,List.set_cons_zero,List.getElem_toArray,List.getElem_cons_succ,List.getElem_cons_zero,if_true,if_false,Bool.false_eq_true,↓reduceIte] at h1
  replace h1:=Go.Proofs.YtkeapmmochpcfaaGreat.Nf.stand_region (Go.Proofs.YtkeapmmochpcfaaGreat.Nf.stand_seq (Go.Proofs.YtkeapmmochpcfaaGreat.Nf.stand_seq (Go.Proofs.YtkeapmmochpcfaaGreat.Nf.stand_skip h1)))
  try simp only [Act.put,Act.eval,List.map_toArray,List.map_cons,List.map_nil,Array.getD_eq_getD_getElem?,List.getElem?_toArray,List.getElem?_cons_succ,List.getElem?_cons_zero,Option.getD_some,Option.bind_some,List.size_toArray,List.length_cons,List.length_nil,Nat.reduceAdd,Nat.reduceSub,Nat.zero_add,List.range,List.range.loop,Array.replicate_succ,Array.replicate_zero,List.push_toArray,List.append_toArray,List.nil_append,List.cons_append,List.setIfInBounds_toArray,List.set_cons_succ,List.set_cons_zero,List.getElem_toArray,List.getElem_cons_succ,List.getElem_cons_zero,if_true,if_false,Bool.false_eq_true,↓reduceIte] at h1
  replace h1:=Go.Proofs.YtkeapmmochpcfaaGreat.Nf.stand_oper good (fun i=>rfl) rfl rfl (by decide) (by rfl) (.inl rfl) (fun t d=>rfl) h1
  try simp only [Act.put,Act.eval,List.map_toArray,List.map_cons,List.map_nil,Array.getD_eq_getD_getElem?,List.getElem?_toArray,List.getElem?_cons_succ,List.getElem?_cons_zero,Option.getD_some,Option.bind_some,List.size_toArray,List.length_cons,List.length_nil,Nat.reduceAdd,Nat.reduceSub,Nat.zero_add,List.range,List.range.loop,Array.replicate_succ,Array.replicate_zero,List.push_toArray,List.append_toArray,List.nil_append,List.cons_append,List.setIfInBounds_toArray,List.set_cons_succ,List.set_cons_zero,List.getElem_toArray,List.getElem_cons_succ,List.getElem_cons_zero,if_true,if_false,Bool.false_eq_true,↓reduceIte] at h1
  replace h1:=Go.Proofs.YtkeapmmochpcfaaGreat.Nf.stand_enter rfl rfl (by decide) rfl Tryz.func30 (by decide) rfl h1
  try simp only [Act.put,Act.eval,List.map_toArray,List.map_cons,List.map_nil,Array.getD_eq_getD_getElem?,List.getElem?_toArray,List.getElem?_cons_succ,List.getElem?_cons_zero,Option.getD_some,Option.bind_some,List.size_toArray,List.length_cons,List.length_nil,Nat.reduceAdd,Nat.reduceSub,Nat.zero_add,List.range,List.range.loop,Array.replicate_succ,Array.replicate_zero,List.push_toArray,List.append_toArray,List.nil_append,List.cons_append,List.setIfInBounds_toArray,List.set_cons_succ,List.set_cons_zero,List.getElem_toArray,List.getElem_cons_succ,List.getElem_cons_zero,if_true,if_false,Bool.false_eq_true,↓reduceIte] at h1
  obtain ⟨hn1,hn6,_,_⟩:=Rp.okG_all ok
  obtain ⟨S,hS⟩:=hR
  obtain ⟨lb,lo,rfl⟩:=Rp.Rd.addr ⟨S,hS⟩ hn1
  have hS2 : Rp.RdC v2 (some ⟨lb,lo,none⟩) S L:=hS.bel hb3
  have hcell : ∀ j,j < L.length → v2.cell? ⟨lb,lo + j * 2,none⟩ = some (sv (Vv.rat S j).1) ∧ v2.cell? ⟨lb,lo + j * 2 + 1,none⟩ = some (sv (Vv.rat S j).2):=fun j hj=>by
   obtain ⟨b,off,e,c0,c1⟩:=hS2.row.all (i:=j) (by rw [hS2.len]; exact hj)
   cases e
   exact ⟨c0,c1⟩
  obtain ⟨v3,B3,l,tm,h3,hch,hp,hb4,hB3⟩:=stand_said (xs:=fun j=>sv (Vv.rat S j).1) (ys:=fun j=>sv (Vv.rat S j).2) (by omega) hn1 h1 (fun j hj=>(hcell j hj).1) (fun j hj=>(hcell j hj).2) (fun j _=>⟨_,_,_,rfl⟩) (fun j _=>⟨_,_,_,rfl⟩)
  have hll : l.length = L.length:=by rw [hp.length_eq,List.length_range]
  rw [hll] at hch
  clear h1
  have h1:=Go.Proofs.YtkeapmmochpcfaaGreat.Nf.stand_region_end h3
  clear h3
  try simp only [Act.put,Act.eval,List.map_toArray,List.map_cons,List.map_nil,Array.getD_eq_getD_getElem?,List.getElem?_toArray,List.getElem?_cons_succ,List.getElem?_cons_zero,Option.getD_some,Option.bind_some,List.size_toArray,List.length_cons,List.length_nil,Nat.reduceAdd,Nat.reduceSub,Nat.zero_add,List.range,List.range.loop,Array.replicate_succ,Array.replicate_zero,List.push_toArray,List.append_toArray,List.nil_append,List.cons_append,List.setIfInBounds_toArray,List.set_cons_succ,List.set_cons_zero,List.getElem_toArray,List.getElem_cons_succ,List.getElem_cons_zero,if_true,if_false,Bool.false_eq_true,↓reduceIte] at h1
  have hb5:=hb3.trans (hb4.mono (by have:=hb3.size; omega))
  obtain ⟨T',li,v4,h4,s,t,J,hW,hres,oE,oM,hb6⟩:=Go.Proofs.YtkeapmmochpcfaaGreat.Nf.stand_pieceL good quiets init7 (fun i=>rfl) (td:=[.code (.block 0 (.loop loop7)),.code tail7]) (F:=W2F L v) (by
    intro x hx
    simp only [List.mem_cons,List.not_mem_nil,or_false] at hx
    rcases hx with rfl | rfl
    ·
     show Go.Proofs.YtkeapmmochpcfaaGreat.Nf.codeB K Tryz.prog 8 _ = true
     kernel_rfl
    ·
     show Go.Proofs.YtkeapmmochpcfaaGreat.Nf.codeB K Tryz.prog 8 _ = true
     kernel_rfl) ⟨[.code (.block 0 (.loop loop7))],tail7,rfl,by kernel_rfl⟩ W2F.tape h1 (fun t d=>Go.Proofs.YtkeapmmochpcfaaGreat.Nf.hasEndB_seq (rest7_wp (n0:=v.heap.size) (Ch:=v2.heap.size) (S:=S) (tm:=tm) (t':=t) (d':=d) (l:=l) (n:=L.length) (u:=fun i=>match i with
    | 6=>.slice (some ⟨lb,lo,none⟩) L.length cap
    | 7=>.bool true
    | 8=>.bool !true
    | 10=>.slice (some ⟨lb,lo,none⟩) L.length cap
    | k=>u k) rfl ok hp rfl (Rp.RdC.bel hS (x:=on v t d) ⟨rfl,rfl,Nat.le_refl _,fun _ _=>rfl⟩) ⟨Rp.box_tape (Rp.box_bel bx0' hb4),Rp.box_tape (Rp.box_bel bx1' hb4),⟨rfl,.inl ⟨rfl,rfl⟩⟩,⟨rfl,.inl ⟨rfl,rfl⟩⟩,Rp.Acc.nil L,hch,hb5.below t d d,by omega⟩))
  exact ⟨s,t,J,v4,B3,Go.Proofs.YtkeapmmochpcfaaGreat.Nf.stand_ret Tryz.func8 h4 hres,hW,oE,oM,hb6,fun b hb=>(hB3 b hb).imp id (fun h=>by have:=hb3.size; omega)⟩
end Go.Proofs.YtkeapmmochpcfaaGreat.Sd
namespace Go.Proofs.YtkeapmmochpcfaaGreat.An
open Go Go.Conc Go.ChangeShapes Go.WideShapes Go.ChangeAt Go.RowKit
open Nf (Stand Bel Pz cutN restN EndQ HasEnd on)
open Bo (Box)
open Vv (Sl sv hidIt)
set_option linter.unusedSimpArgs false
def body4 (fz : Func:=Tryz.f4) : Code:=fz.body.getD .skip
section
variable (a0 : Option Addr) (len0 cap0 : Nat) (W0 : World)
def S1 (p : Option Addr) (m q : Nat) (p2 : Option Addr) (m2 q2 : Nat) (u : Nat → Value) : Array Value:=#[.slice a0 len0 cap0,u 1,.bool false,.slice p m q,.slice p2 m2 q2,u 5,u 6,u 7,u 8,u 9,u 10,u 11,u 12,u 13,u 14,u 15,u 16,u 17,u 18,u 19,u 20,u 21,u 22,u 23,u 24,u 25,u 26,u 27,u 28,u 29,u 30,u 31,u 32,u 33,u 34,u 35,u 36,u 37,u 38,u 39,u 40,u 41,u 42,u 43,u 44,u 45,u 46,u 47,u 48,u 49,u 50,u 51,u 52,u 53,u 54,u 55,u 56,u 57,u 58,u 59,u 60,u 61,u 62,u 63]
structure G1 (p : Option Addr) (m q : Nat) (p2 : Option Addr) (m2 q2 lo hi lo2 hi2 : Nat) (L M : List Rp.Rep) (x : World) : Prop where
 be : Bel W0.heap.size W0 x
 om : Rp.Own x lo hi (.slice p m q) L
 oa : Rp.Own x lo2 hi2 (.slice p2 m2 q2) M
 ml : L.length = m
 ml2 : M.length = m2
 mc2 : m2 ≤ q2
 ar : Rp.ArndR L M
 sm : Rp.Sm L
def F1 (T : Array Value) (x : World) : Prop:=∃ p m q p2 m2 q2 lo hi lo2 hi2 L M,T = S1 a0 len0 cap0 p m q p2 m2 q2 (fun i=>T.getD i undef) ∧ G1 W0 p m q p2 m2 q2 lo hi lo2 hi2 L M x
def F5 (T : Array Value) (x : World) : Prop:=T[2]? = some (.bool true) ∧ Bel W0.heap.size W0 x
end
theorem F1.tape {a0 : Option Addr} {len0 cap0 : Nat} {W0 : World} : ∀ (T : Array Value) (x : World) (t : Go.Proofs.YtkeapmmochpcfaaGreat.Nf.Tp) (d : Nat),F1 a0 len0 cap0 W0 T x → F1 a0 len0 cap0 W0 T (on x t d) :=
 fun T x t d ⟨p,m,q,p2,m2,q2,lo,hi,lo2,hi2,L,M,h1,h⟩=>⟨p,m,q,p2,m2,q2,lo,hi,lo2,hi2,L,M,h1,⟨h.be.on W0.tape t W0.drawn d,h.om.tape,h.oa.tape,h.ml,h.ml2,h.mc2,h.ar,h.sm⟩⟩
theorem F5.tape {W0 : World} : ∀ (T : Array Value) (x : World) (t : Go.Proofs.YtkeapmmochpcfaaGreat.Nf.Tp) (d : Nat),F5 W0 T x → F5 W0 T (on x t d) :=
 fun T x t d ⟨h1,h2⟩=>⟨h1,h2.on W0.tape t W0.drawn d⟩
theorem law_p1 (a0 : Option Addr) (len0 cap0 : Nat) (W0 W : World) (hc : Dr.Code W.heap.size W a0 len0) (hl : len0 ≤ 4096) (be : Bel W0.heap.size W0 W) :
  (cutN 6 body4).wp Tryz.prog (EndQ false (F1 a0 len0 cap0 W0)) ⟨#[.slice a0 len0 cap0,undef,undef,undef,undef,undef,undef,undef,undef,undef,undef,undef,undef,undef,undef,undef,undef,undef,undef,undef,undef,undef,undef,undef,undef,undef,undef,undef,undef,undef,undef,undef,undef,undef,undef,undef,undef,undef,undef,undef,undef,undef,undef,undef,undef,undef,undef,undef,undef,undef,undef,undef,undef,undef,undef,undef,undef,undef,undef,undef,undef,undef,undef,undef],[]⟩ W:=by
 have HC:=hidIt hc
 have hsz:=be.size
 have hbig : decide (4096 < (len0 : Int)) = false:=by simp; omega
 have HF : Hid (∀ p m q p2 m2 q2 lo hi lo2 hi2 L M x T,T = S1 a0 len0 cap0 p m q p2 m2 q2 (fun i=>T.getD i undef) → Below W.heap.size W x → (Bel W0.heap.size W0 x → G1 W0 p m q p2 m2 q2 lo hi lo2 hi2 L M x) → F1 a0 len0 cap0 W0 T x):=hidIt (fun p m q p2 m2 q2 lo hi lo2 hi2 L M x T h1 h2 h3=>⟨p,m,q,p2,m2,q2,lo,hi,lo2,hi2,L,M,h1,h3 (be.trans ((Bel.of h2).mono hsz))⟩)
 clear hc be hsz
 generalize F1 a0 len0 cap0 W0 = FF at HF ⊢
 simp only [body4,cutN,Tryz.f4,Option.getD_some]
 go_wp2_with (fail)
 refine (Dr.big_any a0 len0 cap0 _).mono ?_
 rintro e w1 ⟨rfl,rfl⟩
 rw [hbig]
 go_wp2_with (fail)
 refine (Rp.DrawAround_any a0 len0 cap0 _ HC.out hl).mono ?_
 intro e w2 hz
 obtain ⟨v,L,rfl,sm,o,k⟩:=hz.out
 obtain ⟨p,q,rfl,hq,hqc,hqn⟩:=o.form
 have HS:=hidIt sm
 have HO:=hidIt o
 have HB:=hidIt k
 have CI:=hidIt (fun V (r : Rp.Rd V p L)=>Rp.impl_Around p q L V r sm.s sm.l sm.lb)
 have CS:=hidIt (fun V (r : Rp.Rd V p L)=>Rp.spec_Around p q L V r sm.s sm.l sm.lb)
 clear hz sm o k hq hqc hqn
 generalize hm : L.length = m at *
 have HM:=hidIt hm
 clear hm
 go_wp2_with (fail)
 refine (CI.out _ HO.out.rd).mono ?_
 intro e w3 hz
 obtain ⟨M,hA,hz⟩:=hz.out
 obtain ⟨v,rfl,o,k⟩:=hz.out
 obtain ⟨p2,q2,rfl,hq2,hqc2,hqn2⟩:=o.form
 have HA:=hidIt hA
 have HO2:=hidIt o
 have hsm:=Rp.Sm.arnd hA
 replace HO:=hidIt (HO.out.kept k)
 have HB3:=hidIt (HB.out.trans (k.mono HB.out.size))
 have LG:=hidIt (fun V a' c' (r : Rp.Rd V p2 M) (r' : Rp.Rd V a' M)=>Rp.likeGroup_same p2 a' q2 c' M V r r' hsm)
 have HQ2:=hidIt hq2
 clear hz o k hA hsm hq2 hqc2 hqn2 HB CI
 generalize hm2 : M.length = m2 at *
 have HM2:=hidIt hm2
 clear hm2
 go_wp2_with (fail)
 refine (Rp.DrawAgreed_any a0 len0 cap0 _ (HC.out.kept HB3.out) hl).mono ?_
 intro e w4 hz
 obtain ⟨v,K,rfl,sm,o,k⟩:=hz.out
 obtain ⟨p3,q3,rfl,hq3,hqc3,hqn3⟩:=o.form
 have HO3:=hidIt o
 replace HO:=hidIt (HO.out.kept k)
 replace HO2:=hidIt (HO2.out.kept k)
 have HB4:=hidIt (HB3.out.trans (k.mono HB3.out.size))
 have AI:=hidIt (fun V (r : Rp.Rd V p3 K)=>Rp.impl_Agreed p3 q3 K V r sm.s sm.l sm.lb hq3)
 have AS:=hidIt (fun V (r : Rp.Rd V p3 K)=>Rp.spec_Agreed p3 q3 K V r sm.s sm.l sm.lb)
 clear hz sm o k hq3 hqc3 hqn3 HB3 HC
 generalize Rp.agR K = bb at AI AS
 generalize K.length = m3 at *
 go_wp2_with (fail)
 refine (CS.out _ HO.out.rd).mono ?_
 intro e w5 hz
 obtain ⟨M',hA',hz⟩:=hz.out
 obtain ⟨v,rfl,o,k⟩:=hz.out
 obtain rfl:=hA'.unique HA.out
 obtain ⟨p4,q4,rfl,_⟩:=o.formN HM2.out
 have HO4:=hidIt o
 replace HO:=hidIt (HO.out.kept k)
 replace HO2:=hidIt (HO2.out.kept k)
 replace HO3:=hidIt (HO3.out.kept k)
 have HB5:=hidIt (HB4.out.trans (k.mono HB4.out.size))
 clear hz o k hA' HB4 CS
 go_wp2_with (fail)
 refine (LG.out _ p4 q4 HO2.out.rd HO4.out.rd).mono ?_
 rintro e w6 ⟨rfl,k⟩
 replace HO:=hidIt (HO.out.kept k)
 replace HO2:=hidIt (HO2.out.kept k)
 replace HO3:=hidIt (HO3.out.kept k)
 have HB6:=hidIt (HB5.out.trans (k.mono HB5.out.size))
 clear k HB5 HO4 LG
 go_wp2_with (fail)
 refine (AI.out _ HO3.out.rd).mono ?_
 rintro e w7 ⟨rfl,k⟩
 replace HO:=hidIt (HO.out.kept k)
 replace HO2:=hidIt (HO2.out.kept k)
 replace HO3:=hidIt (HO3.out.kept k)
 have HB7:=hidIt (HB6.out.trans (k.mono HB6.out.size))
 clear k HB6 AI
 go_wp2_with (fail)
 refine (AS.out _ HO3.out.rd).mono ?_
 rintro e w8 ⟨rfl,k⟩
 replace HO:=hidIt (HO.out.kept k)
 replace HO2:=hidIt (HO2.out.kept k)
 have HB8:=hidIt (HB7.out.trans (k.mono HB7.out.size))
 clear k HB7 AS HO3
 have hbb : (bb != bb) = false:=by simp
 go_wp2_with (fail)
 exact ⟨rfl,rfl,HF.out p m q p2 m2 q2 _ _ _ _ L M' w8 _ rfl HB8.out (fun be=>⟨be,HO.out,HO2.out,HM.out,HM2.out,HQ2.out,HA.out,HS.out⟩)⟩
end Go.Proofs.YtkeapmmochpcfaaGreat.An
