/- What the laws do with Replicas: whether two are alike; marks, and whether they hold. -/
import Derived.Test.YtkeapmmochpcfaaGreatBun22
import Derived.Test.YtkeapmmochpcfaaGreatBun2
import Derived.Test.YtkeapmmochpcfaaGreatMem2N
import Derived.Test.YtkeapmmochpcfaaGreatBokP
import Derived.Test.YtkeapmmochpcfaaGreatBokH
import Derived.Test.YtkeapmmochpcfaaGreatBun3
import Derived.WalkSmall
set_option maxRecDepth 100000
set_option maxHeartbeats 32000000
set_option linter.unusedVariables false
namespace Go.Proofs.YtkeapmmochpcfaaGreat.Rp
open Go.ChangeShapes Go.WideShapes Go.ChangeAt Go.RowKit
open Vv (Sl sv hidIt)
open Rc (BelowBy BelowBy.one wp_region_below calls_below calls_same)
end Go.Proofs.YtkeapmmochpcfaaGreat.Rp
namespace Go.Proofs.YtkeapmmochpcfaaGreat.Bk
def whole (G:List (List En)):List En:=G.foldl mergeE []
def AllRis (G:List (List En)):Prop:=∀ b∈G,Ris b
theorem pick_or (x y:Option En):pickE x y=x∨pickE x y=y:=by
 cases x with
 | none=>exact .inr rfl
 | some a =>
  cases y with
  | none=>exact .inl rfl
  | some b =>
   show some _=some a∨some _=some b
   cases newB b a
   ·
    exact .inl rfl
   ·
    exact .inr rfl
theorem merge_ris {A B:List En} (hA:Ris A) (hB:Ris B):Ris (mergeE A B):=(merge_join A B hA hB).ris
theorem merge_look {A B:List En} (hA:Ris A) (hB:Ris B) (k:Bytes):look (mergeE A B) k=pickE (look A k) (look B k):=(merge_join A B hA hB).at' k
structure Top (k:Bytes) (G:List (List En)) (m:Option En):Prop where
 key:KeyAt k m
 ub:∀ b∈G,pickE (look b k) m=m
 mem:m=none∨∃ b∈G,look b k=m
theorem Top.none_of {k:Bytes} {G:List (List En)} (h:Top k G none) {b:List En} (hb:b∈G):look b k=none:=by
 have:=h.ub b hb
 rw[pick_none_right] at this
 exact this
theorem Top.unique {k:Bytes} {G:List (List En)} {m m':Option En} (h:Top k G m) (h':Top k G m'):m=m':=by
 rcases h.mem with e | ⟨b,hb,e⟩
 ·
  subst e
  rcases h'.mem with e' | ⟨b',hb',e'⟩
  ·
   exact e'.symm
  ·
   rw[<- e',h.none_of hb']
 ·
  rcases h'.mem with e' | ⟨b',hb',e'⟩
  ·
   subst e'
   rw[<- e,h'.none_of hb]
  ·
   have h1:=h'.ub b hb
   have h2:=h.ub b' hb'
   rw[e] at h1
   rw[e'] at h2
   rw[<- h2,<- pick_comm h.key h'.key,h1]
theorem pick_absorb {k:Bytes} {x y m:Option En} (hx:KeyAt k x) (hy:KeyAt k y) (hm:KeyAt k m) (h:pickE (pickE x y) m=m):pickE x m=m∧pickE y m=m:=by
 constructor
 ·
  have e:=h
  rw[pick_assoc hx hy hm] at e
  rw[<- e,<- pick_assoc hx hx (pick_at hy hm),pick_self]
 ·
  have e:=h
  rw[pick_comm hx hy,pick_assoc hy hx hm] at e
  rw[<- e,<- pick_assoc hy hy (pick_at hx hm),pick_self]
theorem fold_ris:∀ (G:List (List En)) (A:List En),Ris A->AllRis G->Ris (G.foldl mergeE A)
 | [],A,hA,_=>hA
 | b::G,A,hA,hG=>fold_ris G (mergeE A b) (merge_ris hA (hG b (List.mem_cons_self ..))) (fun c hc=>hG c (List.mem_cons_of_mem _ hc))
theorem fold_top (k:Bytes):∀ (G:List (List En)) (A:List En),Ris A->AllRis G->Top k (A::G) (look (G.foldl mergeE A) k)
 | [],A,hA,_=>⟨look_at _ _,fun b hb=>by rw[List.mem_singleton.1 hb];exact pick_self _,.inr ⟨A,List.mem_singleton.2 rfl,rfl⟩⟩
 | b::G,A,hA,hG=>by
  have hb:=hG b (List.mem_cons_self ..)
  have ih:=fold_top k G (mergeE A b) (merge_ris hA hb) (fun c hc=>hG c (List.mem_cons_of_mem _ hc))
  have hu:=ih.ub _ (List.mem_cons_self ..)
  rw[merge_look hA hb] at hu
  obtain⟨u1,u2⟩:=pick_absorb (look_at A k) (look_at b k) ih.key hu
  refine⟨ih.key,fun c hc=>?_,?_⟩
  ·
   rcases List.mem_cons.1 hc with rfl | hc
   ·
    exact u1
   ·
    rcases List.mem_cons.1 hc with rfl | hc
    ·
     exact u2
    ·
     exact ih.ub c (List.mem_cons_of_mem _ hc)
  ·
   rcases ih.mem with e | ⟨c,hc,e⟩
   ·
    exact .inl e
   ·
    rcases List.mem_cons.1 hc with rfl | hc
    ·
     rw[merge_look hA hb] at e
     rcases pick_or (look A k) (look b k) with q | q
     ·
      exact .inr ⟨A,List.mem_cons_self ..,q.symm.trans e⟩
     ·
      exact .inr ⟨b,List.mem_cons_of_mem _ (List.mem_cons_self ..),q.symm.trans e⟩
    ·
     exact .inr ⟨c,List.mem_cons_of_mem _ (List.mem_cons_of_mem _ hc),e⟩
theorem ris_nil:Ris []:=List.Pairwise.nil
theorem whole_ris {G:List (List En)} (h:AllRis G):Ris (whole G):=fold_ris G [] ris_nil h
theorem whole_top {G:List (List En)} (h:AllRis G) (k:Bytes):Top k G (look (whole G) k):=by
 have t:=fold_top k G [] ris_nil h
 refine⟨t.key,fun b hb=>t.ub b (List.mem_cons_of_mem _ hb),?_⟩
 rcases t.mem with e | ⟨b,hb,e⟩
 ·
  exact .inl e
 ·
  rcases List.mem_cons.1 hb with rfl | hb
  ·
   exact .inl e.symm
  ·
   exact .inr ⟨b,hb,e⟩
theorem whole_of {G:List (List En)} {W:List En} (h:AllRis G) (hW:Ris W) (t:∀ k,Top k G (look W k)):whole G=W :=
 ris_ext (whole_ris h) hW (fun k=>(whole_top h k).unique (t k))
theorem whole_snoc (G:List (List En)) (b:List En):whole (G++[b])=mergeE (whole G) b:=by
 unfold whole
 rw[List.foldl_append]
 rfl
theorem merge_comm {A B:List En} (hA:Ris A) (hB:Ris B):mergeE A B=mergeE B A:=(merge_join A B hA hB).unique (merge_join B A hB hA).comm
theorem sub_len:∀ (A B:List En),Ris A->Ris B->(∀ k,look B k=none->look A k=none)->A.length<=B.length
 | [],_,_,_,_=>Nat.zero_le _
 | a::A,[],hA,_,h=>by
  have:=h a.key (look_nil _)
  rw[look_cons,if_pos rfl] at this
  cases this
 | a::A,b::B,hA,hB,h=>by
  obtain⟨a1,a2⟩:=ris_cons.1 hA
  obtain⟨b1,b2⟩:=ris_cons.1 hB
  by_cases e:b.key=a.key
  ·
   have:=sub_len A B a2 b2 (fun k hk=>by
    by_cases q:a.key=k
    ·
     exact look_none_of (fun x hx e'=>by have:=a1 x hx;rw[e',q] at this;exact List.lt_irrefl _ this)
    ·
     have h2:=h k (by rw[look_cons,if_neg (by rw[e];exact q)];exact hk)
     rw[look_cons,if_neg q] at h2
     exact h2)
   simp only[List.length_cons]
   omega
  ·
   by_cases l:b.key<a.key
   ·
    have:=sub_len (a::A) B hA b2 (fun k hk=>by
     by_cases q:b.key=k
     ·
      refine look_none_of (fun x hx e'=>?_)
      rcases List.mem_cons.1 hx with rfl | hx
      ·
       rw[e',q] at l;exact List.lt_irrefl _ l
      ·
       have:=List.lt_trans l (a1 x hx)
       rw[e',q] at this
       exact List.lt_irrefl _ this
     ·
      exact h k (by rw[look_cons,if_neg q];exact hk))
    simp only[List.length_cons] at this ⊢
    omega
   ·
    exfalso
    have:=h a.key (look_none_of (fun x hx e'=>by
     rcases List.mem_cons.1 hx with rfl | hx
     ·
      exact e e'
     ·
      have:=b1 x hx;rw[e'] at this;exact l this))
    rw[look_cons,if_pos rfl] at this
    cases this
theorem len_whole {G:List (List En)} (h:AllRis G) {b:List En} (hb:b∈G):b.length<=(whole G).length :=
 sub_len b _ (h b hb) (whole_ris h) (fun k hk=>by have t:=whole_top h k;rw[hk] at t;exact t.none_of hb)
theorem whole_mem {G:List (List En)} (h:AllRis G) {e:En} (he:e∈whole G):∃ b∈G,e∈b:=by
 have hl:=look_mem (whole_ris h) he
 rcases (whole_top h e.key).mem with q | ⟨b,hb,q⟩
 ·
  rw[hl] at q;cases q
 ·
  rw[hl] at q
  exact⟨b,hb,(look_some q).1⟩
def at0 (G:List (List En)) (i:Nat):List En:=G.getD i []
theorem at0_mem {G:List (List En)} {i:Nat} (h:i<G.length):at0 G i∈G:=by
 unfold at0
 rw[List.getD_eq_getElem?_getD,List.getElem?_eq_getElem h]
 exact List.getElem_mem h
theorem at0_get {G:List (List En)} {i:Nat} (h:i<G.length):at0 G i=G[i]:=by
 unfold at0
 rw[List.getD_eq_getElem?_getD,List.getElem?_eq_getElem h]
 rfl
theorem at0_set {G:List (List En)} {i j:Nat} {x:List En} (h:i<G.length):at0 (G.set i x) j=if i=j then x else at0 G j:=by
 unfold at0
 rw[List.getD_eq_getElem?_getD,List.getD_eq_getElem?_getD,List.getElem?_set]
 by_cases e:i=j
 ·
  subst e;simp[h]
 ·
  simp[e]
def tell (G:List (List En)) (f t:Nat):List (List En):=G.set t (mergeE (at0 G t) (at0 G f))
theorem tell_length (G:List (List En)) (f t:Nat):(tell G f t).length=G.length:=List.length_set ..
theorem tell_at {G:List (List En)} {f t i:Nat} (ht:t<G.length):at0 (tell G f t) i=if t=i then mergeE (at0 G t) (at0 G f) else at0 G i:=at0_set ht
theorem setAll_ris {G:List (List En)} {i:Nat} {x:List En} (h:AllRis G) (hx:Ris x):AllRis (G.set i x):=by
 intro b hb
 rcases List.mem_or_eq_of_mem_set hb with q | q
 ·
  exact h b q
 ·
  rw[q];exact hx
theorem tell_ris {G:List (List En)} {f t:Nat} (h:AllRis G) (hf:f<G.length) (ht:t<G.length):AllRis (tell G f t):=setAll_ris h (merge_ris (h _ (at0_mem ht)) (h _ (at0_mem hf)))
theorem tell_whole {G:List (List En)} {f t:Nat} (h:AllRis G) (hf:f<G.length) (ht:t<G.length):whole (tell G f t)=whole G:=by
 refine whole_of (tell_ris h hf ht) (whole_ris h) (fun k=>?_)
 have T:=whole_top h k
 have rt:=h _ (at0_mem ht)
 have rf:=h _ (at0_mem hf)
 have ej:=merge_look rt rf k
 have ut:=T.ub _ (at0_mem ht)
 have uf:=T.ub _ (at0_mem hf)
 refine⟨T.key,fun b hb=>?_,?_⟩
 ·
  rcases List.mem_or_eq_of_mem_set hb with q | q
  ·
   exact T.ub b q
  ·
   rw[q,ej,pick_assoc (look_at _ k) (look_at _ k) T.key,uf,ut]
 ·
  rcases T.mem with e | ⟨b,hb,e⟩
  ·
   exact .inl e
  ·
   obtain⟨j,hj,rfl⟩:=List.mem_iff_getElem.1 hb
   by_cases q:t=j
   ·
    subst q
    refine .inr ⟨mergeE (at0 G t) (at0 G f),?_,?_⟩
    ·
     exact List.mem_iff_getElem.2 ⟨t,by rw[tell_length];exact hj,by unfold tell;rw[List.getElem_set_self]⟩
    ·
     rw[ej,at0_get hj,e,pick_comm T.key (look_at _ k)]
     exact uf
   ·
    refine .inr ⟨G[j],?_,e⟩
    exact List.mem_iff_getElem.2 ⟨j,by rw[tell_length];exact hj,by unfold tell;rw[List.getElem_set_ne q]⟩
theorem take_ris {G:List (List En)} (h:AllRis G) (j:Nat):AllRis (G.take j):=fun b hb=>h b (List.mem_of_mem_take hb)
end Go.Proofs.YtkeapmmochpcfaaGreat.Bk
namespace Go.Proofs.YtkeapmmochpcfaaGreat.Hq
def par (i:Nat):Nat:=(i - 1) / 2
theorem par_lt {i:Nat} (h:0<i):par i<i:=by unfold par;omega
variable {α : Type}
def upd (x:Nat->α) (i:Nat) (y:α):Nat->α:=fun k=>if k=i then y else x k
def swp (x:Nat->α) (i j:Nat):Nat->α:=fun k=>if k=j then x i else if k=i then x j else x k
theorem upd_at (x:Nat->α) (i:Nat) (y:α):upd x i y i=y:=by simp[upd]
theorem upd_ne {x:Nat->α} {i k:Nat} {y:α} (h:k≠i):upd x i y k=x k:=by simp[upd,h]
theorem swp_j (x:Nat->α) (i j:Nat):swp x i j j=x i:=by simp[swp]
theorem swp_i (x:Nat->α) (i j:Nat):swp x i j i=x j:=by
 unfold swp
 by_cases h:i=j
 ·
  rw[if_pos h,h]
 ·
  rw[if_neg h,if_pos rfl]
theorem swp_ne {x:Nat->α} {i j k:Nat} (h1:k≠i) (h2:k≠j):swp x i j k=x k:=by simp[swp,h1,h2]
theorem swp_upd (x:Nat->α) (i j:Nat):swp x i j=upd (upd x i (x j)) j (x i):=by
 funext k
 simp[swp,upd]
def Hok (le:α->α->Prop) (n:Nat) (x:Nat->α):Prop:=∀ i,0<i->i<n->le (x (par i)) (x i)
structure Uok (le:α->α->Prop) (n:Nat) (x:Nat->α) (j:Nat):Prop where
 most:∀ i,0<i->i<n->i≠j->le (x (par i)) (x i)
 over:0<j->∀ i,0<i->i<n->par i=j->le (x (par j)) (x i)
structure Dok (le:α->α->Prop) (n:Nat) (x:Nat->α) (j:Nat):Prop where
 most:∀ i,0<i->i<n->par i≠j->le (x (par i)) (x i)
 over:0<j->∀ i,0<i->i<n->par i=j->le (x (par j)) (x i)
theorem up_stop {le:α->α->Prop} {n j:Nat} {x:Nat->α} (h:Uok le n x j) (k:0<j->le (x (par j)) (x j)):Hok le n x:=by
 intro i h0 hn
 by_cases e:i=j
 ·
  subst e;exact k h0
 ·
  exact h.most i h0 hn e
theorem up_swap {le:α->α->Prop} (tr:∀ a b c,le a b->le b c->le a c) {n j:Nat} {x:Nat->α} (h:Uok le n x j) (h0:0<j) (hn:j<n) (hl:le (x j) (x (par j))):Uok le n (swp x (par j) j) (par j):=by
 have hp:=par_lt h0
 refine⟨fun i i0 iN ine=>?_,fun p0 i i0 iN ip=>?_⟩
 ·
  by_cases e:i=j
  ·
   subst e
   rw[swp_i,swp_j]
   exact hl
  ·
   rw[swp_ne (x:=x) ine e]
   by_cases e1:par i=j
   ·
    rw[e1,swp_j]
    exact h.over h0 i i0 iN e1
   ·
    by_cases e2:par i=par j
    ·
     have:=h.most i i0 iN e
     rw[e2] at this
     rw[e2,swp_i]
     exact tr _ _ _ hl this
    ·
     rw[swp_ne e2 e1]
     exact h.most i i0 iN e
 ·
  have hpp:=par_lt p0
  rw[swp_ne (x:=x) (k:=par (par j)) (by omega) (by omega)]
  have h1:=h.most (par j) p0 (by omega) (by omega)
  by_cases e:i=j
  ·
   subst e
   rw[swp_j]
   exact h1
  ·
   have:=par_lt i0
   rw[swp_ne (x:=x) (k:=i) (by omega) e]
   have h2:=h.most i i0 iN e
   rw[ip] at h2
   exact tr _ _ _ h1 h2
theorem down_stop {le:α->α->Prop} {n j:Nat} {x:Nat->α} (h:Dok le n x j) (k:∀ i,0<i->i<n->par i=j->le (x j) (x i)):Hok le n x:=by
 intro i h0 hn
 by_cases e:par i=j
 ·
  rw[e];exact k i h0 hn e
 ·
  exact h.most i h0 hn e
theorem down_swap {le:α->α->Prop} {n i j:Nat} {x:Nat->α} (h:Dok le n x i) (h0:0<j) (hn:j<n) (hp:par j=i) (hl:le (x j) (x i)) (hs:∀ k,0<k->k<n->par k=i->le (x j) (x k)):Dok le n (swp x i j) j:=by
 have hij:=par_lt h0
 refine⟨fun k k0 kN kp=>?_,fun _ k k0 kN kp=>?_⟩
 ·
  have hk:=par_lt k0
  by_cases e:k=j
  ·
   subst e
   rw[hp,swp_i,swp_j]
   exact hl
  ·
   by_cases e1:k=i
   ·
    subst e1
    rw[swp_i,swp_ne (x:=x) (k:=par k) (by omega) (by omega)]
    exact h.over k0 j h0 hn hp
   ·
    rw[swp_ne (x:=x) (k:=k) e1 e]
    by_cases e2:par k=i
    ·
     rw[e2,swp_i]
     exact hs k k0 kN e2
    ·
     rw[swp_ne e2 kp]
     exact h.most k k0 kN e2
 ·
  have hk:=par_lt k0
  rw[hp,swp_i,swp_ne (x:=x) (k:=k) (by omega) (by omega)]
  have:=h.most k k0 kN (by omega)
  rw[kp] at this
  exact this
theorem push_ok {le:α->α->Prop} {n:Nat} {x:Nat->α} (h:Hok le n x) (y:α):Uok le (n+1) (upd x n y) n:=by
 refine⟨fun i h0 hn hi=>?_,fun h0 i i0 iN ip=>?_⟩
 ·
  have:=par_lt h0
  rw[upd_ne (x:=x) (k:=i) hi,upd_ne (x:=x) (k:=par i) (by omega)]
  exact h i h0 (by omega)
 ·
  have:=par_lt i0
  omega
theorem pop_ok {le:α->α->Prop} {n:Nat} {x:Nat->α} (h:Hok le (n+1) x):Dok le n (swp x 0 n) 0:=by
 refine⟨fun i h0 hn hi=>?_,fun h0=>absurd h0 (by omega)⟩
 have:=par_lt h0
 rw[swp_ne (x:=x) (k:=i) (by omega) (by omega),swp_ne (x:=x) (k:=par i) hi (by omega)]
 exact h i h0 (by omega)
theorem fix_ok {le:α->α->Prop} {n:Nat} {x:Nat->α} (h:Hok le n x) (y:α):Dok le n (upd x 0 y) 0:=by
 refine⟨fun i h0 hn hi=>?_,fun h0=>absurd h0 (by omega)⟩
 rw[upd_ne (x:=x) (k:=i) (by omega),upd_ne (x:=x) (k:=par i) hi]
 exact h i h0 hn
theorem top_le {le:α->α->Prop} (rf:∀ a,le a a) (tr:∀ a b c,le a b->le b c->le a c) {n:Nat} {x:Nat->α} (h:Hok le n x):∀ i,i<n->le (x 0) (x i):=by
 intro i
 induction i using Nat.strongRecOn with
 | ind i ih =>
  intro hn
  rcases Nat.eq_zero_or_pos i with rfl | h0
  ·
   exact rf _
  ·
   have hp:=par_lt h0
   exact tr _ _ _ (ih (par i) hp (by omega)) (h i h0 hn)
def tot (f:α->Nat) (x:Nat->α):Nat->Nat
 | 0=>0
 | n+1=>tot f x n+f (x n)
theorem tot_out (f:α->Nat) {x:Nat->α} {i:Nat} {y:α}:∀ {n:Nat},n<=i->tot f (upd x i y) n=tot f x n
 | 0,_=>rfl
 | n+1,h=>by
  show tot f (upd x i y) n+f (upd x i y n)=tot f x n+f (x n)
  rw[tot_out f (by omega),upd_ne (by omega)]
theorem tot_upd (f:α->Nat) {x:Nat->α} {i:Nat} {y:α}:∀ {n:Nat},i<n->tot f (upd x i y) n+f (x i)=tot f x n+f y
 | 0,h=>absurd h (by omega)
 | n+1,h=>by
  show tot f (upd x i y) n+f (upd x i y n)+f (x i)=tot f x n+f (x n)+f y
  by_cases e:i=n
  ·
   subst e
   rw[tot_out f (Nat.le_refl _),upd_at]
   omega
  ·
   have:=tot_upd f (x:=x) (i:=i) (y:=y) (n:=n) (by omega)
   rw[upd_ne (by omega)]
   omega
theorem tot_le (f:α->Nat) {x:Nat->α} {m:Nat}:∀ {n:Nat},(∀ i,i<n->f (x i)<=m)->tot f x n<=n*m
 | 0,_=>by simp[tot]
 | n+1,h=>by
  show tot f x n+f (x n)<=(n+1)*m
  have:=tot_le f (x:=x) (m:=m) (n:=n) (fun i hi=>h i (by omega))
  have:=h n (by omega)
  rw[Nat.add_mul]
  omega
theorem tot_swp (f:α->Nat) {x:Nat->α} {i j n:Nat} (hi:i<n) (hj:j<n):tot f (swp x i j) n=tot f x n:=by
 rw[swp_upd]
 have h1:=tot_upd f (x:=x) (i:=i) (y:=x j) hi
 have h2:=tot_upd f (x:=upd x i (x j)) (i:=j) (y:=x i) hj
 by_cases e:i=j
 ·
  subst e
  rw[upd_at] at h2
  omega
 ·
  rw[upd_ne (x:=x) (k:=j) (fun h=>e h.symm)] at h2
  omega
structure Per (n:Nat) (x y:Nat->α):Prop where
 from':∀ i,i<n->∃ j,j<n∧y i=x j
 to':∀ i,i<n->∃ j,j<n∧x i=y j
 sum:∀ f:α->Nat,tot f y n=tot f x n
theorem Per.refl (n:Nat) (x:Nat->α):Per n x x:=⟨fun i h=>⟨i,h,rfl⟩,fun i h=>⟨i,h,rfl⟩,fun _=>rfl⟩
theorem Per.trans {n:Nat} {x y z:Nat->α} (h:Per n x y) (k:Per n y z):Per n x z :=
 ⟨fun i hi=>by
   obtain⟨j,hj,e⟩:=k.from' i hi
   obtain⟨m,hm,e2⟩:=h.from' j hj
   exact⟨m,hm,e.trans e2⟩,
  fun i hi=>by
   obtain⟨j,hj,e⟩:=h.to' i hi
   obtain⟨m,hm,e2⟩:=k.to' j hj
   exact⟨m,hm,e.trans e2⟩,
  fun f=>(k.sum f).trans (h.sum f)⟩
theorem Per.swp {n:Nat} {x y:Nat->α} (h:Per n x y) {i j:Nat} (hi:i<n) (hj:j<n):Per n x (swp y i j):=by
 refine h.trans ⟨fun k hk=>?_,fun k hk=>?_,fun f=>tot_swp f hi hj⟩
 ·
  by_cases e1:k=j
  ·
   subst e1;exact⟨i,hi,swp_j ..⟩
  ·
   by_cases e2:k=i
   ·
    subst e2;exact⟨j,hj,swp_i ..⟩
   ·
    exact⟨k,hk,swp_ne e2 e1⟩
 ·
  by_cases e1:k=j
  ·
   subst e1;exact⟨i,hi,(swp_i ..).symm⟩
  ·
   by_cases e2:k=i
   ·
    subst e2;exact⟨j,hj,(swp_j ..).symm⟩
   ·
    exact⟨k,hk,(swp_ne e2 e1).symm⟩
end Go.Proofs.YtkeapmmochpcfaaGreat.Hq
namespace Go.Proofs.YtkeapmmochpcfaaGreat.Bk
open Hq (tot)
structure Mq (K:Bytes->Prop) (N:Nat) (J:List En) (n:Nat) (y:Nat->List En):Prop where
 ris:Ris J
 each:∀ i,i<n->Ris (y i)
 keys:∀ k,K k↔(∃ e∈J,e.key=k)∨∃ i,i<n∧∃ e∈y i,e.key=k
 ahead:∀ e∈J,∀ i,i<n->∀ e'∈y i,¬ e'.key<e.key
 len:J.length+tot List.length y n<=N
theorem Mq.start {n:Nat} {y:Nat->List En} (h:∀ i,i<n->Ris (y i)):Mq (fun k=>∃ i,i<n∧∃ e∈y i,e.key=k) (tot List.length y n) [] n y :=
 ⟨List.Pairwise.nil,h,fun k=>by simp,fun e he=>absurd he (by simp),by simp⟩
structure Nx (n:Nat) (y:Nat->List En) (e:En) (X:List En) (m:Nat) (z:Nat->List En):Prop where
 sub:∀ i,i<m->∀ a∈z i,a∈X∨∃ j,j<n∧a∈y j
 sup:∀ a,(a∈X∨∃ j,0<j∧j<n∧a∈y j)->∃ i,i<m∧a∈z i
 each:∀ i,i<m->Ris (z i)
 sum:tot List.length z m+1=tot List.length y n
theorem Mq.step {K:Bytes->Prop} {N n m:Nat} {J:List En} {y z:Nat->List En} {e:En} {X:List En} (h:Mq K N J n y) (hn:0<n) (h0:y 0=e::X) (ht:∀ i,i<n->∀ a∈y i,¬ a.key<e.key) (x:Nx n y e X m z):Mq K N (putE J e) m z:=by
 have hX:∀ a∈X,e.key<a.key:=by
  have:=h.each 0 hn
  rw[h0] at this
  exact (ris_cons.1 this).1
 have hXm:∀ a∈X,a∈y 0:=fun a ha=>by rw[h0];exact List.mem_cons_of_mem _ ha
 have he0:e∈y 0:=by rw[h0];exact List.mem_cons_self ..
 have ha:∀ a∈J,¬ e.key<a.key:=fun a hJ=>h.ahead a hJ 0 hn e he0
 have zin:∀ i,i<m->∀ a∈z i,∃ j,j<n∧a∈y j:=fun i hi a hz=>by
  rcases x.sub i hi a hz with q | q
  ·
   exact⟨0,hn,hXm a q⟩
  ·
   exact q
 have hput:∃ a∈putE J e,a.key=e.key:=by
  unfold putE
  by_cases hc:J.getLast?.map (·.key)=some e.key
  ·
   rw[if_pos hc]
   obtain⟨l,hl,hk⟩:=Option.map_eq_some_iff.1 hc
   exact⟨l,List.mem_of_getLast? hl,hk⟩
  ·
   rw[if_neg hc]
   exact⟨e,by simp,rfl⟩
 have hsub:∀ a∈J,a∈putE J e:=fun a hJ=>by
  unfold putE
  split
  ·
   exact hJ
  ·
   simp[hJ]
 refine⟨?_,x.each,fun k=>⟨fun hk=>?_,fun hk=>?_⟩,fun a hJ i hi a' hz=>?_,?_⟩
 ·
  unfold putE
  by_cases hc:J.getLast?.map (·.key)=some e.key
  ·
   rw[if_pos hc];exact h.ris
  ·
   rw[if_neg hc]
   refine List.pairwise_append.2 ⟨h.ris,by simp,fun a hJ b hb=>?_⟩
   have:b=e:=by simpa using hb
   rw[this]
   cases hl:J.getLast? with
   | none=>rw[List.getLast?_eq_none_iff.1 hl] at hJ;cases hJ
   | some l =>
    have hm:l∈J:=List.mem_of_getLast? hl
    have hne:l.key≠e.key:=fun e'=>hc (by rw[hl];simp[e'])
    have hlx:l.key<e.key:=by
     by_cases q:l.key<e.key
     ·
      exact q
     ·
      exact absurd (lt_total q (ha l hm)) hne
    rcases last_of h.ris hl hJ with rfl | h2
    ·
     exact hlx
    ·
     exact List.lt_trans h2 hlx
 ·
  rcases (h.keys k).1 hk with ⟨a,hJ,q⟩ | ⟨i,hi,a,hy,q⟩
  ·
   exact .inl ⟨a,hsub a hJ,q⟩
  ·
   rcases Nat.eq_zero_or_pos i with rfl | hp
   ·
    rw[h0] at hy
    rcases List.mem_cons.1 hy with rfl | hy
    ·
     obtain⟨b,hb,e'⟩:=hput
     exact .inl ⟨b,hb,e'.trans q⟩
    ·
     obtain⟨i,hi,hz⟩:=x.sup a (.inl hy)
     exact .inr ⟨i,hi,a,hz,q⟩
   ·
    obtain⟨i,hi,hz⟩:=x.sup a (.inr ⟨i,hp,hi,hy⟩)
    exact .inr ⟨i,hi,a,hz,q⟩
 ·
  rcases hk with ⟨a,hJ,q⟩ | ⟨i,hi,a,hz,q⟩
  ·
   rcases put_mem hJ with hJ | rfl
   ·
    exact (h.keys k).2 (.inl ⟨a,hJ,q⟩)
   ·
    exact (h.keys k).2 (.inr ⟨0,hn,a,he0,q⟩)
  ·
   obtain⟨j,hj,hy⟩:=zin i hi a hz
   exact (h.keys k).2 (.inr ⟨j,hj,a,hy,q⟩)
 ·
  obtain⟨j,hj,hy⟩:=zin i hi a' hz
  rcases put_mem hJ with hJ | rfl
  ·
   exact h.ahead a hJ j hj a' hy
  ·
   exact ht j hj a' hy
 ·
  have:=put_len J e
  have:=x.sum
  have:=h.len
  omega
theorem same_len {A B:List En} (hA:Ris A) (hB:Ris B) (h:∀ k,(∃ e∈A,e.key=k)↔∃ e∈B,e.key=k):A.length=B.length:=by
 have go:∀ {A B:List En},Ris A->Ris B->(∀ k,(∃ e∈A,e.key=k)->∃ e∈B,e.key=k)->A.length<=B.length:=fun {A B} hA hB h =>
  sub_len A B hA hB (fun k hk=>look_none_of (fun a ha e=>by
   obtain⟨b,hb,e2⟩:=h k ⟨a,ha,e⟩
   have:=look_mem hB hb
   rw[e2,hk] at this
   cases this))
 exact Nat.le_antisymm (go hA hB (fun k=>(h k).1)) (go hB hA (fun k=>(h k).2))
theorem whole_keys {G:List (List En)} (h:AllRis G) (k:Bytes):(∃ e∈whole G,e.key=k)↔∃ b∈G,∃ e∈b,e.key=k:=by
 constructor
 ·
  rintro⟨e,he,q⟩
  obtain⟨b,hb,hm⟩:=whole_mem h he
  exact⟨b,hb,e,hm,q⟩
 ·
  rintro⟨b,hb,e,he,q⟩
  cases hl:look (whole G) k with
  | none =>
   have t:=whole_top h k
   rw[hl] at t
   have:=look_mem (h b hb) he
   rw[q,t.none_of hb] at this
   cases this
  | some m=>exact⟨m,(look_some hl).1,(look_some hl).2⟩
end Go.Proofs.YtkeapmmochpcfaaGreat.Bk
namespace Go.Proofs.YtkeapmmochpcfaaGreat.En
open Go.ChangeShapes Go.WideShapes Go.ChangeAt Go.RowKit
open Bk (Bytes okE newB okBk Ris IsJoin joinB lessE)
open Go.Proofs.YtkeapmmochpcfaaGreat.Hq
attribute [local go_sem] str_gtr str_leq str_geq
structure Rt where
 p:Nat
 o:Nat
 k:Nat
 L:List Rw
abbrev Rt.v (x:Rt):Value:=sv x.p x.o x.L.length x.k
def keyR (x:Rt):Bytes:=(toE (rat x.L 0)).key
def leR (a b:Rt):Prop:=¬ keyR b<keyR a
def lsR (a b:Rt):Bool:=lessE (toE (rat a.L 0)) (toE (rat b.L 0))
theorem leR_refl (a:Rt):leR a a:=List.lt_irrefl _
theorem not_lt_trans {a b c:Bytes} (h:¬ b<a) (k:¬ c<b):¬ c<a:=fun q=>by
 by_cases e:b<c
 ·
  exact h (List.lt_trans e q)
 ·
  have:=Bk.lt_total e k
  rw[<- this] at q
  exact h q
theorem leR_trans (a b c:Rt) (h:leR a b) (k:leR b c):leR a c:=not_lt_trans h k
theorem lsR_true {a b:Rt} (h:lsR a b=true):leR a b:=by
 unfold lsR lessE at h
 rw[Bool.or_eq_true,decide_eq_true_eq,Bool.and_eq_true,decide_eq_true_eq] at h
 intro q
 rcases h with h | ⟨h,_⟩
 ·
  exact List.lt_irrefl _ (List.lt_trans h q)
 ·
  unfold keyR at q
  rw[h] at q
  exact List.lt_irrefl _ q
theorem lsR_false {a b:Rt} (h:lsR a b=false):leR b a:=by
 unfold lsR lessE at h
 rw[Bool.or_eq_false_iff,decide_eq_false_iff_not] at h
 exact h.1
def vals (x:Nat->Rt) (n:Nat):List Value:=(List.range n).map (fun i=>(x i).v)
theorem vals_len (x:Nat->Rt) (n:Nat):(vals x n).length=n:=by simp[vals]
theorem vals_at {x:Nat->Rt} {n i:Nat} (h:i<n):(vals x n)[i]?=some (x i).v:=by simp[vals,h]
theorem vals_succ (x:Nat->Rt) (n:Nat):vals x (n+1)=vals x n++[(x n).v]:=by simp[vals,List.range_succ]
theorem vals_upd {x:Nat->Rt} {n i:Nat} (h:i<n) (y:Rt):vals (upd x i y) n=(vals x n).set i y.v:=by
 refine List.ext_getElem? (fun k=>?_)
 rw[List.getElem?_set]
 by_cases hk:k<n
 ·
  rw[vals_at hk]
  by_cases e:i=k
  ·
   subst e
   rw[if_pos rfl,vals_len,if_pos h,upd_at]
  ·
   rw[if_neg e,vals_at hk,upd_ne (fun q=>e q.symm)]
 ·
  rw[List.getElem?_eq_none (by rw[vals_len];omega),if_neg (by omega),List.getElem?_eq_none (by rw[vals_len];omega)]
theorem vals_push {x:Nat->Rt} {n:Nat} (y:Rt):vals (upd x n y) (n+1)=vals x n++[y.v]:=by
 rw[vals_succ,upd_at]
 congr 1
 unfold vals
 refine List.map_congr_left (fun i hi=>?_)
 rw[upd_ne (by have:=List.mem_range.1 hi;omega)]
structure Sq (w:World) (base b g cap n:Nat) (x:Nat->Rt):Prop where
 hb:base<=b
 me:w.heap[b]?=some (.cells #[.slice (some ⟨g,0,none⟩) n cap] 97 (0,0))
 own:w.ownsRow base 29 1 (.slice (some ⟨g,0,none⟩) n cap) n (vals x n)
 el:∀ i,i<n->El w base (x i).p (x i).o (x i).k (x i).L
theorem Sq.ne {w:World} {base b g cap n:Nat} {x:Nat->Rt} (h:Sq w base b g cap n x):b≠g:=fun e=>rs_ne h.me h.own (by rw[e];rfl)
theorem Sq.bl {w:World} {base b g cap n:Nat} {x:Nat->Rt} (h:Sq w base b g cap n x):b<w.heap.size:=(Array.getElem?_eq_some_iff.1 h.me).1
theorem Sq.gl {w:World} {base b g cap n:Nat} {x:Nat->Rt} (h:Sq w base b g cap n x):base<=g∧g<w.heap.size:=World.ownsRow.lt h.own g rfl
theorem Sq.cp {w:World} {base b g cap n:Nat} {x:Nat->Rt} (h:Sq w base b g cap n x):n<=cap∧cap<=maxLen:=by
 rcases h.own.2 with ⟨e,_⟩ | ⟨g',cap',cur,e,_,_,h1,h2,_⟩
 ·
  cases e
 ·
  cases e
  exact⟨h1,h2⟩
theorem Sq.c {w:World} {base b g cap n:Nat} {x:Nat->Rt} (h:Sq w base b g cap n x):w.cell? ⟨b,0,none⟩=some (.slice (some ⟨g,0,none⟩) n cap):=by rw[Go.Lib.cell_of_heap h.me];rfl
theorem Sq.cf {w:World} {base b g cap n:Nat} {x:Nat->Rt} (h:Sq w base b g cap n x):w.frozen? ⟨b,0,none⟩=false:=by simp[World.frozen?,h.me]
theorem Sq.row {w:World} {base b g cap n:Nat} {x:Nat->Rt} (h:Sq w base b g cap n x) {i:Nat} (hi:i<n):w.cell? ⟨g,i,none⟩=some (x i).v:=by
 rw[World.ownsRow.cellAt h.own i (by omega)]
 exact vals_at hi
theorem Sq.rf {w:World} {base b g cap n:Nat} {x:Nat->Rt} (h:Sq w base b g cap n x) (i:Nat):w.frozen? ⟨g,i,none⟩=false:=World.ownsRow.frozenAt h.own i
theorem Sq.low {w w':World} {base b g cap n B:Nat} {x:Nat->Rt} (h:Sq w base b g cap n x) (k:Below B w w') (hb:b<B) (hg:g<B) (hs:base<=B):Sq w' base b g cap n x :=
 ⟨h.hb,(k.block b hb).trans h.me,by
  rcases h.own with ⟨h1,h2⟩
  refine⟨h1,?_⟩
  rcases h2 with h2 | ⟨q,c,cur,e,hq,hw,r⟩
  ·
   exact .inl h2
  ·
   refine .inr ⟨q,c,cur,e,hq,?_,r⟩
   cases e
   exact (k.block g hg).trans hw,
 fun i hi=>(h.el i hi).low (k.mono hs)⟩
theorem Sq.kept {w w':World} {base b g cap n:Nat} {x:Nat->Rt} (h:Sq w base b g cap n x) (k:Below w.heap.size w w'):Sq w' base b g cap n x:=h.low k h.bl h.gl.2 (by have:=h.gl;omega)
theorem Sq.drew {w:World} {base b g cap n:Nat} {x:Nat->Rt} (h:Sq w base b g cap n x):Sq w.drew base b g cap n x:=⟨h.hb,h.me,h.own,fun i hi=>⟨⟨(h.el i hi).rd.cell⟩,(h.el i hi).lt,(h.el i hi).pos,(h.el i hi).cap⟩⟩
theorem el_set {w:World} {base p o k d:Nat} {X:List Rw} (h:El w base p o k X) (hd:base<=d) (i:Nat) (v:Value):El (w.setCell ⟨d,i,none⟩ v) base p o k X:=h.low ((Below.refl base w).setCell (p:=⟨d,i,none⟩) hd v)
theorem Sq.put {w:World} {base b g cap n i:Nat} {x:Nat->Rt} (h:Sq w base b g cap n x) (hi:i<n) (y:Rt) (hy:El w base y.p y.o y.k y.L):Sq (w.setCell ⟨g,i,none⟩ y.v) base b g cap n (upd x i y):=by
 refine⟨h.hb,(Below.heap_setCell _ _ _ _ h.ne).trans h.me,?_,fun j hj=>?_⟩
 ·
  rw[vals_upd hi]
  exact (World.ownsRow.stored h.own i y.v).1
 ·
  by_cases e:j=i
  ·
   subst e
   rw[upd_at]
   exact el_set hy h.gl.1 _ _
  ·
   rw[upd_ne e]
   exact el_set (h.el j hj) h.gl.1 _ _
theorem Sq.other {w:World} {base b g cap n d:Nat} {x:Nat->Rt} (h:Sq w base b g cap n x) (hb:d≠b) (hg:d≠g) (hd:base<=d) (i:Nat) (v:Value):Sq (w.setCell ⟨d,i,none⟩ v) base b g cap n x :=
 ⟨h.hb,(Below.heap_setCell _ _ _ _ (fun e=>hb e.symm)).trans h.me,ownsRow_setCell_other h.own (a:=⟨d,i,none⟩) (fun e=>hg (Option.some.inj e).symm) v,fun j hj=>el_set (h.el j hj) hd _ _⟩
theorem Sq.cut {w:World} {base b g cap n:Nat} {x:Nat->Rt} (h:Sq w base b g cap (n+1) x):Sq (w.setCell ⟨b,0,none⟩ (.slice (some ⟨g,0,none⟩) n cap)) base b g cap n x :=
 ⟨h.hb,by have:=h.me;simp[World.setCell,Array.getElem?_modify,this],by
  have:=h.own
  rw[vals_succ] at this
  exact ownsRow_setCell_other (ownsRow_pop (by rw[vals_len];omega) this) (a:=⟨b,0,none⟩) (fun e=>h.ne (Option.some.inj e).symm) _,
 fun i hi=>el_set (h.el i (by omega)) h.hb _ _⟩
theorem Sq.swap {w:World} {base b g cap n i j:Nat} {x:Nat->Rt} (h:Sq w base b g cap n x) (hi:i<n) (hj:j<n):Sq ((w.setCell ⟨g,i,none⟩ (x j).v).setCell ⟨g,j,none⟩ (x i).v) base b g cap n (swp x i j):=by
 rw[swp_upd]
 exact (h.put hi (x j) (h.el j hj)).put hj (x i) (el_set (h.el i hi) h.gl.1 _ _)
theorem Sq.rs {w:World} {base b g cap n:Nat} {x:Nat->Rt} (h:Sq w base b g cap n x):Rs w base b (vals x n):=⟨h.hb,_,h.me,by rw[vals_len];exact h.own⟩
theorem Rs.sq {w:World} {base b n:Nat} {x:Nat->Rt} (h:Rs w base b (vals x (n+1))) (he:∀ i,i<n+1->El w base (x i).p (x i).o (x i).k (x i).L):∃ g cap,Sq w base b g cap (n+1) x:=by
 obtain⟨le,v,hb,ho⟩:=h
 rw[vals_len] at ho
 rcases ho.2 with ⟨_,h0⟩ | ⟨g,cap,cur,rfl,hg,hw,hn,hm,_⟩
 ·
  omega
 ·
  exact⟨g,cap,le,hb,ho,he⟩
theorem rests_PopN {w:World} {base b g cap n:Nat} {x:Nat->Rt} (h:Sq w base b g cap (n+1) x) (hn:n<=1000) :
  Calls Tryz.prog 134 #[.pointer (some ⟨b,0,none⟩)] w fun e w'=>(∃ v,e=.returned v)∧Sq w' base b g cap n x∧Fr b g w w':=by
 have c0:=h.c
 have f0:=h.cf
 have le:=h.cp.1
 have HC:=hidIt h.cut
 have HF:=hidIt ((Fr.refl b g w).setB 0 (.slice (some ⟨g,0,none⟩) n cap))
 have cc:=h.row (i:=n) (by omega)
 generalize (x n).v=vn at cc
 clear h
 have hn1:(n:Int)<=1000:=by omega
 go_enter Tryz.func134,Tryz.ntmps134
 go_wp2_with (fail)
 go_ret
 exact⟨⟨_,rfl⟩,HC.out,HF.out⟩
theorem rests_SwapN {w:World} {base b g cap n i j:Nat} {x:Nat->Rt} (h:Sq w base b g cap n x) (hi:i<n) (hj:j<n) (hn:n<=1000) :
  Calls Tryz.prog 136 #[.slice (some ⟨g,0,none⟩) n cap,.int .i64 i,.int .i64 j] w fun e w'=>e=.returned (.tuple #[])∧Sq w' base b g cap n (swp x i j)∧Fr b g w w':=by
 have c0:=h.row hi
 have c1:=h.row hj
 have f0:=h.rf i
 have f1:=h.rf j
 have HS:=hidIt (h.swap hi hj).drew
 have HF:=hidIt (((Fr.refl b g w).setG i (x j).v).setG j (x i).v).drew
 have hi':(i:Int)<(n:Int):=by omega
 have hj':(j:Int)<(n:Int):=by omega
 clear h
 generalize swp x i j=y at HS ⊢
 by_cases e:i=j
 ·
  subst e
  generalize x i=xi at *
  obtain⟨p0,o0,k0,L0⟩:=xi
  simp only[Rt.v] at c0 c1 HS HF
  generalize L0.length=n0 at *
  go_enter Tryz.func136,Tryz.ntmps136
  go_wp2_with (fail)
  go_big_region
  exact bodyPost_end (v:=.tuple #[]) (by simp[results,Tryz.results136,go_sem]) rfl ⟨rfl,HS.out,HF.out⟩
 ·
  have e':¬ j=i:=fun q=>e q.symm
  generalize x i=xi at *
  generalize x j=xj at *
  obtain⟨p0,o0,k0,L0⟩:=xi
  obtain⟨p1,o1,k1,L1⟩:=xj
  simp only[Rt.v] at c0 c1 HS HF
  generalize L0.length=n0 at *
  generalize L1.length=n1 at *
  go_enter Tryz.func136,Tryz.ntmps136
  go_wp2_with (fail)
  go_big_region
  exact bodyPost_end (v:=.tuple #[]) (by simp[results,Tryz.results136,go_sem]) rfl ⟨rfl,HS.out,HF.out⟩
theorem rests_LessN {w:World} {base b g cap n i j:Nat} {x:Nat->Rt} (h:Sq w base b g cap n x) (hi:i<n) (hj:j<n) (hn:n<=1000) :
  Calls Tryz.prog 133 #[.slice (some ⟨g,0,none⟩) n cap,.int .i64 i,.int .i64 j] w fun e w'=>e=.returned (.bool (lsR (x i) (x j)))∧Below w.heap.size w w':=by
 have r0:=h.row hj
 have r1:=h.row hi
 have E0:=h.el j hj
 have E1:=h.el i hi
 have l0:=h.gl.2
 have hi':(i:Int)<(n:Int):=by omega
 have hj':(j:Int)<(n:Int):=by omega
 clear h
 unfold lsR
 generalize x j=xj at *
 generalize x i=xi at *
 obtain⟨p0,o0,k0,L0⟩:=xj
 obtain⟨p1,o1,k1,L1⟩:=xi
 simp only[Rt.v] at r0 r1 E0 E1 ⊢
 obtain⟨c0,c1,c2,c3,c4⟩:=cells_one E0.rd E0.pos
 obtain⟨d0,d1,d2,d3,d4⟩:=cells_one E1.rd E1.pos
 have CN:=hidIt (fun W=>impl_Newer (rat L1 0) (rat L0 0) W)
 have l1:=cell_block c0
 have l2:=cell_block d0
 have z0:=E0.pos
 have z1:=E1.pos
 clear E0 E1
 generalize rat L0 0=x at c0 c1 c2 c3 c4 CN ⊢
 generalize rat L1 0=y at d0 d1 d2 d3 d4 CN ⊢
 generalize L0.length=n0 at *
 generalize L1.length=n1 at *
 obtain⟨xk,xv,xt,xn,xg⟩:=x
 obtain⟨yk,yv,yt,yn,yg⟩:=y
 simp only[rv] at CN c0 c1 c2 c3 c4 d0 d1 d2 d3 d4
 have z0':(0:Int)<(n0:Int):=by omega
 have z1':(0:Int)<(n1:Int):=by omega
 have hl:=less_of yk xk
 have he:=eq_of yk xk
 have HW1:=hidIt (Below.drew (((Below.refl w.heap.size w).alloc (Nat.le_refl _) (.cells #[.string yk,.string yv,.int .i64 yt,.int .i64 yn,.bool yg] 60)).alloc (by simp) (.cells #[.string xk,.string xv,.int .i64 xt,.int .i64 xn,.bool xg] 60)))
 have HW2:=hidIt (Below.drew (((Below.refl w.heap.size w).alloc (Nat.le_refl _) (.cells #[.string xk,.string xv,.int .i64 xt,.int .i64 xn,.bool xg] 60)).alloc (by simp) (.cells #[.string yk,.string yv,.int .i64 yt,.int .i64 yn,.bool yg] 60)))
 by_cases hlt:bs yk<bs xk
 ·
  rw[decide_eq_true hlt] at hl
  have er:lessE (toE (yk,yv,yt,yn,yg)) (toE (xk,xv,xt,xn,xg))=true:=Bk.lessE_lt hlt
  rw[er]
  clear he hlt er
  go_enter Tryz.func133,Tryz.ntmps133
  go_wp2_with (fail)
  go_big_region
  all_goals (go_wp2_with (fail);go_ret;first | exact⟨rfl,HW1.out⟩ | exact⟨rfl,HW2.out⟩)
 ·
  rw[decide_eq_false hlt] at hl
  by_cases heq:bs yk=bs xk
  ·
   rw[decide_eq_true heq] at he
   have er:lessE (toE (yk,yv,yt,yn,yg)) (toE (xk,xv,xt,xn,xg))=newB (toE (yk,yv,yt,yn,yg)) (toE (xk,xv,xt,xn,xg)):=Bk.lessE_eq hlt heq
   rw[er]
   generalize newB (toE (yk,yv,yt,yn,yg)) (toE (xk,xv,xt,xn,xg))=r at CN ⊢
   clear heq hlt er
   go_enter Tryz.func133,Tryz.ntmps133
   go_wp2_with (fail)
   go_big_region
   all_goals (go_wp2_with (fail);refine (CN.out _).mono ?_;rintro e w1 ⟨rfl,k1⟩;have HK:=hidIt k1;clear k1;go_wp2_with (fail);go_ret;first | exact⟨rfl,HW1.out.trans (HK.out.mono HW1.out.size)⟩ | exact⟨rfl,HW2.out.trans (HK.out.mono HW2.out.size)⟩)
  ·
   rw[decide_eq_false heq] at he
   have er:lessE (toE (yk,yv,yt,yn,yg)) (toE (xk,xv,xt,xn,xg))=false:=Bk.lessE_gt hlt heq
   rw[er]
   clear heq hlt er
   go_enter Tryz.func133,Tryz.ntmps133
   go_wp2_with (fail)
   go_big_region
   all_goals (go_wp2_with (fail);go_ret;first | exact⟨rfl,HW1.out⟩ | exact⟨rfl,HW2.out⟩)
end Go.Proofs.YtkeapmmochpcfaaGreat.En
namespace Go.Proofs.YtkeapmmochpcfaaGreat.En
open Go.ChangeShapes Go.WideShapes Go.ChangeAt Go.RowKit
open Bk (Bytes okE newB okBk Ris IsJoin joinB lessE)
open Go.Proofs.YtkeapmmochpcfaaGreat.Hq
attribute [local go_sem] m_Len m_Less m_Swap m_Push m_Pop as_book
def HpR (w w':World) (base b g cap n:Nat) (x:Nat->Rt):Prop:=(∃ x',Sq w' base b g cap n x'∧Hok leR n x'∧Per n x x')∧Fr b g w w'
def UpS (w w':World) (base b g cap n:Nat) (x:Nat->Rt) (j:Nat):Prop:=∃ x',Sq w' base b g cap n x'∧Uok leR n x' j∧Per n x x'∧Fr b g w w'
def DnS (w w':World) (base b g cap N n:Nat) (x:Nat->Rt) (j:Nat):Prop:=∃ x',Sq w' base b g cap N x'∧Dok leR n x' j∧Per n x x'∧(∀ i,n<=i->x' i=x i)∧Fr b g w w'
def DnR (w w':World) (base b g cap N n:Nat) (x:Nat->Rt):Prop:=∃ x',Sq w' base b g cap N x'∧Hok leR n x'∧Per n x x'∧(∀ i,n<=i->x' i=x i)∧Fr b g w w'
theorem rests_LessI {W:World} {base b g cap n:Nat} {y:Nat->Rt} (i j:Nat) (a c:Int) (ha:a=(i:Int)) (hc:c=(j:Int)) (h:Sq W base b g cap n y) (hi:i<n) (hj:j<n) (hn:n<=1000) :
  Calls Tryz.prog 133 #[.slice (some ⟨g,0,none⟩) n cap,.int .i64 a,.int .i64 c] W fun e w'=>e=.returned (.bool (lsR (y i) (y j)))∧Below W.heap.size W w':=by
 subst ha hc
 exact rests_LessN h hi hj hn
theorem rests_SwapI {W:World} {base b g cap n:Nat} {y:Nat->Rt} (i j:Nat) (a c:Int) (ha:a=(i:Int)) (hc:c=(j:Int)) (h:Sq W base b g cap n y) (hi:i<n) (hj:j<n) (hn:n<=1000) :
  Calls Tryz.prog 136 #[.slice (some ⟨g,0,none⟩) n cap,.int .i64 a,.int .i64 c] W fun e w'=>e=.returned (.tuple #[])∧Sq w' base b g cap n (swp y i j)∧Fr b g W w':=by
 subst ha hc
 exact rests_SwapN h hi hj hn
theorem up_any {w:World} {base b g cap n j:Nat} {x:Nat->Rt} (h:Sq w base b g cap n x) (hj:j<n) (hn:n<=1000) (hu:Uok leR n x j) :
  Calls Tryz.prog 105 #[hI b,.int .i64 j] w fun e w'=>e=.returned (.tuple #[])∧HpR w w' base b g cap n x:=by
 have CL:=hidIt (fun W (y:Nat->Rt) (i j:Nat) (a c:Int) ha hc (h:Sq W base b g cap n y) hi hj=>rests_LessI i j a c ha hc h hi hj hn)
 have CS:=hidIt (fun W (y:Nat->Rt) (i j:Nat) (a c:Int) ha hc (h:Sq W base b g cap n y) hi hj=>rests_SwapI i j a c ha hc h hi hj hn)
 have H0:Hid (UpS w w base b g cap n x j):=hidIt ⟨x,h,hu,Per.refl _ _,Fr.refl _ _ _⟩
 clear h hu
 go_enter Tryz.func105,Tryz.ntmps105
 go_wp2_with (fail)
 go_loopw [1] (fun y wx=>∃ j:Nat,y=.int .i64 j∧j<n∧Hid (UpS w wx base b g cap n x j)) (fun y _=>(intOf y).toNat)
 case atStart=>exact⟨j,rfl,hj,H0⟩
 case round =>
  obtain⟨j,rfl,hjn,HS⟩:=hrel
  obtain⟨x',s',u',p',f'⟩:=HS.out
  have HSq:=hidIt s'
  have HU:=hidIt u'
  have HP:=hidIt p'
  have HF:=hidIt f'
  have me:=s'.c
  clear HS s' u' p' f' H0
  rcases Nat.eq_zero_or_pos j with rfl | hp
  ·
   have HR:Hid (HpR w wr base b g cap n x):=hidIt ⟨⟨x',HSq.out,up_stop HU.out (fun h=>absurd h (by omega)),HP.out⟩,HF.out⟩
   go_wp2_with (fail)
   exact bodyPost_end (v:=.tuple #[]) (by simp[results,Tryz.results105,go_sem]) rfl ⟨rfl,HR.out⟩
  ·
   obtain⟨k,rfl⟩:∃ k,j=k+1:=⟨j - 1,by omega⟩
   have epar:Hid (par (k+1)=k / 2):=hidIt (by unfold par;simp)
   have hk:(k:Int)<=1000:=by omega
   clear hp
   go_wp2_with (fail)
   refine (CL.out _ x' (k+1) (k / 2) _ _ ?_ ?_ HSq.out hjn (by omega)).mono ?_
   ·
    omega
   ·
    omega
   rintro e w1 ⟨rfl,k1⟩
   have HS1:=hidIt (HSq.out.kept k1)
   have HF1:=hidIt (HF.out.trans (Fr.of_below k1))
   have me1:=HS1.out.c
   clear k1
   cases hr:lsR (x' (k+1)) (x' (k / 2)) with
   | false =>
    have HR:Hid (HpR w w1 base b g cap n x):=hidIt ⟨⟨x',HS1.out,up_stop HU.out (fun _=>by rw[epar.out];exact lsR_false hr),HP.out⟩,HF1.out⟩
    clear hr
    go_wp2_with (fail)
    exact bodyPost_end (v:=.tuple #[]) (by simp[results,Tryz.results105,go_sem]) rfl ⟨rfl,HR.out⟩
   | true =>
    have HU2:Hid (Uok leR n (swp x' (k / 2) (k+1)) (k / 2)):=hidIt (by
     have:=up_swap leR_trans HU.out (by omega) hjn (by rw[epar.out];exact lsR_true hr)
     rw[epar.out] at this
     exact this)
    clear hr
    go_wp2_with (fail)
    refine (CS.out _ x' (k / 2) (k+1) _ _ ?_ ?_ HS1.out (by omega) hjn).mono ?_
    ·
     omega
    ·
     omega
    rintro e w2 ⟨rfl,s2,f2⟩
    have HR2:Hid (UpS w w2 base b g cap n x (k / 2)):=hidIt ⟨_,s2,HU2.out,HP.out.swp (by omega) hjn,HF1.out.trans f2⟩
    clear s2 f2
    go_wp2_with (fail)
    exact⟨⟨k / 2,by first | rfl | simp,by omega,HR2⟩,by simp[intOf];omega⟩
theorem down_any {w:World} {base b g cap N n j:Nat} {x:Nat->Rt} (h:Sq w base b g cap N x) (hnN:n<=N) (hN:N<=1000) (hd:Dok leR n x 0) :
  Calls Tryz.prog 115 #[hI b,.int .i64 0,.int .i64 n] w fun e w'=>(∃ r:Bool,e=.returned (.bool r))∧DnR w w' base b g cap N n x:=by
 have CL:=hidIt (fun W (y:Nat->Rt) (i j:Nat) (a c:Int) ha hc (h:Sq W base b g cap N y) hi hj=>rests_LessI i j a c ha hc h hi hj hN)
 have CS:=hidIt (fun W (y:Nat->Rt) (i j:Nat) (a c:Int) ha hc (h:Sq W base b g cap N y) hi hj=>rests_SwapI i j a c ha hc h hi hj hN)
 have H0:Hid (DnS w w base b g cap N n x 0):=hidIt ⟨x,h,hd,Per.refl _ _,fun _ _=>rfl,Fr.refl _ _ _⟩
 clear h hd
 go_enter Tryz.func115,Tryz.ntmps115
 go_wp2_with (fail)
 go_loopw [7] (fun y wx=>∃ j:Nat,y=.int .i64 j∧(j<n∨j=0)∧Hid (DnS w wx base b g cap N n x j)) (fun y _=>(1000 - intOf y).toNat)
 case atStart=>exact⟨0,rfl,.inr rfl,H0⟩
 case round =>
  obtain⟨j,rfl,hjn,HS⟩:=hrel
  obtain⟨x',s',u',p',q',f'⟩:=HS.out
  have HSq:=hidIt s'
  have HU:=hidIt u'
  have HP:=hidIt p'
  have HQ:=hidIt q'
  have HF:=hidIt f'
  have me:=s'.c
  clear HS s' u' p' q' f' H0
  have hj1:(j:Int)<=1000:=by omega
  have hj2:(n:Int)<=1000:=by omega
  by_cases h1:2*j+1<n
  ·
   have h1':2*(j:Int)+1<(n:Int):=by omega
   by_cases h2:2*j+1+1<n
   ·
    have h2':2*(j:Int)+1+1<(n:Int):=by omega
    go_wp2_with (fail)
    refine (CL.out _ x' (2*j+1+1) (2*j+1) _ _ ?_ ?_ HSq.out (by omega) (by omega)).mono ?_
    ·
     omega
    ·
     omega
    rintro e w1 ⟨rfl,k1⟩
    have HS1:=hidIt (HSq.out.kept k1)
    have HF1:=hidIt (HF.out.trans (Fr.of_below k1))
    have me1:=HS1.out.c
    clear k1
    cases hr:lsR (x' (2*j+1+1)) (x' (2*j+1)) with
    | false =>
     have HMin:Hid (∀ k,0<k->k<n->par k=j->leR (x' (2*j+1)) (x' k)):=hidIt (fun k k0 kn kp=>by
      have:k=2*j+1∨k=2*j+1+1:=by unfold par at kp;omega
      rcases this with rfl | rfl
      ·
       exact leR_refl _
      ·
       exact lsR_false hr)
     clear hr
     go_wp2_with (fail)
     refine (CL.out _ x' (2*j+1) j _ _ ?_ ?_ HS1.out (by omega) (by omega)).mono ?_
     ·
      omega
     ·
      omega
     rintro e w2 ⟨rfl,k2⟩
     have HS2:=hidIt (HS1.out.kept k2)
     have HF2:=hidIt (HF1.out.trans (Fr.of_below k2))
     have me2:=HS2.out.c
     clear k2
     cases hr:lsR (x' (2*j+1)) (x' j) with
     | false =>
      have HR:Hid (DnR w w2 base b g cap N n x):=hidIt ⟨x',HS2.out,down_stop HU.out (fun k k0 kn kp=>leR_trans _ _ _ (lsR_false hr) (HMin.out k k0 kn kp)),HP.out,HQ.out,HF2.out⟩
      clear hr
      go_wp2_with (fail)
      go_ret
      exact⟨⟨_,rfl⟩,HR.out⟩
     | true =>
      have HU2:Hid (Dok leR n (swp x' j (2*j+1)) (2*j+1)):=hidIt (down_swap HU.out (by omega) h1 (by unfold par;omega) (lsR_true hr) HMin.out)
      clear hr
      go_wp2_with (fail)
      refine (CS.out _ x' j (2*j+1) _ _ ?_ ?_ HS2.out (by omega) (by omega)).mono ?_
      ·
       omega
      ·
       omega
      rintro e w3 ⟨rfl,s3,f3⟩
      have HR3:Hid (DnS w w3 base b g cap N n x (2*j+1)):=hidIt ⟨_,s3,HU2.out,HP.out.swp (by omega) h1,fun i hi=>by rw[swp_ne (by omega) (by omega)];exact HQ.out i hi,HF2.out.trans f3⟩
      clear s3 f3
      go_wp2_with (fail)
      exact⟨⟨2*j+1,by first | rfl | simp,.inl h1,HR3⟩,by simp[intOf];omega⟩
    | true =>
     have HMin:Hid (∀ k,0<k->k<n->par k=j->leR (x' (2*j+1+1)) (x' k)):=hidIt (fun k k0 kn kp=>by
      have:k=2*j+1∨k=2*j+1+1:=by unfold par at kp;omega
      rcases this with rfl | rfl
      ·
       exact lsR_true hr
      ·
       exact leR_refl _)
     clear hr
     go_wp2_with (fail)
     refine (CL.out _ x' (2*j+1+1) j _ _ ?_ ?_ HS1.out (by omega) (by omega)).mono ?_
     ·
      omega
     ·
      omega
     rintro e w2 ⟨rfl,k2⟩
     have HS2:=hidIt (HS1.out.kept k2)
     have HF2:=hidIt (HF1.out.trans (Fr.of_below k2))
     have me2:=HS2.out.c
     clear k2
     cases hr:lsR (x' (2*j+1+1)) (x' j) with
     | false =>
      have HR:Hid (DnR w w2 base b g cap N n x):=hidIt ⟨x',HS2.out,down_stop HU.out (fun k k0 kn kp=>leR_trans _ _ _ (lsR_false hr) (HMin.out k k0 kn kp)),HP.out,HQ.out,HF2.out⟩
      clear hr
      go_wp2_with (fail)
      go_ret
      exact⟨⟨_,rfl⟩,HR.out⟩
     | true =>
      have HU2:Hid (Dok leR n (swp x' j (2*j+1+1)) (2*j+1+1)):=hidIt (down_swap HU.out (by omega) h2 (by unfold par;omega) (lsR_true hr) HMin.out)
      clear hr
      go_wp2_with (fail)
      refine (CS.out _ x' j (2*j+1+1) _ _ ?_ ?_ HS2.out (by omega) (by omega)).mono ?_
      ·
       omega
      ·
       omega
      rintro e w3 ⟨rfl,s3,f3⟩
      have HR3:Hid (DnS w w3 base b g cap N n x (2*j+1+1)):=hidIt ⟨_,s3,HU2.out,HP.out.swp (by omega) h2,fun i hi=>by rw[swp_ne (by omega) (by omega)];exact HQ.out i hi,HF2.out.trans f3⟩
      clear s3 f3
      go_wp2_with (fail)
      exact⟨⟨2*j+1+1,by first | rfl | simp,.inl h2,HR3⟩,by simp[intOf];omega⟩
   ·
    have h2':¬ 2*(j:Int)+1+1<(n:Int):=by omega
    have HMin:Hid (∀ k,0<k->k<n->par k=j->leR (x' (2*j+1)) (x' k)):=hidIt (fun k k0 kn kp=>by
     have:k=2*j+1:=by unfold par at kp;omega
     subst this
     exact leR_refl _)
    go_wp2_with (fail)
    refine (CL.out _ x' (2*j+1) j _ _ ?_ ?_ HSq.out (by omega) (by omega)).mono ?_
    ·
     omega
    ·
     omega
    rintro e w2 ⟨rfl,k2⟩
    have HS2:=hidIt (HSq.out.kept k2)
    have HF2:=hidIt (HF.out.trans (Fr.of_below k2))
    have me2:=HS2.out.c
    clear k2
    cases hr:lsR (x' (2*j+1)) (x' j) with
    | false =>
     have HR:Hid (DnR w w2 base b g cap N n x):=hidIt ⟨x',HS2.out,down_stop HU.out (fun k k0 kn kp=>leR_trans _ _ _ (lsR_false hr) (HMin.out k k0 kn kp)),HP.out,HQ.out,HF2.out⟩
     clear hr
     go_wp2_with (fail)
     go_ret
     exact⟨⟨_,rfl⟩,HR.out⟩
    | true =>
     have HU2:Hid (Dok leR n (swp x' j (2*j+1)) (2*j+1)):=hidIt (down_swap HU.out (by omega) h1 (by unfold par;omega) (lsR_true hr) HMin.out)
     clear hr
     go_wp2_with (fail)
     refine (CS.out _ x' j (2*j+1) _ _ ?_ ?_ HS2.out (by omega) (by omega)).mono ?_
     ·
      omega
     ·
      omega
     rintro e w3 ⟨rfl,s3,f3⟩
     have HR3:Hid (DnS w w3 base b g cap N n x (2*j+1)):=hidIt ⟨_,s3,HU2.out,HP.out.swp (by omega) h1,fun i hi=>by rw[swp_ne (by omega) (by omega)];exact HQ.out i hi,HF2.out.trans f3⟩
     clear s3 f3
     go_wp2_with (fail)
     exact⟨⟨2*j+1,by first | rfl | simp,.inl h1,HR3⟩,by simp[intOf];omega⟩
  ·
   have h1':(n:Int)<=2*(j:Int)+1:=by omega
   have HR:Hid (DnR w wr base b g cap N n x):=hidIt ⟨x',HSq.out,down_stop HU.out (fun k k0 kn kp=>by exfalso;unfold par at kp;omega),HP.out,HQ.out,HF.out⟩
   go_wp2_with (fail)
   go_ret
   exact⟨⟨_,rfl⟩,HR.out⟩
end Go.Proofs.YtkeapmmochpcfaaGreat.En
