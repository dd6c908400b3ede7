/- Two books merged from their tops, the lesser Key first, and of one Key the Newer. No program in sight. -/
import Derived.Test.YtkeapmmochpcfaaGreatBokQ
set_option maxRecDepth 100000
set_option maxHeartbeats 32000000
set_option linter.unusedVariables false
namespace Go.Proofs.YtkeapmmochpcfaaGreat.Bk
def lessE (a b:En):Bool:=decide (a.key<b.key)||(decide (a.key=b.key)&&newB a b)
theorem lessE_lt {a b:En} (h:a.key<b.key):lessE a b=true:=by unfold lessE;rw[decide_eq_true h];rfl
theorem lessE_gt {a b:En} (h:¬ a.key<b.key) (k:a.key≠b.key):lessE a b=false:=by unfold lessE;rw[decide_eq_false h,decide_eq_false k];rfl
theorem lessE_eq {a b:En} (h:¬ a.key<b.key) (k:a.key=b.key):lessE a b=newB a b:=by unfold lessE;rw[decide_eq_false h,decide_eq_true k];simp
def Ahead (e x:En):Prop:=e.key<x.key∨(e.key=x.key∧newB x e=false)
theorem ahead_of {a b:En} (h:lessE b a=false):Ahead a b:=by
 unfold lessE at h
 rw[Bool.or_eq_false_iff,decide_eq_false_iff_not] at h
 by_cases k:a.key<b.key
 ·
  exact .inl k
 ·
  have e:a.key=b.key:=lt_total k h.1
  refine .inr ⟨e,?_⟩
  have:=h.2
  rw[decide_eq_true e.symm,Bool.true_and] at this
  exact this
theorem ahead_lt {a b c:En} (h:Ahead a b) (k:b.key<c.key):Ahead a c:=by
 rcases h with h | h
 ·
  exact .inl (List.lt_trans h k)
 ·
  exact .inl (by rw[h.1];exact k)
def putE (J:List En) (x:En):List En:=if J.getLast?.map (·.key)=some x.key then J else J++[x]
theorem ris_right {L M:List En} (h:Ris (L++M)):Ris M:=(List.pairwise_append.1 h).2.1
theorem ris_cross {L M:List En} (h:Ris (L++M)) {a b:En} (ha:a∈L) (hb:b∈M):a.key<b.key:=(List.pairwise_append.1 h).2.2 a ha b hb
theorem look_more (L:List En) (x:En) (k:Bytes) (h:∀ e∈L,e.key≠x.key):look (L++[x]) k=if x.key=k then some x else look L k:=by
 unfold look
 rw[List.find?_append]
 by_cases e:x.key=k
 ·
  rw[if_pos e,List.find?_eq_none.2 (fun y hy=>by have:=h y hy;rw[e] at this;simpa using this)]
  simp[e]
 ·
  rw[if_neg e]
  have:List.find? (fun e=>decide (e.key=k)) [x]=none:=by simp[e]
  rw[this,Option.or_none]
theorem last_of {J:List En} (h:Ris J) {l e:En} (hl:J.getLast?=some l) (he:e∈J):e=l∨e.key<l.key:=by
 obtain⟨J0,rfl⟩:∃ J0,J=J0++[l]:=by
  obtain⟨ys,e⟩:=List.getLast?_eq_some_iff.1 hl
  exact⟨ys,e⟩
 rcases List.mem_append.1 he with h' | h'
 ·
  exact .inr (ris_cross h h' (by simp))
 ·
  exact .inl (by simpa using h')
theorem pick_none {x y:Option En} (h:pickE x y=none):x=none∧y=none:=by
 cases x with
 | none=>exact⟨rfl,h⟩
 | some a=>cases y<;>cases h
theorem put_join {A1 B1 J X:List En} {x:En} (h:IsJoin A1 B1 J) (hA:Ris (A1++x::X)) (ha:∀ e∈J,Ahead e x):IsJoin (A1++[x]) B1 (putE J x):=by
 have hx:∀ e∈A1,e.key≠x.key:=fun e he e'=>by have:=ris_cross hA he (List.mem_cons_self ..);rw[e'] at this;exact List.lt_irrefl _ this
 have nA:look A1 x.key=none:=look_none_of hx
 unfold putE
 by_cases hc:J.getLast?.map (·.key)=some x.key
 ·
  rw[if_pos hc]
  obtain⟨l,hl,hk⟩:=Option.map_eq_some_iff.1 hc
  have hm:l∈J:=List.mem_of_getLast? hl
  have hJ:look J x.key=some l:=by rw[<- hk];exact look_mem h.ris hm
  refine⟨h.ris,fun k=>?_⟩
  rw[look_more _ _ _ hx]
  by_cases e:x.key=k
  ·
   rw[if_pos e,<- e]
   have hB:look B1 x.key=some l:=by
    have:=h.at' x.key
    rw[hJ,nA] at this
    exact this.symm
   rw[hJ,hB]
   have hn:newB x l=false:=by
    rcases ha l hm with h' | h'
    ·
     rw[hk] at h';exact absurd h' (List.lt_irrefl _)
    ·
     exact h'.2
   show some l=some _
   cases hq:newB l x with
   | true=>simp
   | false=>simp[en_ext hk hq hn]
  ·
   rw[if_neg e]
   exact h.at' k
 ·
  rw[if_neg hc]
  have hs:∀ e∈J,e.key<x.key:=by
   intro e he
   rcases ha e he with h' | h'
   ·
    exact h'
   ·
    cases hl:J.getLast? with
    | none=>rw[List.getLast?_eq_none_iff.1 hl] at he;cases he
    | some l =>
     have hm:l∈J:=List.mem_of_getLast? hl
     have hne:l.key≠x.key:=fun e'=>hc (by rw[hl];simp[e'])
     have hlx:l.key<x.key:=by
      rcases ha l hm with h2 | h2
      ·
       exact h2
      ·
       exact absurd h2.1 hne
     rcases last_of h.ris hl he with rfl | h2
     ·
      exact hlx
     ·
      exact List.lt_trans h2 hlx
  have hJ:∀ e∈J,e.key≠x.key:=fun e he e'=>by have:=hs e he;rw[e'] at this;exact List.lt_irrefl _ this
  refine⟨List.pairwise_append.2 ⟨h.ris,by simp,fun a ha b hb=>?_⟩,fun k=>?_⟩
  ·
   have:b=x:=by simpa using hb
   rw[this]
   exact hs a ha
  ·
   rw[look_more _ _ _ hx,look_more _ _ _ hJ]
   by_cases e:x.key=k
   ·
    rw[if_pos e,if_pos e]
    have h0:=h.at' x.key
    rw[look_none_of hJ] at h0
    rw[<- e,(pick_none h0.symm).2]
    rfl
   ·
    rw[if_neg e,if_neg e]
    exact h.at' k
structure Mg (A B J X Y:List En):Prop where
 parts:∃ A1 B1,IsJoin A1 B1 J∧((A=A1++X∧B=B1++Y)∨(A=A1++Y∧B=B1++X))
 ahead:∀ e∈J,∀ x,(x∈X∨x∈Y)->Ahead e x
 len:J.length+(X.length+Y.length)<=A.length+B.length
theorem Mg.start (A B:List En):Mg A B [] A B:=⟨⟨[],[],⟨List.Pairwise.nil,fun k=>rfl⟩,.inl ⟨rfl,rfl⟩⟩,fun e he=>absurd he (by simp),by simp⟩
theorem Mg.swap {A B J X Y:List En} (h:Mg A B J X Y):Mg A B J Y X:=by
 obtain⟨⟨A1,B1,j,p⟩,q,l⟩:=h
 exact⟨⟨A1,B1,j,p.symm⟩,fun e he x hx=>q e he x hx.symm,by omega⟩
theorem put_len (J:List En) (x:En):(putE J x).length<=J.length+1:=by
 unfold putE
 split
 ·
  omega
 ·
  simp
theorem put_mem {J:List En} {x e:En} (h:e∈putE J x):e∈J∨e=x:=by
 unfold putE at h
 split at h
 ·
  exact .inl h
 ·
  simpa using h
theorem Mg.step {A B J X Y:List En} {x:En} (h:Mg A B J (x::X) Y) (hA:Ris A) (hB:Ris B) (ht:∀ y,Y.head?=some y->lessE y x=false):Mg A B (putE J x) X Y:=by
 obtain⟨⟨A1,B1,j,p⟩,q,l⟩:=h
 have hX:∀ z∈X,x.key<z.key:=by
  rcases p with p | p
  ·
   rw[p.1] at hA;exact (ris_cons.1 (ris_right hA)).1
  ·
   rw[p.2] at hB;exact (ris_cons.1 (ris_right hB)).1
 have hY:Ris Y:=by
  rcases p with p | p
  ·
   rw[p.2] at hB;exact ris_right hB
  ·
   rw[p.1] at hA;exact ris_right hA
 have hYx:∀ y∈Y,Ahead x y:=by
  cases Y with
  | nil=>intro y hy;cases hy
  | cons y0 Y =>
   have h0:=ahead_of (ht y0 rfl)
   intro y hy
   rcases List.mem_cons.1 hy with rfl | hy
   ·
    exact h0
   ·
    exact ahead_lt h0 ((ris_cons.1 hY).1 y hy)
 have ha:∀ e∈J,Ahead e x:=fun e he=>q e he x (.inl (List.mem_cons_self ..))
 refine⟨?_,fun e he z hz=>?_,?_⟩
 ·
  rcases p with ⟨rfl,rfl⟩ | ⟨rfl,rfl⟩
  ·
   exact⟨A1++[x],B1,put_join j hA ha,.inl ⟨by simp,rfl⟩⟩
  ·
   exact⟨A1,B1++[x],(put_join j.comm hB ha).comm,.inr ⟨rfl,by simp⟩⟩
 ·
  rcases put_mem he with he | rfl
  ·
   rcases hz with hz | hz
   ·
    exact q e he z (.inl (List.mem_cons_of_mem _ hz))
   ·
    exact q e he z (.inr hz)
  ·
   rcases hz with hz | hz
   ·
    exact .inl (hX z hz)
   ·
    exact hYx z hz
 ·
  have:=put_len J x
  simp at l
  omega
theorem Mg.join {A B J:List En} (h:Mg A B J [] []):IsJoin A B J:=by
 obtain⟨⟨A1,B1,j,p⟩,_,_⟩:=h
 rcases p with ⟨rfl,rfl⟩ | ⟨rfl,rfl⟩
 ·
  simpa using j
 ·
  simpa using j
end Go.Proofs.YtkeapmmochpcfaaGreat.Bk
