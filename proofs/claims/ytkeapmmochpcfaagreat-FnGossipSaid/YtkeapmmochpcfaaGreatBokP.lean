/- Books in plain words: Entries, which is Newer, what is found under a Key, what two books come to. No program in sight. -/
import Derived.WalkKit
set_option maxRecDepth 100000
set_option maxHeartbeats 32000000
set_option linter.unusedVariables false
namespace Go.Proofs.YtkeapmmochpcfaaGreat.Bk
abbrev Bytes:=List UInt8
structure En where
 key:Bytes
 value:Bytes
 time:Int
 node:Int
 gone:Bool
 deriving DecidableEq
def okE (e:En):Bool:=decide (1<=e.key.length)&&decide (e.key.length<=40)&&decide (e.value.length<=40)&&(!e.gone||decide (e.value.length=0))&&decide (1<=e.time)&&decide (e.time<=1000000)&&decide (0<=e.node)&&decide (e.node<=7)
def newB (a b:En):Bool :=
 if a.time≠b.time then decide (b.time<a.time)
 else if a.node≠b.node then decide (b.node<a.node)
 else if a.gone≠b.gone then a.gone
 else decide (b.value<a.value)
theorem newB_1 {a b:En} (h:a.time≠b.time):newB a b=decide (b.time<a.time):=by unfold newB;rw[if_pos h]
theorem newB_2 {a b:En} (h:a.time=b.time) (k:a.node≠b.node):newB a b=decide (b.node<a.node):=by unfold newB;rw[if_neg (by simp[h]),if_pos k]
theorem newB_3 {a b:En} (h:a.time=b.time) (k:a.node=b.node) (g:a.gone≠b.gone):newB a b=a.gone:=by unfold newB;rw[if_neg (by simp[h]),if_neg (by simp[k]),if_pos g]
theorem newB_4 {a b:En} (h:a.time=b.time) (k:a.node=b.node) (g:a.gone=b.gone):newB a b=decide (b.value<a.value):=by unfold newB;rw[if_neg (by simp[h]),if_neg (by simp[k]),if_neg (by simp[g])]
theorem lt_total {a b:Bytes} (h:¬ a<b) (k:¬ b<a):a=b:=List.le_antisymm k h
theorem new_irrefl (a:En):newB a a=false:=by
 unfold newB
 simp[List.lt_irrefl]
theorem new_asymm {a b:En} (h:newB a b=true):newB b a=false:=by
 unfold newB at h ⊢
 by_cases h1:a.time=b.time
 ·
  rw[if_neg (by simp[h1])] at h
  rw[if_neg (by simp[h1])]
  by_cases h2:a.node=b.node
  ·
   rw[if_neg (by simp[h2])] at h
   rw[if_neg (by simp[h2])]
   by_cases h3:a.gone=b.gone
   ·
    rw[if_neg (by simp[h3])] at h
    rw[if_neg (by simp[h3])]
    exact decide_eq_false (fun k=>List.lt_irrefl _ (List.lt_trans k (of_decide_eq_true h)))
   ·
    rw[if_pos h3] at h
    rw[if_pos (fun e=>h3 e.symm)]
    cases hb:b.gone
    ·
     rfl
    ·
     rw[h,hb] at h3;exact absurd rfl h3
  ·
   rw[if_pos h2] at h
   rw[if_pos (fun e=>h2 e.symm)]
   have:=of_decide_eq_true h
   exact decide_eq_false (by omega)
 ·
  rw[if_pos h1] at h
  rw[if_pos (fun e=>h1 e.symm)]
  have:=of_decide_eq_true h
  exact decide_eq_false (by omega)
theorem new_total {a b:En} (h:newB a b=false) (k:newB b a=false):a.time=b.time∧a.node=b.node∧a.gone=b.gone∧a.value=b.value:=by
 unfold newB at h k
 by_cases h1:a.time=b.time
 ·
  rw[if_neg (by simp[h1])] at h
  rw[if_neg (by simp[h1])] at k
  by_cases h2:a.node=b.node
  ·
   rw[if_neg (by simp[h2])] at h
   rw[if_neg (by simp[h2])] at k
   by_cases h3:a.gone=b.gone
   ·
    rw[if_neg (by simp[h3])] at h
    rw[if_neg (by simp[h3])] at k
    exact⟨h1,h2,h3,lt_total (of_decide_eq_false k) (of_decide_eq_false h)⟩
   ·
    rw[if_pos h3] at h
    rw[if_pos (fun e=>h3 e.symm)] at k
    exact absurd (h.trans k.symm) h3
  ·
   rw[if_pos h2] at h
   rw[if_pos (fun e=>h2 e.symm)] at k
   have h':=of_decide_eq_false h
   have k':=of_decide_eq_false k
   exact absurd (by omega) h2
 ·
  rw[if_pos h1] at h
  rw[if_pos (fun e=>h1 e.symm)] at k
  have h':=of_decide_eq_false h
  have k':=of_decide_eq_false k
  exact absurd (by omega) h1
theorem new_trans {a b c:En} (h:newB a b=true) (k:newB b c=true):newB a c=true:=by
 unfold newB at h k ⊢
 by_cases t1:a.time=b.time
 ·
  rw[if_neg (by simp[t1])] at h
  by_cases t2:b.time=c.time
  ·
   rw[if_neg (by simp[t2])] at k
   rw[if_neg (by simp[t1,t2])]
   by_cases n1:a.node=b.node
   ·
    rw[if_neg (by simp[n1])] at h
    by_cases n2:b.node=c.node
    ·
     rw[if_neg (by simp[n2])] at k
     rw[if_neg (by simp[n1,n2])]
     by_cases g1:a.gone=b.gone
     ·
      rw[if_neg (by simp[g1])] at h
      by_cases g2:b.gone=c.gone
      ·
       rw[if_neg (by simp[g2])] at k
       rw[if_neg (by simp[g1,g2])]
       exact decide_eq_true (List.lt_trans (of_decide_eq_true k) (of_decide_eq_true h))
      ·
       rw[if_pos g2] at k
       rw[if_pos (by rw[g1];exact g2),g1]
       exact k
     ·
      rw[if_pos g1] at h
      by_cases g2:b.gone=c.gone
      ·
       rw[if_pos (by rw[<- g2];exact g1)]
       exact h
      ·
       rw[if_pos g2] at k
       exact absurd (h.trans k.symm) g1
    ·
     rw[if_pos n2] at k
     rw[if_pos (by rw[n1];exact n2),n1]
     exact k
   ·
    rw[if_pos n1] at h
    have h':=of_decide_eq_true h
    by_cases n2:b.node=c.node
    ·
     rw[if_pos (by rw[<- n2];exact n1),<- n2]
     exact h
    ·
     rw[if_pos n2] at k
     have k':=of_decide_eq_true k
     rw[if_pos (by omega)]
     exact decide_eq_true (by omega)
  ·
   rw[if_pos t2] at k
   rw[if_pos (by rw[t1];exact t2),t1]
   exact k
 ·
  rw[if_pos t1] at h
  have h':=of_decide_eq_true h
  by_cases t2:b.time=c.time
  ·
   rw[if_pos (by rw[<- t2];exact t1),<- t2]
   exact h
  ·
   rw[if_pos t2] at k
   have k':=of_decide_eq_true k
   rw[if_pos (by omega)]
   exact decide_eq_true (by omega)
theorem en_ext {a b:En} (hk:a.key=b.key) (h:newB a b=false) (k:newB b a=false):a=b:=by
 obtain⟨h1,h2,h3,h4⟩:=new_total h k
 cases a
 cases b
 simp_all
def Ris (L:List En):Prop:=L.Pairwise fun a b=>a.key<b.key
def look (L:List En) (k:Bytes):Option En:=L.find? fun e=>decide (e.key=k)
theorem look_nil (k:Bytes):look [] k=none:=rfl
theorem look_cons (a:En) (L:List En) (k:Bytes):look (a::L) k=if a.key=k then some a else look L k:=by
 unfold look
 rw[List.find?_cons]
 by_cases h:a.key=k
 ·
  rw[if_pos h];simp[h]
 ·
  rw[if_neg h];simp[h]
theorem look_some {L:List En} {k:Bytes} {e:En} (h:look L k=some e):e∈L∧e.key=k:=by
 unfold look at h
 exact⟨List.mem_of_find?_eq_some h,by simpa using List.find?_some h⟩
theorem look_none_of {L:List En} {k:Bytes} (h:∀ e∈L,e.key≠k):look L k=none:=by
 unfold look
 exact List.find?_eq_none.2 (fun e he=>by simpa using h e he)
theorem ris_cons {a:En} {L:List En}:Ris (a::L)↔(∀ b∈L,a.key<b.key)∧Ris L:=List.pairwise_cons
theorem look_mem {L:List En} (h:Ris L) {e:En} (he:e∈L):look L e.key=some e:=by
 induction L with
 | nil=>cases he
 | cons a L ih =>
  obtain⟨h1,h2⟩:=ris_cons.1 h
  rw[look_cons]
  rcases List.mem_cons.1 he with rfl | he
  ·
   rw[if_pos rfl]
  ·
   rw[if_neg (fun e'=>List.lt_irrefl _ (by have:=h1 e he;rw[e'] at this;exact this))]
   exact ih h2 he
theorem ris_ext {L M:List En} (hL:Ris L) (hM:Ris M) (h:∀ k,look L k=look M k):L=M:=by
 induction L generalizing M with
 | nil =>
  cases M with
  | nil=>rfl
  | cons b M=>have:=h b.key;rw[look_nil,look_cons,if_pos rfl] at this;cases this
 | cons a L ih =>
  cases M with
  | nil=>have:=h a.key;rw[look_nil,look_cons,if_pos rfl] at this;cases this
  | cons b M =>
   obtain⟨a1,a2⟩:=ris_cons.1 hL
   obtain⟨b1,b2⟩:=ris_cons.1 hM
   have ea:=h a.key
   have eb:=h b.key
   rw[look_cons,if_pos rfl] at ea
   rw[look_cons b,if_pos rfl] at eb
   have hab:a=b:=by
    obtain⟨ma,_⟩:=look_some ea.symm
    obtain⟨mb,_⟩:=look_some eb
    rcases List.mem_cons.1 ma with e | ma
    ·
     exact e
    ·
     rcases List.mem_cons.1 mb with e | mb
     ·
      exact e.symm
     ·
      exact absurd (List.lt_trans (a1 b mb) (b1 a ma)) (List.lt_irrefl _)
   subst hab
   rw[ih a2 b2 (fun k=>?_)]
   have hk:=h k
   rw[look_cons,look_cons] at hk
   by_cases e:a.key=k
   ·
    rw[look_none_of (fun x hx=>by intro e';have:=a1 x hx;rw[e',e] at this;exact List.lt_irrefl _ this),look_none_of (fun x hx=>by intro e';have:=b1 x hx;rw[e',e] at this;exact List.lt_irrefl _ this)]
   ·
    rw[if_neg e,if_neg e] at hk
    exact hk
def pickE:Option En->Option En->Option En
 | none,y=>y
 | some x,none=>some x
 | some x,some y=>some (if newB y x then y else x)
structure IsJoin (A B J:List En):Prop where
 ris:Ris J
 at':∀ k,look J k=pickE (look A k) (look B k)
theorem IsJoin.unique {A B J K:List En} (h:IsJoin A B J) (k:IsJoin A B K):J=K:=ris_ext h.ris k.ris (fun x=>(h.at' x).trans (k.at' x).symm)
def mergeE:List En->List En->List En
 | [],B=>B
 | a::A,[]=>a::A
 | a::A,b::B=>if a.key<b.key then a::mergeE A (b::B) else if b.key<a.key then b::mergeE (a::A) B else (if newB b a then b else a)::mergeE A B
 termination_by A B=>A.length+B.length
theorem mergeE_nil (B:List En):mergeE [] B=B:=by unfold mergeE;rfl
theorem mergeE_right (A:List En):mergeE A []=A:=by
 cases A with
 | nil=>exact mergeE_nil []
 | cons a A=>unfold mergeE;rfl
theorem mergeE_cons (a b:En) (A B:List En):mergeE (a::A) (b::B)=if a.key<b.key then a::mergeE A (b::B) else if b.key<a.key then b::mergeE (a::A) B else (if newB b a then b else a)::mergeE A B:=by
 conv=>lhs;unfold mergeE
theorem pick_none_right (x:Option En):pickE x none=x:=by cases x<;>rfl
theorem merge_mem:∀ (A B:List En) {e:En},e∈mergeE A B->e∈A∨e∈B
 | [],B,e,h=>by rw[mergeE_nil] at h;exact .inr h
 | a::A,[],e,h=>by rw[mergeE_right] at h;exact .inl h
 | a::A,b::B,e,h=>by
  rw[mergeE_cons] at h
  by_cases h1:a.key<b.key
  ·
   rw[if_pos h1] at h
   rcases List.mem_cons.1 h with rfl | h
   ·
    exact .inl (List.mem_cons_self ..)
   ·
    rcases merge_mem A (b::B) h with h | h
    ·
     exact .inl (List.mem_cons_of_mem _ h)
    ·
     exact .inr h
  ·
   rw[if_neg h1] at h
   by_cases h2:b.key<a.key
   ·
    rw[if_pos h2] at h
    rcases List.mem_cons.1 h with rfl | h
    ·
     exact .inr (List.mem_cons_self ..)
    ·
     rcases merge_mem (a::A) B h with h | h
     ·
      exact .inl h
     ·
      exact .inr (List.mem_cons_of_mem _ h)
   ·
    rw[if_neg h2] at h
    rcases List.mem_cons.1 h with h | h
    ·
     cases hn:newB b a
     ·
      rw[hn] at h;exact .inl (by rw[h];exact List.mem_cons_self ..)
     ·
      rw[hn] at h;exact .inr (by rw[h];exact List.mem_cons_self ..)
    ·
     rcases merge_mem A B h with h | h
     ·
      exact .inl (List.mem_cons_of_mem _ h)
     ·
      exact .inr (List.mem_cons_of_mem _ h)
 termination_by A B=>A.length+B.length
theorem merge_join:∀ (A B:List En),Ris A->Ris B->IsJoin A B (mergeE A B)
 | [],B,_,hB=>by rw[mergeE_nil];exact⟨hB,fun k=>rfl⟩
 | a::A,[],hA,_=>by rw[mergeE_right];exact⟨hA,fun k=>by rw[look_nil,pick_none_right]⟩
 | a::A,b::B,hA,hB=>by
  obtain⟨a1,a2⟩:=ris_cons.1 hA
  obtain⟨b1,b2⟩:=ris_cons.1 hB
  have noA:∀ k,a.key=k->look A k=none:=fun k e=>look_none_of (fun x hx e'=>by have:=a1 x hx;rw[e',e] at this;exact List.lt_irrefl _ this)
  have noB:∀ k,b.key=k->look B k=none:=fun k e=>look_none_of (fun x hx e'=>by have:=b1 x hx;rw[e',e] at this;exact List.lt_irrefl _ this)
  rw[mergeE_cons]
  by_cases h1:a.key<b.key
  ·
   rw[if_pos h1]
   have ih:=merge_join A (b::B) a2 hB
   refine⟨ris_cons.2 ⟨fun x hx=>?_,ih.ris⟩,fun k=>?_⟩
   ·
    rcases merge_mem A (b::B) hx with h | h
    ·
     exact a1 x h
    ·
     rcases List.mem_cons.1 h with rfl | h
     ·
      exact h1
     ·
      exact List.lt_trans h1 (b1 x h)
   ·
    rw[look_cons,look_cons a,ih.at']
    by_cases e:a.key=k
    ·
     rw[if_pos e,if_pos e,look_none_of (fun x hx e'=>?_),pick_none_right]
     rcases List.mem_cons.1 hx with rfl | h
     ·
      rw[e',e] at h1;exact List.lt_irrefl _ h1
     ·
      have:=List.lt_trans h1 (b1 x h);rw[e',e] at this;exact List.lt_irrefl _ this
    ·
     rw[if_neg e,if_neg e]
  ·
   rw[if_neg h1]
   by_cases h2:b.key<a.key
   ·
    rw[if_pos h2]
    have ih:=merge_join (a::A) B hA b2
    refine⟨ris_cons.2 ⟨fun x hx=>?_,ih.ris⟩,fun k=>?_⟩
    ·
     rcases merge_mem (a::A) B hx with h | h
     ·
      rcases List.mem_cons.1 h with rfl | h
      ·
       exact h2
      ·
       exact List.lt_trans h2 (a1 x h)
     ·
      exact b1 x h
    ·
     rw[look_cons,look_cons b B,ih.at']
     by_cases e:b.key=k
     ·
      rw[if_pos e,if_pos e,look_none_of (L:=a::A) (fun x hx e'=>?_)]
      ·
       rfl
      ·
       rcases List.mem_cons.1 hx with rfl | h
       ·
        rw[e',e] at h2;exact List.lt_irrefl _ h2
       ·
        have:=List.lt_trans h2 (a1 x h);rw[e',e] at this;exact List.lt_irrefl _ this
     ·
      rw[if_neg e,if_neg e]
   ·
    rw[if_neg h2]
    have hk:a.key=b.key:=lt_total h1 h2
    have ih:=merge_join A B a2 b2
    have kk:(if newB b a=true then b else a).key=a.key:=by split<;>simp[hk]
    refine⟨ris_cons.2 ⟨fun x hx=>?_,ih.ris⟩,fun k=>?_⟩
    ·
     rw[kk]
     rcases merge_mem A B hx with h | h
     ·
      exact a1 x h
     ·
      rw[hk];exact b1 x h
    ·
     rw[look_cons,look_cons a A,look_cons b B,ih.at',kk]
     by_cases e:a.key=k
     ·
      rw[if_pos e,if_pos e,if_pos (show b.key=k from hk.symm.trans e)]
      rfl
     ·
      rw[if_neg e,if_neg e,if_neg (fun e'=>e (hk.trans e'))]
 termination_by A B=>A.length+B.length
def KeyAt (k:Bytes) (o:Option En):Prop:=∀ e,o=some e->e.key=k
theorem look_at (L:List En) (k:Bytes):KeyAt k (look L k):=fun e h=>(look_some h).2
theorem pick_at {k:Bytes} {x y:Option En} (hx:KeyAt k x) (hy:KeyAt k y):KeyAt k (pickE x y):=by
 intro e h
 cases x with
 | none=>exact hy e h
 | some a =>
  cases y with
  | none=>exact hx e h
  | some b =>
   have h':=Option.some.inj h
   cases hn:newB b a with
   | true=>rw[hn,if_pos rfl] at h';rw[<- h'];exact hy b rfl
   | false=>rw[hn,if_neg (by decide)] at h';rw[<- h'];exact hx a rfl
theorem pick_comm {k:Bytes} {x y:Option En} (hx:KeyAt k x) (hy:KeyAt k y):pickE x y=pickE y x:=by
 cases x with
 | none=>rw[pick_none_right];rfl
 | some a =>
  cases y with
  | none=>rfl
  | some b =>
   show some _=some _
   cases h1:newB b a with
   | true=>rw[new_asymm h1];simp
   | false =>
    cases h2:newB a b with
    | true=>simp
    | false=>simp[en_ext ((hx a rfl).trans (hy b rfl).symm) h2 h1]
theorem pick_self (x:Option En):pickE x x=x:=by
 cases x with
 | none=>rfl
 | some a=>show some _=some _;rw[new_irrefl];simp
theorem not_new_trans {a b c:En} (hk:a.key=b.key) (h:newB a b=false) (k:newB b c=false):newB a c=false:=by
 cases hac:newB a c with
 | false=>rfl
 | true =>
  cases hba:newB b a with
  | true=>exact absurd (new_trans hba hac) (by rw[k];decide)
  | false=>rw[en_ext hk h hba] at hac;rw[hac] at k;cases k
theorem pick_assoc {k:Bytes} {x y z:Option En} (hx:KeyAt k x) (hy:KeyAt k y) (hz:KeyAt k z):pickE (pickE x y) z=pickE x (pickE y z):=by
 cases x with
 | none=>rfl
 | some a =>
  cases y with
  | none=>rfl
  | some b =>
   cases z with
   | none=>rfl
   | some c =>
    have ka:=hx a rfl
    have kb:=hy b rfl
    have kc:=hz c rfl
    cases h1:newB b a with
    | true =>
     cases h2:newB c b with
     | true=>simp[pickE,h1,h2,new_trans h2 h1]
     | false=>simp[pickE,h1,h2]
    | false =>
     cases h2:newB c b with
     | true=>simp[pickE,h1,h2]
     | false=>simp[pickE,h1,h2,not_new_trans (kc.trans kb.symm) h2 h1]
theorem IsJoin.comm {A B J:List En} (h:IsJoin A B J):IsJoin B A J:=⟨h.ris,fun k=>(h.at' k).trans (pick_comm (look_at A k) (look_at B k))⟩
theorem IsJoin.mem {A B J:List En} (h:IsJoin A B J) {e:En} (he:e∈J):e∈A∨e∈B:=by
 have hl:=(look_mem h.ris he).symm.trans (h.at' e.key)
 cases hA:look A e.key with
 | none=>rw[hA] at hl;exact .inr (look_some (k:=e.key) hl.symm).1
 | some a =>
  cases hB:look B e.key with
  | none=>rw[hA,hB] at hl;exact .inl (by rw[Option.some.inj hl];exact (look_some hA).1)
  | some b =>
   rw[hA,hB] at hl
   have h':=Option.some.inj hl
   cases hn:newB b a with
   | true=>rw[hn,if_pos rfl] at h';rw[h'];exact .inr (look_some hB).1
   | false=>rw[hn,if_neg (by decide)] at h';rw[h'];exact .inl (look_some hA).1
def risB:List En->Bool
 | []=>true
 | [_]=>true
 | a::b::L=>decide (a.key<b.key)&&risB (b::L)
theorem risB_iff:∀ L:List En,risB L=true↔Ris L
 | []=>by simp[risB,Ris]
 | [a]=>by simp[risB,Ris]
 | a::b::L=>by
  unfold risB
  rw[Bool.and_eq_true,decide_eq_true_eq,risB_iff (b::L),ris_cons (a:=a)]
  refine⟨fun ⟨h1,h2⟩=>⟨fun x hx=>?_,h2⟩,fun ⟨h1,h2⟩=>⟨h1 b (List.mem_cons_self ..),h2⟩⟩
  rcases List.mem_cons.1 hx with rfl | hx
  ·
   exact h1
  ·
   exact List.lt_trans h1 ((ris_cons.1 h2).1 x hx)
def okBk (L:List En):Bool:=decide (L.length<=80)&&L.all okE&&risB L
theorem ok_ris {L:List En} (h:okBk L=true):Ris L:=by
 unfold okBk at h
 simp only[Bool.and_eq_true] at h
 exact (risB_iff L).1 h.2
theorem ok_len {L:List En} (h:okBk L=true):L.length<=80:=by
 unfold okBk at h
 simp only[Bool.and_eq_true,decide_eq_true_eq] at h
 exact h.1.1
theorem ok_all {L:List En} (h:okBk L=true) {e:En} (he:e∈L):okE e=true:=by
 unfold okBk at h
 simp only[Bool.and_eq_true,List.all_eq_true] at h
 exact h.1.2 e he
theorem ok_mk {L:List En} (h1:L.length<=80) (h2:∀ e∈L,okE e=true) (h3:Ris L):okBk L=true:=by
 unfold okBk
 simp only[Bool.and_eq_true,decide_eq_true_eq,List.all_eq_true]
 exact⟨⟨h1,h2⟩,(risB_iff L).2 h3⟩
def joinB (A B:List En):List En × Bool:=if okBk A=true∧okBk B=true∧(mergeE A B).length<=80 then (mergeE A B,true) else ([],false)
theorem join_of {A B J:List En} (hA:okBk A=true) (hB:okBk B=true) (h:IsJoin A B J):joinB A B=if J.length<=80 then (J,true) else ([],false):=by
 have e:mergeE A B=J:=(merge_join A B (ok_ris hA) (ok_ris hB)).unique h
 unfold joinB
 rw[e]
 by_cases hl:J.length<=80
 ·
  rw[if_pos ⟨hA,hB,hl⟩,if_pos hl]
 ·
  rw[if_neg (fun h=>hl h.2.2),if_neg hl]
end Go.Proofs.YtkeapmmochpcfaaGreat.Bk
