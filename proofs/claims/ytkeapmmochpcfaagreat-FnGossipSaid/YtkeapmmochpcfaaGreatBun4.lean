/- Members in plain words, as books are: by Id, which is Stronger, what is found under an Id, what two lists come to. (Written out of BokP by wip/mkMem.py.) No program in sight. -/
import Derived.WalkKit
import Derived.Test.YtkeapmmochpcfaaGreatMem2M
import Derived.Test.YtkeapmmochpcfaaGreatQuiet
import Derived.Handy
import Derived.Deep.RegionHeld3
import Derived.Test.YtkeapmmochpcfaaGreatDraw
import Derived.Test.YtkeapmmochpcfaaGreatBoxM
import Derived.Laws.StructEq
import Derived.Deep.QuietTactic
import Derived.BigQuiet
import Derived.WideLaws
import Derived.Deep.Cut
import Derived.Deep.CutRange
import Derived.Laws.AppendOwn
set_option maxRecDepth 100000
set_option maxHeartbeats 32000000
set_option linter.unusedVariables false
namespace Go.Proofs.YtkeapmmochpcfaaGreat.Mk
abbrev Bytes:=List UInt8
structure En where
 key:Int
 value:Bytes
 time:Int
 node:Int
 gone:Bool
 deriving DecidableEq
def okE (e:En):Bool:=decide (0<=e.key)&&decide (e.key<=7)&&decide (0<=e.time)&&decide (e.time<=1000000)&&decide (0<=e.node)&&decide (e.node<=2)
def newB (a b:En):Bool :=
 if a.time≠b.time then decide (b.time<a.time)
 else if a.node≠b.node then decide (b.node<a.node)
 else if a.gone≠b.gone then a.gone
 else decide (b.value<a.value)
theorem lt_total {a b:Bytes} (h:¬ a<b) (k:¬ b<a):a=b:=List.le_antisymm k h
theorem new_irrefl (a:En):newB a a=false:=by
 unfold newB
 simp[List.lt_irrefl]
theorem new_asymm {a b:En} (h:newB a b=true):newB b a=false:=by
 unfold newB at h ⊢
 by_cases h1:a.time=b.time
 ·
  rw[if_neg (by simp[h1])] at h
  rw[if_neg (by simp[h1])]
  by_cases h2:a.node=b.node
  ·
   rw[if_neg (by simp[h2])] at h
   rw[if_neg (by simp[h2])]
   by_cases h3:a.gone=b.gone
   ·
    rw[if_neg (by simp[h3])] at h
    rw[if_neg (by simp[h3])]
    exact decide_eq_false (fun k=>List.lt_irrefl _ (List.lt_trans k (of_decide_eq_true h)))
   ·
    rw[if_pos h3] at h
    rw[if_pos (fun e=>h3 e.symm)]
    cases hb:b.gone
    ·
     rfl
    ·
     rw[h,hb] at h3;exact absurd rfl h3
  ·
   rw[if_pos h2] at h
   rw[if_pos (fun e=>h2 e.symm)]
   have:=of_decide_eq_true h
   exact decide_eq_false (by omega)
 ·
  rw[if_pos h1] at h
  rw[if_pos (fun e=>h1 e.symm)]
  have:=of_decide_eq_true h
  exact decide_eq_false (by omega)
theorem new_total {a b:En} (h:newB a b=false) (k:newB b a=false):a.time=b.time∧a.node=b.node∧a.gone=b.gone∧a.value=b.value:=by
 unfold newB at h k
 by_cases h1:a.time=b.time
 ·
  rw[if_neg (by simp[h1])] at h
  rw[if_neg (by simp[h1])] at k
  by_cases h2:a.node=b.node
  ·
   rw[if_neg (by simp[h2])] at h
   rw[if_neg (by simp[h2])] at k
   by_cases h3:a.gone=b.gone
   ·
    rw[if_neg (by simp[h3])] at h
    rw[if_neg (by simp[h3])] at k
    exact⟨h1,h2,h3,lt_total (of_decide_eq_false k) (of_decide_eq_false h)⟩
   ·
    rw[if_pos h3] at h
    rw[if_pos (fun e=>h3 e.symm)] at k
    exact absurd (h.trans k.symm) h3
  ·
   rw[if_pos h2] at h
   rw[if_pos (fun e=>h2 e.symm)] at k
   have h':=of_decide_eq_false h
   have k':=of_decide_eq_false k
   exact absurd (by omega) h2
 ·
  rw[if_pos h1] at h
  rw[if_pos (fun e=>h1 e.symm)] at k
  have h':=of_decide_eq_false h
  have k':=of_decide_eq_false k
  exact absurd (by omega) h1
theorem new_trans {a b c:En} (h:newB a b=true) (k:newB b c=true):newB a c=true:=by
 unfold newB at h k ⊢
 by_cases t1:a.time=b.time
 ·
  rw[if_neg (by simp[t1])] at h
  by_cases t2:b.time=c.time
  ·
   rw[if_neg (by simp[t2])] at k
   rw[if_neg (by simp[t1,t2])]
   by_cases n1:a.node=b.node
   ·
    rw[if_neg (by simp[n1])] at h
    by_cases n2:b.node=c.node
    ·
     rw[if_neg (by simp[n2])] at k
     rw[if_neg (by simp[n1,n2])]
     by_cases g1:a.gone=b.gone
     ·
      rw[if_neg (by simp[g1])] at h
      by_cases g2:b.gone=c.gone
      ·
       rw[if_neg (by simp[g2])] at k
       rw[if_neg (by simp[g1,g2])]
       exact decide_eq_true (List.lt_trans (of_decide_eq_true k) (of_decide_eq_true h))
      ·
       rw[if_pos g2] at k
       rw[if_pos (by rw[g1];exact g2),g1]
       exact k
     ·
      rw[if_pos g1] at h
      by_cases g2:b.gone=c.gone
      ·
       rw[if_pos (by rw[<- g2];exact g1)]
       exact h
      ·
       rw[if_pos g2] at k
       exact absurd (h.trans k.symm) g1
    ·
     rw[if_pos n2] at k
     rw[if_pos (by rw[n1];exact n2),n1]
     exact k
   ·
    rw[if_pos n1] at h
    have h':=of_decide_eq_true h
    by_cases n2:b.node=c.node
    ·
     rw[if_pos (by rw[<- n2];exact n1),<- n2]
     exact h
    ·
     rw[if_pos n2] at k
     have k':=of_decide_eq_true k
     rw[if_pos (by omega)]
     exact decide_eq_true (by omega)
  ·
   rw[if_pos t2] at k
   rw[if_pos (by rw[t1];exact t2),t1]
   exact k
 ·
  rw[if_pos t1] at h
  have h':=of_decide_eq_true h
  by_cases t2:b.time=c.time
  ·
   rw[if_pos (by rw[<- t2];exact t1),<- t2]
   exact h
  ·
   rw[if_pos t2] at k
   have k':=of_decide_eq_true k
   rw[if_pos (by omega)]
   exact decide_eq_true (by omega)
theorem en_ext {a b:En} (hk:a.key=b.key) (h:newB a b=false) (k:newB b a=false):a=b:=by
 obtain⟨h1,h2,h3,h4⟩:=new_total h k
 cases a
 cases b
 simp_all
def Ris (L:List En):Prop:=L.Pairwise fun a b=>a.key<b.key
def look (L:List En) (k:Int):Option En:=L.find? fun e=>decide (e.key=k)
theorem look_nil (k:Int):look [] k=none:=rfl
theorem look_cons (a:En) (L:List En) (k:Int):look (a::L) k=if a.key=k then some a else look L k:=by
 unfold look
 rw[List.find?_cons]
 by_cases h:a.key=k
 ·
  rw[if_pos h];simp[h]
 ·
  rw[if_neg h];simp[h]
theorem look_some {L:List En} {k:Int} {e:En} (h:look L k=some e):e∈L∧e.key=k:=by
 unfold look at h
 exact⟨List.mem_of_find?_eq_some h,by simpa using List.find?_some h⟩
theorem look_none_of {L:List En} {k:Int} (h:∀ e∈L,e.key≠k):look L k=none:=by
 unfold look
 exact List.find?_eq_none.2 (fun e he=>by simpa using h e he)
theorem ris_cons {a:En} {L:List En}:Ris (a::L)↔(∀ b∈L,a.key<b.key)∧Ris L:=List.pairwise_cons
theorem look_mem {L:List En} (h:Ris L) {e:En} (he:e∈L):look L e.key=some e:=by
 induction L with
 | nil=>cases he
 | cons a L ih =>
  obtain⟨h1,h2⟩:=ris_cons.1 h
  rw[look_cons]
  rcases List.mem_cons.1 he with rfl | he
  ·
   rw[if_pos rfl]
  ·
   rw[if_neg (fun e'=>Int.lt_irrefl _ (by have:=h1 e he;rw[e'] at this;exact this))]
   exact ih h2 he
theorem ris_ext {L M:List En} (hL:Ris L) (hM:Ris M) (h:∀ k,look L k=look M k):L=M:=by
 induction L generalizing M with
 | nil =>
  cases M with
  | nil=>rfl
  | cons b M=>have:=h b.key;rw[look_nil,look_cons,if_pos rfl] at this;cases this
 | cons a L ih =>
  cases M with
  | nil=>have:=h a.key;rw[look_nil,look_cons,if_pos rfl] at this;cases this
  | cons b M =>
   obtain⟨a1,a2⟩:=ris_cons.1 hL
   obtain⟨b1,b2⟩:=ris_cons.1 hM
   have ea:=h a.key
   have eb:=h b.key
   rw[look_cons,if_pos rfl] at ea
   rw[look_cons b,if_pos rfl] at eb
   have hab:a=b:=by
    obtain⟨ma,_⟩:=look_some ea.symm
    obtain⟨mb,_⟩:=look_some eb
    rcases List.mem_cons.1 ma with e | ma
    ·
     exact e
    ·
     rcases List.mem_cons.1 mb with e | mb
     ·
      exact e.symm
     ·
      exact absurd (Int.lt_trans (a1 b mb) (b1 a ma)) (Int.lt_irrefl _)
   subst hab
   rw[ih a2 b2 (fun k=>?_)]
   have hk:=h k
   rw[look_cons,look_cons] at hk
   by_cases e:a.key=k
   ·
    rw[look_none_of (fun x hx=>by intro e';have:=a1 x hx;rw[e',e] at this;exact Int.lt_irrefl _ this),look_none_of (fun x hx=>by intro e';have:=b1 x hx;rw[e',e] at this;exact Int.lt_irrefl _ this)]
   ·
    rw[if_neg e,if_neg e] at hk
    exact hk
def pickE:Option En->Option En->Option En
 | none,y=>y
 | some x,none=>some x
 | some x,some y=>some (if newB y x then y else x)
structure IsJoin (A B J:List En):Prop where
 ris:Ris J
 at':∀ k,look J k=pickE (look A k) (look B k)
theorem IsJoin.unique {A B J K:List En} (h:IsJoin A B J) (k:IsJoin A B K):J=K:=ris_ext h.ris k.ris (fun x=>(h.at' x).trans (k.at' x).symm)
def mergeE:List En->List En->List En
 | [],B=>B
 | a::A,[]=>a::A
 | a::A,b::B=>if a.key<b.key then a::mergeE A (b::B) else if b.key<a.key then b::mergeE (a::A) B else (if newB b a then b else a)::mergeE A B
 termination_by A B=>A.length+B.length
theorem mergeE_nil (B:List En):mergeE [] B=B:=by unfold mergeE;rfl
theorem mergeE_right (A:List En):mergeE A []=A:=by
 cases A with
 | nil=>exact mergeE_nil []
 | cons a A=>unfold mergeE;rfl
theorem mergeE_cons (a b:En) (A B:List En):mergeE (a::A) (b::B)=if a.key<b.key then a::mergeE A (b::B) else if b.key<a.key then b::mergeE (a::A) B else (if newB b a then b else a)::mergeE A B:=by
 conv=>lhs;unfold mergeE
theorem pick_none_right (x:Option En):pickE x none=x:=by cases x<;>rfl
theorem merge_mem:∀ (A B:List En) {e:En},e∈mergeE A B->e∈A∨e∈B
 | [],B,e,h=>by rw[mergeE_nil] at h;exact .inr h
 | a::A,[],e,h=>by rw[mergeE_right] at h;exact .inl h
 | a::A,b::B,e,h=>by
  rw[mergeE_cons] at h
  by_cases h1:a.key<b.key
  ·
   rw[if_pos h1] at h
   rcases List.mem_cons.1 h with rfl | h
   ·
    exact .inl (List.mem_cons_self ..)
   ·
    rcases merge_mem A (b::B) h with h | h
    ·
     exact .inl (List.mem_cons_of_mem _ h)
    ·
     exact .inr h
  ·
   rw[if_neg h1] at h
   by_cases h2:b.key<a.key
   ·
    rw[if_pos h2] at h
    rcases List.mem_cons.1 h with rfl | h
    ·
     exact .inr (List.mem_cons_self ..)
    ·
     rcases merge_mem (a::A) B h with h | h
     ·
      exact .inl h
     ·
      exact .inr (List.mem_cons_of_mem _ h)
   ·
    rw[if_neg h2] at h
    rcases List.mem_cons.1 h with h | h
    ·
     cases hn:newB b a
     ·
      rw[hn] at h;exact .inl (by rw[h];exact List.mem_cons_self ..)
     ·
      rw[hn] at h;exact .inr (by rw[h];exact List.mem_cons_self ..)
    ·
     rcases merge_mem A B h with h | h
     ·
      exact .inl (List.mem_cons_of_mem _ h)
     ·
      exact .inr (List.mem_cons_of_mem _ h)
 termination_by A B=>A.length+B.length
theorem merge_join:∀ (A B:List En),Ris A->Ris B->IsJoin A B (mergeE A B)
 | [],B,_,hB=>by rw[mergeE_nil];exact⟨hB,fun k=>rfl⟩
 | a::A,[],hA,_=>by rw[mergeE_right];exact⟨hA,fun k=>by rw[look_nil,pick_none_right]⟩
 | a::A,b::B,hA,hB=>by
  obtain⟨a1,a2⟩:=ris_cons.1 hA
  obtain⟨b1,b2⟩:=ris_cons.1 hB
  have noA:∀ k,a.key=k->look A k=none:=fun k e=>look_none_of (fun x hx e'=>by have:=a1 x hx;rw[e',e] at this;exact Int.lt_irrefl _ this)
  have noB:∀ k,b.key=k->look B k=none:=fun k e=>look_none_of (fun x hx e'=>by have:=b1 x hx;rw[e',e] at this;exact Int.lt_irrefl _ this)
  rw[mergeE_cons]
  by_cases h1:a.key<b.key
  ·
   rw[if_pos h1]
   have ih:=merge_join A (b::B) a2 hB
   refine⟨ris_cons.2 ⟨fun x hx=>?_,ih.ris⟩,fun k=>?_⟩
   ·
    rcases merge_mem A (b::B) hx with h | h
    ·
     exact a1 x h
    ·
     rcases List.mem_cons.1 h with rfl | h
     ·
      exact h1
     ·
      exact Int.lt_trans h1 (b1 x h)
   ·
    rw[look_cons,look_cons a,ih.at']
    by_cases e:a.key=k
    ·
     rw[if_pos e,if_pos e,look_none_of (fun x hx e'=>?_),pick_none_right]
     rcases List.mem_cons.1 hx with rfl | h
     ·
      rw[e',e] at h1;exact Int.lt_irrefl _ h1
     ·
      have:=Int.lt_trans h1 (b1 x h);rw[e',e] at this;exact Int.lt_irrefl _ this
    ·
     rw[if_neg e,if_neg e]
  ·
   rw[if_neg h1]
   by_cases h2:b.key<a.key
   ·
    rw[if_pos h2]
    have ih:=merge_join (a::A) B hA b2
    refine⟨ris_cons.2 ⟨fun x hx=>?_,ih.ris⟩,fun k=>?_⟩
    ·
     rcases merge_mem (a::A) B hx with h | h
     ·
      rcases List.mem_cons.1 h with rfl | h
      ·
       exact h2
      ·
       exact Int.lt_trans h2 (a1 x h)
     ·
      exact b1 x h
    ·
     rw[look_cons,look_cons b B,ih.at']
     by_cases e:b.key=k
     ·
      rw[if_pos e,if_pos e,look_none_of (L:=a::A) (fun x hx e'=>?_)]
      ·
       rfl
      ·
       rcases List.mem_cons.1 hx with rfl | h
       ·
        rw[e',e] at h2;exact Int.lt_irrefl _ h2
       ·
        have:=Int.lt_trans h2 (a1 x h);rw[e',e] at this;exact Int.lt_irrefl _ this
     ·
      rw[if_neg e,if_neg e]
   ·
    rw[if_neg h2]
    have hk:a.key=b.key:=Int.le_antisymm (Int.not_lt.1 h2) (Int.not_lt.1 h1)
    have ih:=merge_join A B a2 b2
    have kk:(if newB b a=true then b else a).key=a.key:=by split<;>simp[hk]
    refine⟨ris_cons.2 ⟨fun x hx=>?_,ih.ris⟩,fun k=>?_⟩
    ·
     rw[kk]
     rcases merge_mem A B hx with h | h
     ·
      exact a1 x h
     ·
      rw[hk];exact b1 x h
    ·
     rw[look_cons,look_cons a A,look_cons b B,ih.at',kk]
     by_cases e:a.key=k
     ·
      rw[if_pos e,if_pos e,if_pos (show b.key=k from hk.symm.trans e)]
      rfl
     ·
      rw[if_neg e,if_neg e,if_neg (fun e'=>e (hk.trans e'))]
 termination_by A B=>A.length+B.length
def KeyAt (k:Int) (o:Option En):Prop:=∀ e,o=some e->e.key=k
theorem look_at (L:List En) (k:Int):KeyAt k (look L k):=fun e h=>(look_some h).2
theorem pick_at {k:Int} {x y:Option En} (hx:KeyAt k x) (hy:KeyAt k y):KeyAt k (pickE x y):=by
 intro e h
 cases x with
 | none=>exact hy e h
 | some a =>
  cases y with
  | none=>exact hx e h
  | some b =>
   have h':=Option.some.inj h
   cases hn:newB b a with
   | true=>rw[hn,if_pos rfl] at h';rw[<- h'];exact hy b rfl
   | false=>rw[hn,if_neg (by decide)] at h';rw[<- h'];exact hx a rfl
theorem pick_comm {k:Int} {x y:Option En} (hx:KeyAt k x) (hy:KeyAt k y):pickE x y=pickE y x:=by
 cases x with
 | none=>rw[pick_none_right];rfl
 | some a =>
  cases y with
  | none=>rfl
  | some b =>
   show some _=some _
   cases h1:newB b a with
   | true=>rw[new_asymm h1];simp
   | false =>
    cases h2:newB a b with
    | true=>simp
    | false=>simp[en_ext ((hx a rfl).trans (hy b rfl).symm) h2 h1]
theorem pick_self (x:Option En):pickE x x=x:=by
 cases x with
 | none=>rfl
 | some a=>show some _=some _;rw[new_irrefl];simp
theorem not_new_trans {a b c:En} (hk:a.key=b.key) (h:newB a b=false) (k:newB b c=false):newB a c=false:=by
 cases hac:newB a c with
 | false=>rfl
 | true =>
  cases hba:newB b a with
  | true=>exact absurd (new_trans hba hac) (by rw[k];decide)
  | false=>rw[en_ext hk h hba] at hac;rw[hac] at k;cases k
theorem pick_assoc {k:Int} {x y z:Option En} (hx:KeyAt k x) (hy:KeyAt k y) (hz:KeyAt k z):pickE (pickE x y) z=pickE x (pickE y z):=by
 cases x with
 | none=>rfl
 | some a =>
  cases y with
  | none=>rfl
  | some b =>
   cases z with
   | none=>rfl
   | some c =>
    have ka:=hx a rfl
    have kb:=hy b rfl
    have kc:=hz c rfl
    cases h1:newB b a with
    | true =>
     cases h2:newB c b with
     | true=>simp[pickE,h1,h2,new_trans h2 h1]
     | false=>simp[pickE,h1,h2]
    | false =>
     cases h2:newB c b with
     | true=>simp[pickE,h1,h2]
     | false=>simp[pickE,h1,h2,not_new_trans (kc.trans kb.symm) h2 h1]
theorem IsJoin.comm {A B J:List En} (h:IsJoin A B J):IsJoin B A J:=⟨h.ris,fun k=>(h.at' k).trans (pick_comm (look_at A k) (look_at B k))⟩
theorem IsJoin.mem {A B J:List En} (h:IsJoin A B J) {e:En} (he:e∈J):e∈A∨e∈B:=by
 have hl:=(look_mem h.ris he).symm.trans (h.at' e.key)
 cases hA:look A e.key with
 | none=>rw[hA] at hl;exact .inr (look_some (k:=e.key) hl.symm).1
 | some a =>
  cases hB:look B e.key with
  | none=>rw[hA,hB] at hl;exact .inl (by rw[Option.some.inj hl];exact (look_some hA).1)
  | some b =>
   rw[hA,hB] at hl
   have h':=Option.some.inj hl
   cases hn:newB b a with
   | true=>rw[hn,if_pos rfl] at h';rw[h'];exact .inr (look_some hB).1
   | false=>rw[hn,if_neg (by decide)] at h';rw[h'];exact .inl (look_some hA).1
def risB:List En->Bool
 | []=>true
 | [_]=>true
 | a::b::L=>decide (a.key<b.key)&&risB (b::L)
theorem risB_iff:∀ L:List En,risB L=true↔Ris L
 | []=>by simp[risB,Ris]
 | [a]=>by simp[risB,Ris]
 | a::b::L=>by
  unfold risB
  rw[Bool.and_eq_true,decide_eq_true_eq,risB_iff (b::L),ris_cons (a:=a)]
  refine⟨fun ⟨h1,h2⟩=>⟨fun x hx=>?_,h2⟩,fun ⟨h1,h2⟩=>⟨h1 b (List.mem_cons_self ..),h2⟩⟩
  rcases List.mem_cons.1 hx with rfl | hx
  ·
   exact h1
  ·
   exact Int.lt_trans h1 ((ris_cons.1 h2).1 x hx)
def okBk (L:List En):Bool:=decide (L.length<=8)&&L.all okE&&risB L
theorem ok_ris {L:List En} (h:okBk L=true):Ris L:=by
 unfold okBk at h
 simp only[Bool.and_eq_true] at h
 exact (risB_iff L).1 h.2
theorem ok_len {L:List En} (h:okBk L=true):L.length<=8:=by
 unfold okBk at h
 simp only[Bool.and_eq_true,decide_eq_true_eq] at h
 exact h.1.1
theorem ok_all {L:List En} (h:okBk L=true) {e:En} (he:e∈L):okE e=true:=by
 unfold okBk at h
 simp only[Bool.and_eq_true,List.all_eq_true] at h
 exact h.1.2 e he
theorem ok_mk {L:List En} (h1:L.length<=8) (h2:∀ e∈L,okE e=true) (h3:Ris L):okBk L=true:=by
 unfold okBk
 simp only[Bool.and_eq_true,decide_eq_true_eq,List.all_eq_true]
 exact⟨⟨h1,h2⟩,(risB_iff L).2 h3⟩
end Go.Proofs.YtkeapmmochpcfaaGreat.Mk
namespace Go.Proofs.YtkeapmmochpcfaaGreat.Mm
open Go.ChangeShapes Go.WideShapes Go.ChangeAt Go.RowKit
open Rc (BelowBy BelowBy.one wp_region_below calls_below calls_same)
open Mk (okE newB okBk look Ris)
def toE (x:Rw):Mk.En:=⟨x.1,[],x.2.1,x.2.2,false⟩
theorem toE_inj {x y:Rw} (h:toE x=toE y):x=y:=by
 obtain⟨a,b,c⟩:=x
 obtain⟨a',b',c'⟩:=y
 simp only[toE,Mk.En.mk.injEq] at h
 obtain⟨rfl,_,rfl,rfl,_⟩:=h
 rfl
abbrev toB (L:List Rw):List Mk.En:=L.map toE
theorem toB_inj {L M:List Rw} (h:toB L=toB M):L=M:=by
 induction L generalizing M with
 | nil=>cases M with
  | nil=>rfl
  | cons y M=>cases h
 | cons x L ih=>cases M with
  | nil=>cases h
  | cons y M =>
   simp only[toB,List.map_cons,List.cons.injEq] at h
   rw[toE_inj h.1,ih h.2]
abbrev kat (L:List Rw) (i:Nat):Int:=(rat L i).1
theorem new_str (x y:Rw):newB (toE x) (toE y)=(decide (y.2.1<x.2.1)||(decide (x.2.1=y.2.1)&&decide (y.2.2<x.2.2))):=by
 obtain⟨a,b,c⟩:=x
 obtain⟨a',b',c'⟩:=y
 unfold newB toE
 simp only
 by_cases h:b=b'
 ·
  subst h
  rw[if_neg (by simp)]
  by_cases k:c=c'
  ·
   subst k;simp
  ·
   rw[if_pos k];simp
 ·
  rw[if_pos h]
  simp[h]
theorem ris_of {L:List Rw} (h:∀ i,i+1<L.length->kat L i<kat L (i+1)):Ris (toB L):=by
 unfold Ris
 rw[List.pairwise_iff_getElem]
 have far:∀ d i,i+d+1<L.length->kat L i<kat L (i+d+1):=by
  intro d
  induction d with
  | zero=>intro i hi;exact h i hi
  | succ d ih=>intro i hi;exact Int.lt_trans (ih i (by omega)) (h (i+d+1) hi)
 intro i j hi hj hij
 rw[List.length_map] at hi hj
 have:=far (j - i - 1) i (by omega)
 rw[show i+(j - i - 1)+1=j by omega] at this
 unfold kat at this
 rw[rat_at hi,rat_at hj] at this
 rw[List.getElem_map,List.getElem_map]
 exact this
theorem ris_to {L:List Rw} (h:Ris (toB L)) (i:Nat) (hi:i+1<L.length):kat L i<kat L (i+1):=by
 unfold Ris at h
 rw[List.pairwise_iff_getElem] at h
 have:=h i (i+1) (by rw[List.length_map];omega) (by rw[List.length_map];exact hi) (by omega)
 rw[List.getElem_map,List.getElem_map] at this
 unfold kat
 rw[rat_at (by omega),rat_at hi]
 exact this
theorem book_yes {L:List Rw} (h1:L.length<=8) (h2:∀ i,i<L.length->okE (toE (rat L i))=true) (h3:∀ i,i+1<L.length->kat L i<kat L (i+1)):okBk (toB L)=true:=by
 refine Mk.ok_mk (by rw[List.length_map];exact h1) (fun e he=>?_) (ris_of h3)
 obtain⟨x,hx,rfl⟩:=List.mem_map.1 he
 obtain⟨i,hi,rfl⟩:=List.mem_iff_getElem.1 hx
 have:=h2 i hi
 rwa [rat_at hi] at this
theorem book_no1 {L:List Rw} (h:¬ L.length<=8):okBk (toB L)=false:=by
 cases e:okBk (toB L) with
 | false=>rfl
 | true=>exact absurd (by have:=Mk.ok_len e;rwa [List.length_map] at this) h
theorem book_no2 {L:List Rw} {i:Nat} (hi:i<L.length) (h:okE (toE (rat L i))=false):okBk (toB L)=false:=by
 cases e:okBk (toB L) with
 | false=>rfl
 | true =>
  have:=Mk.ok_all e (List.mem_map.2 ⟨_,rat_mem hi,rfl⟩)
  rw[h] at this
  cases this
theorem book_no3 {L:List Rw} {i:Nat} (hi:i+1<L.length) (h:¬ kat L i<kat L (i+1)):okBk (toB L)=false:=by
 cases e:okBk (toB L) with
 | false=>rfl
 | true=>exact absurd (ris_to (Mk.ok_ris e) i hi) h
theorem spec_Stronger (x y:Rw) (w:World):Calls Tryz.prog 98 #[rv x,rv y] w fun e w'=>e=.returned (.bool (newB (toE x) (toE y)))∧Below w.heap.size w w':=by
 rw[new_str]
 obtain⟨a,b,c⟩:=x
 obtain⟨a',b',c'⟩:=y
 simp only
 by_cases h1:b'<b
 ·
  rw[decide_eq_true h1,Bool.true_or]
  go_enter Tryz.func98,Tryz.ntmps98
  go_wp2
  go_ret
  exact⟨rfl,by go_grown⟩
 ·
  rw[decide_eq_false h1,Bool.false_or]
  by_cases h2:b=b'
  ·
   subst h2
   have e2:(b==b)=true:=by simp
   rw[decide_eq_true rfl,Bool.true_and]
   go_enter Tryz.func98,Tryz.ntmps98
   go_wp2
   go_ret
   exact⟨rfl,by go_grown⟩
  ·
   have e2:(b==b')=false:=by simpa using h2
   rw[decide_eq_false h2,Bool.false_and]
   go_enter Tryz.func98,Tryz.ntmps98
   go_wp2
   go_ret
   exact⟨rfl,by go_grown⟩
end Go.Proofs.YtkeapmmochpcfaaGreat.Mm
namespace Go.Proofs.YtkeapmmochpcfaaGreat.Mm
open Go.ChangeShapes Go.WideShapes Go.ChangeAt Go.RowKit
open Dr
theorem likeMembers_same (a b:Option Addr) (ca cb:Nat) (L:List Rw) (w:World) (ha:Rd w a L) (hb:Rd w b L) (hl:L.length<=9223372036854775806) :
  Calls Tryz.prog 17 #[.slice a L.length ca,.slice b L.length cb] w fun e w'=>e=.returned (.bool true)∧Below w.heap.size w w':=by
 generalize hn:L.length=n at *
 have HA:=hidIt ha
 have HB:=hidIt hb
 have HN:=hidIt hn
 clear ha hb hn
 have hnn:((n:Int) != (n:Int))=false:=by simp
 go_enter Tryz.func17,Tryz.ntmps17
 go_wp2_with (fail)
 go_loopw [5] (fun y wx=>∃ i:Nat,y=.int .i64 i∧i<=n∧Hid (Below w.heap.size w wx)) (fun y _=>(n - intOf y).toNat)
 case atStart=>exact⟨0,rfl,by omega,hidIt (Below.refl _ _)⟩
 case round =>
  obtain⟨i,rfl,hi,KX⟩:=hrel
  have RA:=hidIt (HA.out.kept KX.out)
  have RB:=hidIt (HB.out.kept KX.out)
  have KX':=hidIt (fun x=>Go.Proofs.YtkeapmmochpcfaaGreat.Below.drewN KX.out x)
  by_cases hin:i<n
  ·
   have hin':(i:Int)<(n:Int):=by omega
   obtain⟨b1,o1,rfl,c0,c1,c2⟩:=RA.out.all (i:=i) (by rw[HN.out];omega)
   obtain⟨b2,o2,rfl,d0,d1,d2⟩:=RB.out.all (i:=i) (by rw[HN.out];omega)
   generalize rat L i=x at c0 c1 c2 d0 d1 d2
   obtain⟨x0,x1,x2⟩:=x
   simp only at c0 c1 c2 d0 d1 d2
   have e0:(x0==x0)=true:=by simp
   have e1:(x1==x1)=true:=by simp
   have e2:(x2==x2)=true:=by simp
   clear RA RB HA HB
   go_wp2_with (fail)
   go_quiet (fail)
   go_wp2_with (fail)
   exact⟨⟨i+1,by simp,by omega,hidIt (KX'.out _)⟩,by simp[intOf];omega⟩
  ·
   have hin':¬ (i:Int)<(n:Int):=by omega
   go_wp2_with (fail)
   go_ret
   exact⟨rfl,KX.out⟩
end Go.Proofs.YtkeapmmochpcfaaGreat.Mm
namespace Go.Proofs.YtkeapmmochpcfaaGreat.Mm
open Go.ChangeShapes Go.WideShapes Go.ChangeAt Go.RowKit
open Dr
theorem from_10 (B c:Nat) (a:Option Addr) (len cap:Nat) (w:World) (hC:Cur B w c a len cap) :
  Calls Tryz.prog 27 #[.pointer (some ⟨c,0,none⟩),.int .i64 (-1),.int .i64 10] w fun e w'=>∃ x:Int,e=.returned (.int .i64 x)∧Cur B w' c a len cap∧Only c w w':=by
 have HC:=hidIt hC
 clear hC
 go_enter Tryz.func27,Tryz.ntmps27
 go_wp2_with (fail)
 refine (l1Below_any B c a len cap _ _ (by decide) HC.out).mono ?_
 rintro e w1 ⟨x,x0,x1,rfl,hC1,hO1⟩
 have C1:=hidIt hC1
 have O1:=hidIt hO1
 clear hC1 hO1
 go_wp2_with (fail)
 go_ret
 exact⟨_,rfl,C1.out,O1.out⟩
theorem from_5 (B c:Nat) (a:Option Addr) (len cap:Nat) (w:World) (hC:Cur B w c a len cap) :
  Calls Tryz.prog 27 #[.pointer (some ⟨c,0,none⟩),.int .i64 (-1),.int .i64 5] w fun e w'=>∃ x:Int,e=.returned (.int .i64 x)∧Cur B w' c a len cap∧Only c w w':=by
 have HC:=hidIt hC
 clear hC
 go_enter Tryz.func27,Tryz.ntmps27
 go_wp2_with (fail)
 refine (l1Below_any B c a len cap _ _ (by decide) HC.out).mono ?_
 rintro e w1 ⟨x,x0,x1,rfl,hC1,hO1⟩
 have C1:=hidIt hC1
 have O1:=hidIt hO1
 clear hC1 hO1
 go_wp2_with (fail)
 go_ret
 exact⟨_,rfl,C1.out,O1.out⟩
structure Da (B:Nat) (w wx:World) (c:Nat) (ad:Option Addr) (len cap:Nat) (v:Value) (L:List Rw):Prop where
 own:Own wx w.heap.size v L
 cur:Cur B wx c ad len cap
 only:Only c w wx
theorem Da.call {B c len cap:Nat} {w wx w':World} {ad:Option Addr} {v:Value} {L:List Rw} (h:Da B w wx c ad len cap v L) (hC:Cur B w' c ad len cap) (k:Only c wx w') (hc:c<w.heap.size):Da B w w' c ad len cap v L :=
 ⟨h.own.only k (.inl hc),hC,h.only.trans k⟩
theorem Da.low {B c len cap:Nat} {w wx w':World} {ad:Option Addr} {v:Value} {L:List Rw} (h:Da B w wx c ad len cap v L) (k:Below wx.heap.size wx w'):Da B w w' c ad len cap v L :=
 ⟨h.own.kept k,h.cur.kept (k.mono (by have:=h.cur.lt;omega)),h.only.trans (Only.of_below k)⟩
theorem Da.grown {B c len cap:Nat} {w wx w':World} {ad:Option Addr} {v v':Value} {L M:List Rw} (h:Da B w wx c ad len cap v L) (hc:c<w.heap.size) (o:Own w' w.heap.size v' M) (g:wx.grownBy w' v.ownBlock):Da B w w' c ad len cap v' M:=by
 have kk:=grown_below h.own g (Nat.le_refl _) h.only.size
 exact⟨o,h.cur.kept (kk.mono (by omega)),⟨kk.os.trans h.only.os,kk.tape.trans h.only.tape,kk.output.trans h.only.output,Nat.le_trans h.only.size kk.size,fun i hi hne=>(kk.block i hi).trans (h.only.block i hi hne)⟩⟩
theorem Da.set {B c len cap g m cp i j:Nat} {w wx:World} {ad:Option Addr} {L:List Rw} {v:Value} {y:Rw} (h:Da B w wx c ad len cap (.slice (some ⟨g,0,none⟩) m cp) L) (hc:c<w.heap.size) (hi:i<L.length) (hj:j<3) (hy:∀ k,k<3->rcell y k=if k=j then v else rcell (rat L i) k) :
  Da B w (wx.setCell ⟨g,i*3+j,none⟩ v) c ad len cap (.slice (some ⟨g,0,none⟩) m cp) (L.set i y):=by
 have hg:w.heap.size<=g:=by obtain⟨cur,q,_⟩:=own_row h.own;exact q
 have k:Only g wx (wx.setCell ⟨g,i*3+j,none⟩ v):=(Only.refl g wx).setCell _ v
 exact⟨h.own.set hi hj hy,h.cur.kept (k.below (B:=c+1) (by omega) (by have:=h.cur.lt;omega)),⟨k.os.trans h.only.os,k.tape.trans h.only.tape,k.output.trans h.only.output,Nat.le_trans h.only.size k.size,fun q hq hne=>(k.block q (Nat.lt_of_lt_of_le hq h.only.size) (by omega)).trans (h.only.block q hq hne)⟩⟩
theorem l12Draw_any (B c:Nat) (ad:Option Addr) (len cap:Nat) (w:World) (hC:Cur B w c ad len cap) :
  Calls Tryz.prog 53 #[.pointer (some ⟨c,0,none⟩)] w fun e w'=>∃ v L,e=.returned v∧L.length<=4∧Own w' w.heap.size v L∧Cur B w' c ad len cap∧Only c w w':=by
 obtain⟨i0,hi0,hz0,hz1,hz2⟩:=info_parts infoRw
 have hlt:=hC.lt
 have HD0:Hid (Da B w (w.alloc (.cells #[] 62)) c ad len cap (.slice (some ⟨w.heap.size,0,none⟩) 0 0) []):=hidIt ⟨Own.new w,hC.kept ((Below.refl (c+1) w).alloc (by omega) _),(Only.refl c w).alloc _⟩
 clear hC
 go_enter Tryz.func53,Tryz.ntmps53
 go_wp2_with (fail)
 go_loopw [3,4] (fun s3 s4 wx=>∃ (i:Nat) (L:List Rw),s4=.int .i64 i∧i<=4∧Hid (L.length<=i)∧Hid (Da B w wx c ad len cap s3 L)∧Hid (s3≠.slice none 0 0)) (fun _ s4 _=>(4 - intOf s4).toNat)
 case atStart=>exact⟨0,[],rfl,by omega,hidIt (by simp),HD0,hidIt (by simp)⟩
 case round =>
  obtain⟨i,L,rfl,hi,HL,HD,HNN⟩:=hrel
  clear HD0
  obtain⟨g,cp,ez,hmc,hcm,hgb,hgl⟩:=HD.out.own.some_form HNN.out
  subst ez
  by_cases hin:i<4
  ·
   have hin':(i:Int)<4:=by omega
   have hi0':(0:Int)<=(i:Int):=by omega
   generalize hll:L.length=ll at *
   have HLL:=hidIt hll
   clear hll
   go_wp2_with (fail)
   refine (l1Once_any B c ad len cap 2 _ (by decide) HD.out.cur).mono ?_
   rintro e W1 ⟨b1,rfl,hC1,hO1⟩
   replace HD:=hidIt (HD.out.call hC1 hO1 hlt)
   clear hC1 hO1
   cases b1 with
   | false =>
    go_wp2_with (fail)
    exact⟨⟨i+1,L,by simp,by omega,hidIt (by have:=HL.out;have:=HLL.out;omega),HD,by first | exact HNN | exact hidIt (by simp)⟩,by simp[intOf];omega⟩
   | true =>
    go_wp2_with (fail)
    refine (l1Below_any B c ad len cap 4 _ (by decide) HD.out.cur).mono ?_
    rintro e W2 ⟨t,t0,t1,rfl,hC1,hO1⟩
    replace HD:=hidIt (HD.out.call hC1 hO1 hlt)
    clear hC1 hO1
    go_wp2_with (fail)
    refine (l1Below_any B c ad len cap 3 _ (by decide) HD.out.cur).mono ?_
    rintro e W3 ⟨s,s0,s1,rfl,hC1,hO1⟩
    replace HD:=hidIt (HD.out.call hC1 hO1 hlt)
    clear hC1 hO1
    have HDa:=hidIt (HD.out.low ((Below.refl W3.heap.size W3).alloc (Nat.le_refl _) (.cells #[.int .i64 (2*(i:Int)),.int .i64 t,.int .i64 s] 62)))
    have HOw:Hid (World.ownsRow (W3.alloc (.cells #[.int .i64 (2*(i:Int)),.int .i64 t,.int .i64 s] 62)) w.heap.size 62 3 (.slice (some ⟨g,0,none⟩) ll cp) ll (rcells L)):=hidIt (by have:=HDa.out.own;unfold Own at this;rw[HLL.out] at this;exact this)
    go_wp2_with (first | (at_builtin;refine wpList_append_own _ rfl _ _ 30 rfl w.heap.size 62 i0 (.agg #[.int .i64 0,.int .i64 0,.int .i64 0]) 3 24 Tryz.underlying30 hi0 hz0 hz1 hz2 rfl (by decide) _ _ _ rfl HOw.out ⟨W3.heap.size,0,none⟩ 1 1 [.int .i64 (2*(i:Int)),.int .i64 t,.int .i64 s] rfl rfl (fresh W3 (2*(i:Int),t,s) 62) (rcells_one [(2*(i:Int),t,s)]) ?ca1 ?ca2 ?ca3 ?_))
    case ca1=>unfold maxLen;have:=HL.out;have:=HLL.out;omega
    case ca2=>have:=HL.out;have:=HLL.out;omega
    case ca3=>exact HDa.out.only.size
    intro v' w9 hown hgrow hnil
    have HD9:=hidIt (HDa.out.grown hlt (M:=L++[(2*(i:Int),t,s)]) (Own.more (L:=L) (M:=[(2*(i:Int),t,s)]) (by rw[HLL.out];exact hown)) hgrow)
    have HN9:Hid (v'≠.slice none 0 0):=hidIt (by first | exact hnil | exact fun e=>by have:=(hnil.1 e).2;omega)
    have HL9:Hid ((L++[((2*(i:Int),t,s):Rw)]).length<=i+1):=hidIt (by have:=HL.out;have:=HLL.out;simp;omega)
    clear hown hgrow hnil
    go_wp2_with (fail)
    exact⟨⟨i+1,_,by simp,by omega,HL9,HD9,HN9⟩,by simp[intOf];omega⟩
  ·
   have hin':¬ (i:Int)<4:=by omega
   have HL4:Hid (L.length<=4):=hidIt (by have:=HL.out;omega)
   clear HL HNN
   generalize hll:L.length=ll at *
   have HLL:=hidIt hll
   clear hll
   have hl4:ll<=4:=HL4.out
   go_wp2_with (fail)
   refine (l1Once_any B c ad len cap 14 _ (by decide) HD.out.cur).mono ?_
   rintro e W1 ⟨b1,rfl,hC1,hO1⟩
   replace HD:=hidIt (HD.out.call hC1 hO1 hlt)
   clear hC1 hO1
   cases b1 with
   | false =>
    go_wp2_with (fail)
    go_ret
    first | exact⟨_,L,rfl,by rw[HLL.out];exact hl4,HD.out.own,HD.out.cur,HD.out.only⟩ | exact⟨_,rfl,L,by rw[HLL.out];exact hl4,HD.out.own,HD.out.cur,HD.out.only⟩
   | true =>
    rcases Nat.eq_zero_or_pos ll with hz | hp
    ·
     subst hz
     go_wp2_with (fail)
     go_ret
     first | exact⟨_,L,rfl,by rw[HLL.out];exact hl4,HD.out.own,HD.out.cur,HD.out.only⟩ | exact⟨_,rfl,L,by rw[HLL.out];exact hl4,HD.out.own,HD.out.cur,HD.out.only⟩
    ·
     have hp':(0:Int)<(ll:Int):=by omega
     go_wp2_with (fail)
     refine (l1Below_any B c ad len cap (ll:Int) _ hp' HD.out.cur).mono ?_
     rintro e W2 ⟨x,x0,x1,rfl,hC1,hO1⟩
     replace HD:=hidIt (HD.out.call hC1 hO1 hlt)
     clear hC1 hO1
     obtain⟨n,rfl⟩:=Int.eq_ofNat_of_zero_le x0
     have hnL:n<L.length:=by rw[HLL.out];omega
     clear x0
     go_wp2_with (fail)
     refine (l1Below_any B c ad len cap 3 _ (by decide) HD.out.cur).mono ?_
     rintro e W3 ⟨y,y0,y1,rfl,hC1,hO1⟩
     replace HD:=hidIt (HD.out.call hC1 hO1 hlt)
     clear hC1 hO1
     have hy:y=0∨y=1∨y=2:=by omega
     clear y0 y1
     rcases hy with rfl | rfl | rfl
     ·
      go_wp2_with (fail)
      refine (from_10 B c ad len cap _ HD.out.cur).mono ?_
      rintro e W4 ⟨z,rfl,hC1,hO1⟩
      replace HD:=hidIt (HD.out.call hC1 hO1 hlt)
      clear hC1 hO1
      have q0:=HD.out.own.at hnL (j:=0) (by omega)
      have fz:=HD.out.own.free (n*3+0)
      have HDs:=hidIt (HD.out.set (i:=n) (j:=0) (v:=.int .i64 z) (y:=(z,(rat L n).2.1,(rat L n).2.2)) hlt hnL (by omega) (fun k hk=>by
       match k,hk with
       | 0,_=>rfl
       | 1,_=>rfl
       | 2,_=>rfl))
      simp only[rcell,Nat.add_zero] at q0 fz HDs
      go_wp2_with (fail)
      go_ret
      first | exact⟨_,L.set n (z,(rat L n).2.1,(rat L n).2.2),rfl,by rw[List.length_set,HLL.out];exact hl4,HDs.out.own,HDs.out.cur,HDs.out.only⟩ | exact⟨_,rfl,L.set n (z,(rat L n).2.1,(rat L n).2.2),by rw[List.length_set,HLL.out];exact hl4,HDs.out.own,HDs.out.cur,HDs.out.only⟩
     ·
      go_wp2_with (fail)
      have HDa:=hidIt (HD.out.low ((Below.refl W3.heap.size W3).alloc (Nat.le_refl _) (.cells #[.int .i64 (-1),.int .i64 1000000,.int .i64 1000001] 2)))
      have LB:=hidIt (Bo.Box.new W3 #[.int .i64 (-1),.int .i64 1000000,.int .i64 1000001] 2)
      have hcl:c<W3.heap.size:=HD.out.cur.lt
      refine (l1Below_any B c ad len cap 3 _ (by decide) HDa.out.cur).mono ?_
      rintro e W4 ⟨u,u0,u1,rfl,hC1,hO1⟩
      replace HD:=hidIt (HDa.out.call hC1 hO1 hlt)
      have LB4:Hid (∀ i,W4.cell? ⟨W3.heap.size,i,none⟩=(#[.int .i64 (-1),.int .i64 1000000,.int .i64 1000001]:Array Value)[i]?):=hidIt (fun i=>by rw[hO1.cell (p:=⟨W3.heap.size,i,none⟩) LB.out.lt (by show W3.heap.size≠c;omega)];exact LB.out.at' i)
      clear hC1 hO1 HDa LB
      obtain⟨un,rfl⟩:=Int.eq_ofNat_of_zero_le u0
      have hu3:(un:Int)<3:=by omega
      obtain⟨z,hz⟩:∃ z:Int,(#[.int .i64 (-1),.int .i64 1000000,.int .i64 1000001]:Array Value)[un]?=some (.int .i64 z):=by
       have hq:un=0∨un=1∨un=2:=by omega
       rcases hq with rfl | rfl | rfl
       ·
        exact⟨-1,rfl⟩
       ·
        exact⟨1000000,rfl⟩
       ·
        exact⟨1000001,rfl⟩
      have ql:=(LB4.out un).trans hz
      clear hz u0
      have q1:=HD.out.own.at hnL (j:=1) (by omega)
      have fz:=HD.out.own.free (n*3+1)
      have HDs:=hidIt (HD.out.set (i:=n) (j:=1) (v:=.int .i64 z) (y:=((rat L n).1,z,(rat L n).2.2)) hlt hnL (by omega) (fun k hk=>by
       match k,hk with
       | 0,_=>rfl
       | 1,_=>rfl
       | 2,_=>rfl))
      simp only[rcell] at q1 fz HDs
      go_wp2_with (fail)
      go_ret
      first | exact⟨_,L.set n ((rat L n).1,z,(rat L n).2.2),rfl,by rw[List.length_set,HLL.out];exact hl4,HDs.out.own,HDs.out.cur,HDs.out.only⟩ | exact⟨_,rfl,L.set n ((rat L n).1,z,(rat L n).2.2),by rw[List.length_set,HLL.out];exact hl4,HDs.out.own,HDs.out.cur,HDs.out.only⟩
     ·
      go_wp2_with (fail)
      refine (from_5 B c ad len cap _ HD.out.cur).mono ?_
      rintro e W4 ⟨z,rfl,hC1,hO1⟩
      replace HD:=hidIt (HD.out.call hC1 hO1 hlt)
      clear hC1 hO1
      have q2:=HD.out.own.at hnL (j:=2) (by omega)
      have fz:=HD.out.own.free (n*3+2)
      have HDs:=hidIt (HD.out.set (i:=n) (j:=2) (v:=.int .i64 z) (y:=((rat L n).1,(rat L n).2.1,z)) hlt hnL (by omega) (fun k hk=>by
       match k,hk with
       | 0,_=>rfl
       | 1,_=>rfl
       | 2,_=>rfl))
      simp only[rcell] at q2 fz HDs
      go_wp2_with (fail)
      go_ret
      first | exact⟨_,L.set n ((rat L n).1,(rat L n).2.1,z),rfl,by rw[List.length_set,HLL.out];exact hl4,HDs.out.own,HDs.out.cur,HDs.out.only⟩ | exact⟨_,rfl,L.set n ((rat L n).1,(rat L n).2.1,z),by rw[List.length_set,HLL.out];exact hl4,HDs.out.own,HDs.out.cur,HDs.out.only⟩
end Go.Proofs.YtkeapmmochpcfaaGreat.Mm
namespace Go.Proofs.YtkeapmmochpcfaaGreat.Mk
theorem look_append (X Y:List En) (k:Int):look (X++Y) k=(look X k).or (look Y k):=by
 unfold look
 rw[List.find?_append]
theorem join_more {A B J J':List En} {b:En} (h:IsJoin A B J) (hb:look B b.key=none) (r:Ris J') (e:∀ x,look J' x=if x=b.key then pickE (look J x) (some b) else look J x):IsJoin A (B++[b]) J':=by
 refine⟨r,fun x=>?_⟩
 rw[e x,h.at',look_append,look_cons,look_nil]
 by_cases hx:x=b.key
 ·
  subst hx
  rw[if_pos rfl,if_pos rfl,hb,pick_none_right]
  rfl
 ·
  rw[if_neg hx,if_neg (fun e=>hx e.symm)]
  cases look B x<;>rfl
theorem set_ris {X Y:List En} {c b:En} (h:Ris (X++c::Y)) (hk:c.key=b.key):Ris (X++b::Y):=by
 unfold Ris at h ⊢
 rw[List.pairwise_append,List.pairwise_cons] at h ⊢
 refine⟨h.1,⟨fun y hy=>hk ▸ h.2.1.1 y hy,h.2.1.2⟩,fun x hx y hy=>?_⟩
 rcases List.mem_cons.1 hy with rfl | hy
 ·
  rw[<- hk];exact h.2.2 x hx c (List.mem_cons_self ..)
 ·
  exact h.2.2 x hx y (List.mem_cons_of_mem _ hy)
theorem mid_look {X Y:List En} {c:En} (h:Ris (X++c::Y)) (x:Int):look (X++c::Y) x=if x=c.key then some c else look (X++Y) x:=by
 unfold Ris at h
 rw[List.pairwise_append,List.pairwise_cons] at h
 rw[look_append,look_append,look_cons]
 by_cases hx:x=c.key
 ·
  subst hx
  rw[if_pos rfl,if_pos rfl,look_none_of (fun e he e'=>by have:=h.2.2 e he c (List.mem_cons_self ..);rw[e'] at this;exact Int.lt_irrefl _ this)]
  rfl
 ·
  rw[if_neg hx,if_neg (fun e=>hx e.symm)]
theorem mid_none {X Y:List En} {c:En} (h:Ris (X++c::Y)):look (X++Y) c.key=none:=by
 unfold Ris at h
 rw[List.pairwise_append,List.pairwise_cons] at h
 refine look_none_of (fun e he e'=>?_)
 rcases List.mem_append.1 he with he | he
 ·
  have:=h.2.2 e he c (List.mem_cons_self ..);rw[e'] at this;exact Int.lt_irrefl _ this
 ·
  have:=h.2.1.1 e he;rw[e'] at this;exact Int.lt_irrefl _ this
theorem join_set {A B X Y:List En} {c b:En} (h:IsJoin A B (X++c::Y)) (hb:look B b.key=none) (hk:c.key=b.key) (hn:newB b c=true):IsJoin A (B++[b]) (X++b::Y):=by
 have r:=set_ris h.ris hk
 refine join_more h hb r (fun x=>?_)
 rw[mid_look r,mid_look h.ris]
 by_cases hx:x=b.key
 ·
  rw[if_pos hx,if_pos hx,if_pos (hx.trans hk.symm)]
  show _=some (if newB b c=true then b else c)
  rw[if_pos hn]
 ·
  rw[if_neg hx,if_neg hx,if_neg (fun e=>hx (e.trans hk))]
theorem join_keep {A B X Y:List En} {c b:En} (h:IsJoin A B (X++c::Y)) (hb:look B b.key=none) (hk:c.key=b.key) (hn:newB b c=false):IsJoin A (B++[b]) (X++c::Y):=by
 refine join_more h hb h.ris (fun x=>?_)
 rw[mid_look h.ris]
 by_cases hx:x=b.key
 ·
  rw[if_pos (hx.trans hk.symm),if_pos hx]
  show _=some (if newB b c=true then b else c)
  rw[hn,if_neg (by decide)]
 ·
  rw[if_neg (fun e=>hx (e.trans hk)),if_neg hx]
theorem join_ins {A B X Y:List En} {b:En} (h:IsJoin A B (X++Y)) (hb:look B b.key=none) (hX:∀ e∈X,e.key<b.key) (hY:∀ e∈Y,b.key<e.key):IsJoin A (B++[b]) (X++b::Y):=by
 have r:Ris (X++b::Y):=by
  have:=h.ris
  unfold Ris at this ⊢
  rw[List.pairwise_append] at this ⊢
  refine⟨this.1,List.pairwise_cons.2 ⟨hY,this.2.1⟩,fun x hx y hy=>?_⟩
  rcases List.mem_cons.1 hy with rfl | hy
  ·
   exact hX x hx
  ·
   exact this.2.2 x hx y hy
 refine join_more h hb r (fun x=>?_)
 rw[mid_look r]
 by_cases hx:x=b.key
 ·
  subst hx
  rw[if_pos rfl,if_pos rfl,mid_none r]
  rfl
 ·
  rw[if_neg hx,if_neg hx]
theorem take_none {B:List En} (h:Ris B) {i:Nat} (hi:i<B.length):look (B.take i) (B[i]).key=none:=by
 refine look_none_of (fun e he e'=>?_)
 obtain⟨j,hj,rfl⟩:=List.mem_iff_getElem.1 he
 rw[List.length_take] at hj
 unfold Ris at h
 rw[List.pairwise_iff_getElem] at h
 have:=h j i (by omega) hi (by omega)
 rw[List.getElem_take] at e'
 rw[e'] at this
 exact Int.lt_irrefl _ this
theorem join_start {A:List En} (h:Ris A):IsJoin A [] A:=⟨h,fun k=>by rw[look_nil,pick_none_right]⟩
end Go.Proofs.YtkeapmmochpcfaaGreat.Mk
namespace Go.Proofs.YtkeapmmochpcfaaGreat.Mm
open Mk (okE newB okBk look Ris IsJoin)
theorem toB_length (L:List Rw):(toB L).length=L.length:=List.length_map ..
theorem toB_at {L:List Rw} {i:Nat} (h:i<L.length):(toB L)[i]'(by rw[toB_length];exact h)=toE (rat L i):=by rw[rat_at h];exact List.getElem_map ..
theorem split_at {M:List Rw} {k:Nat} (h:k<M.length):M=M.take k++rat M k::M.drop (k+1):=by
 rw[rat_at h,List.getElem_cons_drop,List.take_append_drop]
theorem join_step {A B M:List Rw} {i k:Nat} (hB:Ris (toB B)) (hi:i<B.length) (h:IsJoin (toB A) ((toB B).take i) (toB M)) (hk:k<=M.length) (h1:∀ j,j<k->kat M j<kat B i) (h2:k<M.length->¬ kat M k<kat B i) :
  (∀ hk':k<M.length,kat M k=kat B i->newB (toE (rat B i)) (toE (rat M k))=true->IsJoin (toB A) ((toB B).take (i+1)) (toB (M.set k (rat B i)))) ∧
  (∀ hk':k<M.length,kat M k=kat B i->newB (toE (rat B i)) (toE (rat M k))=false->IsJoin (toB A) ((toB B).take (i+1)) (toB M)) ∧
  ((k<M.length->kat M k≠kat B i)->IsJoin (toB A) ((toB B).take (i+1)) (toB (M.take k++rat B i::M.drop k))):=by
 have hi':i<(toB B).length:=by rw[toB_length];exact hi
 have hn:=Mk.take_none hB hi'
 have et:(toB B).take (i+1)=(toB B).take i++[toE (rat B i)]:=by rw[List.take_add_one,List.getElem?_eq_getElem hi',toB_at hi];rfl
 rw[toB_at hi] at hn
 rw[et]
 refine⟨fun hk' e hnew=>?_,fun hk' e hnew=>?_,fun e=>?_⟩
 ·
  rw[split_at hk'] at h
  simp only[toB,List.map_append,List.map_cons] at h ⊢
  rw[List.set_eq_take_append_cons_drop,if_pos hk']
  simp only[List.map_append,List.map_cons]
  exact Mk.join_set h hn e hnew
 ·
  have h':=h
  rw[split_at hk'] at h'
  simp only[toB,List.map_append,List.map_cons] at h'
  have:=Mk.join_keep h' hn e hnew
  rw[split_at hk']
  simp only[toB,List.map_append,List.map_cons]
  exact this
 ·
  simp only[toB,List.map_append,List.map_cons]
  have hj:IsJoin (toB A) ((toB B).take i) ((M.take k).map toE++(M.drop k).map toE):=by rw[<- List.map_append,List.take_append_drop];exact h
  refine Mk.join_ins hj hn (fun x hx=>?_) (fun x hx=>?_)
  ·
   obtain⟨y,hy,rfl⟩:=List.mem_map.1 hx
   obtain⟨j,hj,rfl⟩:=List.mem_iff_getElem.1 hy
   rw[List.length_take] at hj
   have:=h1 j (by omega)
   unfold kat at this
   rw[rat_at (by omega)] at this
   rw[List.getElem_take]
   exact this
  ·
   obtain⟨y,hy,rfl⟩:=List.mem_map.1 hx
   obtain⟨j,hj',rfl⟩:=List.mem_iff_getElem.1 hy
   rw[List.length_drop] at hj'
   have hk':k<M.length:=by omega
   have hlt:kat B i<kat M k:=by
    rcases Classical.em (kat B i<kat M k) with h | h
    ·
     exact h
    ·
     exact absurd (Int.le_antisymm (Int.not_lt.1 h) (Int.not_lt.1 (h2 hk'))) (e hk')
   rw[List.getElem_drop]
   rcases Nat.eq_zero_or_pos j with hz | hp
   ·
    subst hz
    unfold kat at hlt
    rw[rat_at hk'] at hlt
    exact hlt
   ·
    have r:=h.ris
    unfold Ris at r
    rw[List.pairwise_iff_getElem] at r
    have:=r k (k+j) (by rw[toB_length];exact hk') (by rw[toB_length];omega) (by omega)
    rw[List.getElem_map,List.getElem_map] at this
    unfold kat at hlt
    rw[rat_at hk'] at hlt
    exact Int.lt_trans hlt this
end Go.Proofs.YtkeapmmochpcfaaGreat.Mm
