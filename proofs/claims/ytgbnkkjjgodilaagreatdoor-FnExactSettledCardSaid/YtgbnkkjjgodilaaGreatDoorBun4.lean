/- Books in plain words: Entries, which is Newer, what is found under a Key, what two books come to. No program in sight. -/
import Derived.WalkKit
import Derived.Test.YtgbnkkjjgodilaaGreatDoorMem
import Derived.Test.YtgbnkkjjgodilaaGreatDoorProg
import Derived.Laws.OwnMore
import Derived.Deep.OwnRows
import Derived.Deep.Strs
import Derived.OwnWalk
import Derived.OpenShut
import Derived.Laws.AppendOwn
import Derived.Lib.SmallJoins
import Derived.Shelf.Spec.SlicesInsert
import Derived.Lib.AppendZerosOnto
import Derived.Laws.CopyRow
import Derived.Deep.RegionLaw
import Derived.Test.YtgbnkkjjgodilaaGreatDoorBoxM
import Derived.Test.YtgbnkkjjgodilaaGreatDoorQuiet
set_option maxRecDepth 100000
set_option maxHeartbeats 32000000
set_option linter.unusedVariables false
namespace Go.Proofs.YtgbnkkjjgodilaaGreatDoor.Bk
abbrev Bytes:=List UInt8
structure En where
 key : Bytes
 value : Bytes
 time : Int
 node : Int
 gone : Bool
 deriving DecidableEq
def okE (e : En) : Bool:=decide (1 ≤ e.key.length) && decide (e.key.length ≤ 40) && decide (e.value.length ≤ 40) && (!e.gone || decide (e.value.length = 0)) && decide (1 ≤ e.time) && decide (e.time ≤ 1000000) && decide (0 ≤ e.node) && decide (e.node ≤ 7)
def newB (a b : En) : Bool :=
 if a.time ≠ b.time then decide (b.time < a.time)
 else if a.node ≠ b.node then decide (b.node < a.node)
 else if a.gone ≠ b.gone then a.gone
 else decide (b.value < a.value)
theorem newB_1 {a b : En} (h : a.time ≠ b.time) : newB a b = decide (b.time < a.time):=by unfold newB; rw [if_pos h]
theorem newB_2 {a b : En} (h : a.time = b.time) (k : a.node ≠ b.node) : newB a b = decide (b.node < a.node):=by unfold newB; rw [if_neg (by simp [h]),if_pos k]
theorem newB_3 {a b : En} (h : a.time = b.time) (k : a.node = b.node) (g : a.gone ≠ b.gone) : newB a b = a.gone:=by unfold newB; rw [if_neg (by simp [h]),if_neg (by simp [k]),if_pos g]
theorem newB_4 {a b : En} (h : a.time = b.time) (k : a.node = b.node) (g : a.gone = b.gone) : newB a b = decide (b.value < a.value):=by unfold newB; rw [if_neg (by simp [h]),if_neg (by simp [k]),if_neg (by simp [g])]
theorem lt_total {a b : Bytes} (h : ¬ a < b) (k : ¬ b < a) : a = b:=List.le_antisymm k h
theorem new_irrefl (a : En) : newB a a = false:=by
 unfold newB
 simp [List.lt_irrefl]
theorem new_asymm {a b : En} (h : newB a b = true) : newB b a = false:=by
 unfold newB at h ⊢
 by_cases h1 : a.time = b.time
 ·
  rw [if_neg (by simp [h1])] at h
  rw [if_neg (by simp [h1])]
  by_cases h2 : a.node = b.node
  ·
   rw [if_neg (by simp [h2])] at h
   rw [if_neg (by simp [h2])]
   by_cases h3 : a.gone = b.gone
   ·
    rw [if_neg (by simp [h3])] at h
    rw [if_neg (by simp [h3])]
    exact decide_eq_false (fun k=>List.lt_irrefl _ (List.lt_trans k (of_decide_eq_true h)))
   ·
    rw [if_pos h3] at h
    rw [if_pos (fun e=>h3 e.symm)]
    cases hb : b.gone
    ·
     rfl
    ·
     rw [h,hb] at h3; exact absurd rfl h3
  ·
   rw [if_pos h2] at h
   rw [if_pos (fun e=>h2 e.symm)]
   have:=of_decide_eq_true h
   exact decide_eq_false (by omega)
 ·
  rw [if_pos h1] at h
  rw [if_pos (fun e=>h1 e.symm)]
  have:=of_decide_eq_true h
  exact decide_eq_false (by omega)
theorem new_total {a b : En} (h : newB a b = false) (k : newB b a = false) : a.time = b.time ∧ a.node = b.node ∧ a.gone = b.gone ∧ a.value = b.value:=by
 unfold newB at h k
 by_cases h1 : a.time = b.time
 ·
  rw [if_neg (by simp [h1])] at h
  rw [if_neg (by simp [h1])] at k
  by_cases h2 : a.node = b.node
  ·
   rw [if_neg (by simp [h2])] at h
   rw [if_neg (by simp [h2])] at k
   by_cases h3 : a.gone = b.gone
   ·
    rw [if_neg (by simp [h3])] at h
    rw [if_neg (by simp [h3])] at k
    exact ⟨h1,h2,h3,lt_total (of_decide_eq_false k) (of_decide_eq_false h)⟩
   ·
    rw [if_pos h3] at h
    rw [if_pos (fun e=>h3 e.symm)] at k
    exact absurd (h.trans k.symm) h3
  ·
   rw [if_pos h2] at h
   rw [if_pos (fun e=>h2 e.symm)] at k
   have h':=of_decide_eq_false h
   have k':=of_decide_eq_false k
   exact absurd (by omega) h2
 ·
  rw [if_pos h1] at h
  rw [if_pos (fun e=>h1 e.symm)] at k
  have h':=of_decide_eq_false h
  have k':=of_decide_eq_false k
  exact absurd (by omega) h1
theorem new_trans {a b c : En} (h : newB a b = true) (k : newB b c = true) : newB a c = true:=by
 unfold newB at h k ⊢
 by_cases t1 : a.time = b.time
 ·
  rw [if_neg (by simp [t1])] at h
  by_cases t2 : b.time = c.time
  ·
   rw [if_neg (by simp [t2])] at k
   rw [if_neg (by simp [t1,t2])]
   by_cases n1 : a.node = b.node
   ·
    rw [if_neg (by simp [n1])] at h
    by_cases n2 : b.node = c.node
    ·
     rw [if_neg (by simp [n2])] at k
     rw [if_neg (by simp [n1,n2])]
     by_cases g1 : a.gone = b.gone
     ·
      rw [if_neg (by simp [g1])] at h
      by_cases g2 : b.gone = c.gone
      ·
       rw [if_neg (by simp [g2])] at k
       rw [if_neg (by simp [g1,g2])]
       exact decide_eq_true (List.lt_trans (of_decide_eq_true k) (of_decide_eq_true h))
      ·
       rw [if_pos g2] at k
       rw [if_pos (by rw [g1]; exact g2),g1]
       exact k
     ·
      rw [if_pos g1] at h
      by_cases g2 : b.gone = c.gone
      ·
       rw [if_pos (by rw [← g2]; exact g1)]
       exact h
      ·
       rw [if_pos g2] at k
       exact absurd (h.trans k.symm) g1
    ·
     rw [if_pos n2] at k
     rw [if_pos (by rw [n1]; exact n2),n1]
     exact k
   ·
    rw [if_pos n1] at h
    have h':=of_decide_eq_true h
    by_cases n2 : b.node = c.node
    ·
     rw [if_pos (by rw [← n2]; exact n1),← n2]
     exact h
    ·
     rw [if_pos n2] at k
     have k':=of_decide_eq_true k
     rw [if_pos (by omega)]
     exact decide_eq_true (by omega)
  ·
   rw [if_pos t2] at k
   rw [if_pos (by rw [t1]; exact t2),t1]
   exact k
 ·
  rw [if_pos t1] at h
  have h':=of_decide_eq_true h
  by_cases t2 : b.time = c.time
  ·
   rw [if_pos (by rw [← t2]; exact t1),← t2]
   exact h
  ·
   rw [if_pos t2] at k
   have k':=of_decide_eq_true k
   rw [if_pos (by omega)]
   exact decide_eq_true (by omega)
theorem en_ext {a b : En} (hk : a.key = b.key) (h : newB a b = false) (k : newB b a = false) : a = b:=by
 obtain ⟨h1,h2,h3,h4⟩:=new_total h k
 cases a
 cases b
 simp_all
def Ris (L : List En) : Prop:=L.Pairwise fun a b=>a.key < b.key
def look (L : List En) (k : Bytes) : Option En:=L.find? fun e=>decide (e.key = k)
theorem look_nil (k : Bytes) : look [] k = none:=rfl
theorem look_cons (a : En) (L : List En) (k : Bytes) : look (a :: L) k = if a.key = k then some a else look L k:=by
 unfold look
 rw [List.find?_cons]
 by_cases h : a.key = k
 ·
  rw [if_pos h]; simp [h]
 ·
  rw [if_neg h]; simp [h]
theorem look_some {L : List En} {k : Bytes} {e : En} (h : look L k = some e) : e ∈ L ∧ e.key = k:=by
 unfold look at h
 exact ⟨List.mem_of_find?_eq_some h,by simpa using List.find?_some h⟩
theorem look_none_of {L : List En} {k : Bytes} (h : ∀ e ∈ L,e.key ≠ k) : look L k = none:=by
 unfold look
 exact List.find?_eq_none.2 (fun e he=>by simpa using h e he)
theorem ris_cons {a : En} {L : List En} : Ris (a :: L) ↔ (∀ b ∈ L,a.key < b.key) ∧ Ris L:=List.pairwise_cons
theorem look_mem {L : List En} (h : Ris L) {e : En} (he : e ∈ L) : look L e.key = some e:=by
 induction L with
 | nil=>cases he
 | cons a L ih =>
  obtain ⟨h1,h2⟩:=ris_cons.1 h
  rw [look_cons]
  rcases List.mem_cons.1 he with rfl | he
  ·
   rw [if_pos rfl]
  ·
   rw [if_neg (fun e'=>List.lt_irrefl _ (by have:=h1 e he; rw [e'] at this; exact this))]
   exact ih h2 he
theorem ris_ext {L M : List En} (hL : Ris L) (hM : Ris M) (h : ∀ k,look L k = look M k) : L = M:=by
 induction L generalizing M with
 | nil =>
  cases M with
  | nil=>rfl
  | cons b M=>have:=h b.key; rw [look_nil,look_cons,if_pos rfl] at this; cases this
 | cons a L ih =>
  cases M with
  | nil=>have:=h a.key; rw [look_nil,look_cons,if_pos rfl] at this; cases this
  | cons b M =>
   obtain ⟨a1,a2⟩:=ris_cons.1 hL
   obtain ⟨b1,b2⟩:=ris_cons.1 hM
   have ea:=h a.key
   have eb:=h b.key
   rw [look_cons,if_pos rfl] at ea
   rw [look_cons b,if_pos rfl] at eb
   have hab : a = b:=by
    obtain ⟨ma,_⟩:=look_some ea.symm
    obtain ⟨mb,_⟩:=look_some eb
    rcases List.mem_cons.1 ma with e | ma
    ·
     exact e
    ·
     rcases List.mem_cons.1 mb with e | mb
     ·
      exact e.symm
     ·
      exact absurd (List.lt_trans (a1 b mb) (b1 a ma)) (List.lt_irrefl _)
   subst hab
   rw [ih a2 b2 (fun k=>?_)]
   have hk:=h k
   rw [look_cons,look_cons] at hk
   by_cases e : a.key = k
   ·
    rw [look_none_of (fun x hx=>by intro e'; have:=a1 x hx; rw [e',e] at this; exact List.lt_irrefl _ this),look_none_of (fun x hx=>by intro e'; have:=b1 x hx; rw [e',e] at this; exact List.lt_irrefl _ this)]
   ·
    rw [if_neg e,if_neg e] at hk
    exact hk
def pickE : Option En → Option En → Option En
 | none,y=>y
 | some x,none=>some x
 | some x,some y=>some (if newB y x then y else x)
structure IsJoin (A B J : List En) : Prop where
 ris : Ris J
 at' : ∀ k,look J k = pickE (look A k) (look B k)
theorem IsJoin.unique {A B J K : List En} (h : IsJoin A B J) (k : IsJoin A B K) : J = K:=ris_ext h.ris k.ris (fun x=>(h.at' x).trans (k.at' x).symm)
def mergeE : List En → List En → List En
 | [],B=>B
 | a :: A,[]=>a :: A
 | a :: A,b :: B=>if a.key < b.key then a :: mergeE A (b :: B) else if b.key < a.key then b :: mergeE (a :: A) B else (if newB b a then b else a) :: mergeE A B
 termination_by A B=>A.length + B.length
theorem mergeE_nil (B : List En) : mergeE [] B = B:=by unfold mergeE; rfl
theorem mergeE_right (A : List En) : mergeE A [] = A:=by
 cases A with
 | nil=>exact mergeE_nil []
 | cons a A=>unfold mergeE; rfl
theorem mergeE_cons (a b : En) (A B : List En) : mergeE (a :: A) (b :: B) = if a.key < b.key then a :: mergeE A (b :: B) else if b.key < a.key then b :: mergeE (a :: A) B else (if newB b a then b else a) :: mergeE A B:=by
 conv=>lhs; unfold mergeE
theorem pick_none_right (x : Option En) : pickE x none = x:=by cases x <;> rfl
theorem merge_mem : ∀ (A B : List En) {e : En},e ∈ mergeE A B → e ∈ A ∨ e ∈ B
 | [],B,e,h=>by rw [mergeE_nil] at h; exact .inr h
 | a :: A,[],e,h=>by rw [mergeE_right] at h; exact .inl h
 | a :: A,b :: B,e,h=>by
  rw [mergeE_cons] at h
  by_cases h1 : a.key < b.key
  ·
   rw [if_pos h1] at h
   rcases List.mem_cons.1 h with rfl | h
   ·
    exact .inl (List.mem_cons_self ..)
   ·
    rcases merge_mem A (b :: B) h with h | h
    ·
     exact .inl (List.mem_cons_of_mem _ h)
    ·
     exact .inr h
  ·
   rw [if_neg h1] at h
   by_cases h2 : b.key < a.key
   ·
    rw [if_pos h2] at h
    rcases List.mem_cons.1 h with rfl | h
    ·
     exact .inr (List.mem_cons_self ..)
    ·
     rcases merge_mem (a :: A) B h with h | h
     ·
      exact .inl h
     ·
      exact .inr (List.mem_cons_of_mem _ h)
   ·
    rw [if_neg h2] at h
    rcases List.mem_cons.1 h with h | h
    ·
     cases hn : newB b a
     ·
      rw [hn] at h; exact .inl (by rw [h]; exact List.mem_cons_self ..)
     ·
      rw [hn] at h; exact .inr (by rw [h]; exact List.mem_cons_self ..)
    ·
     rcases merge_mem A B h with h | h
     ·
      exact .inl (List.mem_cons_of_mem _ h)
     ·
      exact .inr (List.mem_cons_of_mem _ h)
 termination_by A B=>A.length + B.length
theorem merge_join : ∀ (A B : List En),Ris A → Ris B → IsJoin A B (mergeE A B)
 | [],B,_,hB=>by rw [mergeE_nil]; exact ⟨hB,fun k=>rfl⟩
 | a :: A,[],hA,_=>by rw [mergeE_right]; exact ⟨hA,fun k=>by rw [look_nil,pick_none_right]⟩
 | a :: A,b :: B,hA,hB=>by
  obtain ⟨a1,a2⟩:=ris_cons.1 hA
  obtain ⟨b1,b2⟩:=ris_cons.1 hB
  have noA : ∀ k,a.key = k → look A k = none:=fun k e=>look_none_of (fun x hx e'=>by have:=a1 x hx; rw [e',e] at this; exact List.lt_irrefl _ this)
  have noB : ∀ k,b.key = k → look B k = none:=fun k e=>look_none_of (fun x hx e'=>by have:=b1 x hx; rw [e',e] at this; exact List.lt_irrefl _ this)
  rw [mergeE_cons]
  by_cases h1 : a.key < b.key
  ·
   rw [if_pos h1]
   have ih:=merge_join A (b :: B) a2 hB
   refine ⟨ris_cons.2 ⟨fun x hx=>?_,ih.ris⟩,fun k=>?_⟩
   ·
    rcases merge_mem A (b :: B) hx with h | h
    ·
     exact a1 x h
    ·
     rcases List.mem_cons.1 h with rfl | h
     ·
      exact h1
     ·
      exact List.lt_trans h1 (b1 x h)
   ·
    rw [look_cons,look_cons a,ih.at']
    by_cases e : a.key = k
    ·
     rw [if_pos e,if_pos e,look_none_of (fun x hx e'=>?_),pick_none_right]
     rcases List.mem_cons.1 hx with rfl | h
     ·
      rw [e',e] at h1; exact List.lt_irrefl _ h1
     ·
      have:=List.lt_trans h1 (b1 x h); rw [e',e] at this; exact List.lt_irrefl _ this
    ·
     rw [if_neg e,if_neg e]
  ·
   rw [if_neg h1]
   by_cases h2 : b.key < a.key
   ·
    rw [if_pos h2]
    have ih:=merge_join (a :: A) B hA b2
    refine ⟨ris_cons.2 ⟨fun x hx=>?_,ih.ris⟩,fun k=>?_⟩
    ·
     rcases merge_mem (a :: A) B hx with h | h
     ·
      rcases List.mem_cons.1 h with rfl | h
      ·
       exact h2
      ·
       exact List.lt_trans h2 (a1 x h)
     ·
      exact b1 x h
    ·
     rw [look_cons,look_cons b B,ih.at']
     by_cases e : b.key = k
     ·
      rw [if_pos e,if_pos e,look_none_of (L:=a :: A) (fun x hx e'=>?_)]
      ·
       rfl
      ·
       rcases List.mem_cons.1 hx with rfl | h
       ·
        rw [e',e] at h2; exact List.lt_irrefl _ h2
       ·
        have:=List.lt_trans h2 (a1 x h); rw [e',e] at this; exact List.lt_irrefl _ this
     ·
      rw [if_neg e,if_neg e]
   ·
    rw [if_neg h2]
    have hk : a.key = b.key:=lt_total h1 h2
    have ih:=merge_join A B a2 b2
    have kk : (if newB b a = true then b else a).key = a.key:=by split <;> simp [hk]
    refine ⟨ris_cons.2 ⟨fun x hx=>?_,ih.ris⟩,fun k=>?_⟩
    ·
     rw [kk]
     rcases merge_mem A B hx with h | h
     ·
      exact a1 x h
     ·
      rw [hk]; exact b1 x h
    ·
     rw [look_cons,look_cons a A,look_cons b B,ih.at',kk]
     by_cases e : a.key = k
     ·
      rw [if_pos e,if_pos e,if_pos (show b.key = k from hk.symm.trans e)]
      rfl
     ·
      rw [if_neg e,if_neg e,if_neg (fun e'=>e (hk.trans e'))]
 termination_by A B=>A.length + B.length
def KeyAt (k : Bytes) (o : Option En) : Prop:=∀ e,o = some e → e.key = k
theorem look_at (L : List En) (k : Bytes) : KeyAt k (look L k):=fun e h=>(look_some h).2
theorem pick_at {k : Bytes} {x y : Option En} (hx : KeyAt k x) (hy : KeyAt k y) : KeyAt k (pickE x y):=by
 intro e h
 cases x with
 | none=>exact hy e h
 | some a =>
  cases y with
  | none=>exact hx e h
  | some b =>
   have h':=Option.some.inj h
   cases hn : newB b a with
   | true=>rw [hn,if_pos rfl] at h'; rw [← h']; exact hy b rfl
   | false=>rw [hn,if_neg (by decide)] at h'; rw [← h']; exact hx a rfl
theorem pick_comm {k : Bytes} {x y : Option En} (hx : KeyAt k x) (hy : KeyAt k y) : pickE x y = pickE y x:=by
 cases x with
 | none=>rw [pick_none_right]; rfl
 | some a =>
  cases y with
  | none=>rfl
  | some b =>
   show some _ = some _
   cases h1 : newB b a with
   | true=>rw [new_asymm h1]; simp
   | false =>
    cases h2 : newB a b with
    | true=>simp
    | false=>simp [en_ext ((hx a rfl).trans (hy b rfl).symm) h2 h1]
theorem pick_self (x : Option En) : pickE x x = x:=by
 cases x with
 | none=>rfl
 | some a=>show some _ = some _; rw [new_irrefl]; simp
theorem not_new_trans {a b c : En} (hk : a.key = b.key) (h : newB a b = false) (k : newB b c = false) : newB a c = false:=by
 cases hac : newB a c with
 | false=>rfl
 | true =>
  cases hba : newB b a with
  | true=>exact absurd (new_trans hba hac) (by rw [k]; decide)
  | false=>rw [en_ext hk h hba] at hac; rw [hac] at k; cases k
theorem pick_assoc {k : Bytes} {x y z : Option En} (hx : KeyAt k x) (hy : KeyAt k y) (hz : KeyAt k z) : pickE (pickE x y) z = pickE x (pickE y z):=by
 cases x with
 | none=>rfl
 | some a =>
  cases y with
  | none=>rfl
  | some b =>
   cases z with
   | none=>rfl
   | some c =>
    have ka:=hx a rfl
    have kb:=hy b rfl
    have kc:=hz c rfl
    cases h1 : newB b a with
    | true =>
     cases h2 : newB c b with
     | true=>simp [pickE,h1,h2,new_trans h2 h1]
     | false=>simp [pickE,h1,h2]
    | false =>
     cases h2 : newB c b with
     | true=>simp [pickE,h1,h2]
     | false=>simp [pickE,h1,h2,not_new_trans (kc.trans kb.symm) h2 h1]
theorem IsJoin.comm {A B J : List En} (h : IsJoin A B J) : IsJoin B A J:=⟨h.ris,fun k=>(h.at' k).trans (pick_comm (look_at A k) (look_at B k))⟩
theorem IsJoin.mem {A B J : List En} (h : IsJoin A B J) {e : En} (he : e ∈ J) : e ∈ A ∨ e ∈ B:=by
 have hl:=(look_mem h.ris he).symm.trans (h.at' e.key)
 cases hA : look A e.key with
 | none=>rw [hA] at hl; exact .inr (look_some (k:=e.key) hl.symm).1
 | some a =>
  cases hB : look B e.key with
  | none=>rw [hA,hB] at hl; exact .inl (by rw [Option.some.inj hl]; exact (look_some hA).1)
  | some b =>
   rw [hA,hB] at hl
   have h':=Option.some.inj hl
   cases hn : newB b a with
   | true=>rw [hn,if_pos rfl] at h'; rw [h']; exact .inr (look_some hB).1
   | false=>rw [hn,if_neg (by decide)] at h'; rw [h']; exact .inl (look_some hA).1
def risB : List En → Bool
 | []=>true
 | [_]=>true
 | a :: b :: L=>decide (a.key < b.key) && risB (b :: L)
theorem risB_iff : ∀ L : List En,risB L = true ↔ Ris L
 | []=>by simp [risB,Ris]
 | [a]=>by simp [risB,Ris]
 | a :: b :: L=>by
  unfold risB
  rw [Bool.and_eq_true,decide_eq_true_eq,risB_iff (b :: L),ris_cons (a:=a)]
  refine ⟨fun ⟨h1,h2⟩=>⟨fun x hx=>?_,h2⟩,fun ⟨h1,h2⟩=>⟨h1 b (List.mem_cons_self ..),h2⟩⟩
  rcases List.mem_cons.1 hx with rfl | hx
  ·
   exact h1
  ·
   exact List.lt_trans h1 ((ris_cons.1 h2).1 x hx)
def okBk (L : List En) : Bool:=decide (L.length ≤ 80) && L.all okE && risB L
theorem ok_ris {L : List En} (h : okBk L = true) : Ris L:=by
 unfold okBk at h
 simp only [Bool.and_eq_true] at h
 exact (risB_iff L).1 h.2
theorem ok_len {L : List En} (h : okBk L = true) : L.length ≤ 80:=by
 unfold okBk at h
 simp only [Bool.and_eq_true,decide_eq_true_eq] at h
 exact h.1.1
theorem ok_all {L : List En} (h : okBk L = true) {e : En} (he : e ∈ L) : okE e = true:=by
 unfold okBk at h
 simp only [Bool.and_eq_true,List.all_eq_true] at h
 exact h.1.2 e he
theorem ok_mk {L : List En} (h1 : L.length ≤ 80) (h2 : ∀ e ∈ L,okE e = true) (h3 : Ris L) : okBk L = true:=by
 unfold okBk
 simp only [Bool.and_eq_true,decide_eq_true_eq,List.all_eq_true]
 exact ⟨⟨h1,h2⟩,(risB_iff L).2 h3⟩
def joinB (A B : List En) : List En × Bool:=if okBk A = true ∧ okBk B = true ∧ (mergeE A B).length ≤ 80 then (mergeE A B,true) else ([],false)
theorem join_of {A B J : List En} (hA : okBk A = true) (hB : okBk B = true) (h : IsJoin A B J) : joinB A B = if J.length ≤ 80 then (J,true) else ([],false):=by
 have e : mergeE A B = J:=(merge_join A B (ok_ris hA) (ok_ris hB)).unique h
 unfold joinB
 rw [e]
 by_cases hl : J.length ≤ 80
 ·
  rw [if_pos ⟨hA,hB,hl⟩,if_pos hl]
 ·
  rw [if_neg (fun h=>hl h.2.2),if_neg hl]
end Go.Proofs.YtgbnkkjjgodilaaGreatDoor.Bk
namespace Go.Proofs.YtgbnkkjjgodilaaGreatDoor.Bu
open Go.ChangeShapes Go.WideShapes Go.ChangeAt Go.RowKit
theorem hidIt {p : Prop} (h : p) : Hid p:=h
abbrev Rw:=Int × Int × Int
abbrev rv (x : Rw) : Value:=.agg #[.int .i64 x.1,.int .i64 x.2.1,.int .i64 x.2.2]
def rat (L : List Rw) (i : Nat) : Rw:=L.getD i (0,0,0)
theorem rat_at {L : List Rw} {i : Nat} (h : i < L.length) : rat L i = L[i]:=by
 unfold rat
 rw [List.getD_eq_getElem?_getD,List.getElem?_eq_getElem h]
 rfl
theorem rat_getElem? {L : List Rw} {i : Nat} (h : i < L.length) : L[i]? = some (rat L i):=by rw [rat_at h,List.getElem?_eq_getElem h]
theorem rat_mem {L : List Rw} {i : Nat} (h : i < L.length) : rat L i ∈ L:=by rw [rat_at h]; exact List.getElem_mem h
theorem rat_set {L : List Rw} {i j : Nat} {x : Rw} (h : i < L.length) : rat (L.set i x) j = if i = j then x else rat L j:=by
 unfold rat
 rw [List.getD_eq_getElem?_getD,List.getD_eq_getElem?_getD,List.getElem?_set]
 by_cases e : i = j
 ·
  subst e; simp [h]
 ·
  simp [e]
theorem ext_rat {L M : List Rw} (h : L.length = M.length) (e : ∀ i,i < L.length → rat L i = rat M i) : L = M:=by
 apply List.ext_getElem?
 intro i
 by_cases hi : i < L.length
 ·
  rw [rat_getElem? hi,rat_getElem? (by omega),e i hi]
 ·
  rw [List.getElem?_eq_none (by omega),List.getElem?_eq_none (by omega)]
def rcell (x : Rw) : Nat → Value
 | 0=>.int .i64 x.1
 | 1=>.int .i64 x.2.1
 | _=>.int .i64 x.2.2
def rcells : List Rw → List Value
 | []=>[]
 | x :: r=>.int .i64 x.1 :: .int .i64 x.2.1 :: .int .i64 x.2.2 :: rcells r
theorem rcells_cons (x : Rw) (r : List Rw) : rcells (x :: r) = .int .i64 x.1 :: .int .i64 x.2.1 :: .int .i64 x.2.2 :: rcells r:=rfl
theorem rcells_length (L : List Rw) : (rcells L).length = L.length * 3:=by
 induction L with
 | nil=>rfl
 | cons x r ih=>simp only [rcells_cons,List.length_cons,ih]; omega
theorem rcells_one (L : List Rw) : ∀ u ∈ rcells L,u.oneCell' = true:=by
 induction L with
 | nil=>intro u hu; cases hu
 | cons x r ih =>
  intro u hu
  rw [rcells_cons] at hu
  simp only [List.mem_cons] at hu
  rcases hu with rfl | rfl | rfl | hu
  ·
   rfl
  ·
   rfl
  ·
   rfl
  ·
   exact ih u hu
theorem rcells_get (L : List Rw) : ∀ i j,i < L.length → j < 3 → (rcells L)[i * 3 + j]? = some (rcell (rat L i) j):=by
 induction L with
 | nil=>intro i j hi; simp at hi
 | cons x r ih =>
  intro i j hi hj
  cases i with
  | zero =>
   match j,hj with
   | 0,_=>rfl
   | 1,_=>rfl
   | 2,_=>rfl
  | succ k =>
   rw [rcells_cons,show (k + 1) * 3 + j = k * 3 + j + 1 + 1 + 1 by omega,List.getElem?_cons_succ,List.getElem?_cons_succ,List.getElem?_cons_succ,ih k j (by simp at hi; omega) hj]
   rfl
theorem rcells_set (L : List Rw) : ∀ i j (v : Value) (y : Rw),i < L.length → j < 3 → (∀ k,k < 3 → rcell y k = if k = j then v else rcell (rat L i) k) → (rcells L).set (i * 3 + j) v = rcells (L.set i y):=by
 induction L with
 | nil=>intro i j v y hi; simp at hi
 | cons x r ih =>
  intro i j v y hi hj h
  cases i with
  | zero =>
   have e0:=h 0 (by omega)
   have e1:=h 1 (by omega)
   have e2:=h 2 (by omega)
   rw [List.set_cons_zero,rcells_cons y r,show (.int .i64 y.1 : Value) = rcell y 0 from rfl,show (.int .i64 y.2.1 : Value) = rcell y 1 from rfl,show (.int .i64 y.2.2 : Value) = rcell y 2 from rfl,e0,e1,e2]
   match j,hj with
   | 0,_=>rfl
   | 1,_=>rfl
   | 2,_=>rfl
  | succ k =>
   rw [rcells_cons,show (k + 1) * 3 + j = k * 3 + j + 1 + 1 + 1 by omega,List.set_cons_succ,List.set_cons_succ,List.set_cons_succ,ih k j v y (by simp at hi; omega) hj (fun n hn=>h n hn)]
   rfl
structure Rd (w : World) (a : Option Addr) (L : List Rw) : Prop where
 cell : ∀ i,i < L.length → ∃ b off,a = some ⟨b,off,none⟩ ∧ ∀ j,j < 3 → w.cell? ⟨b,off + (i * 3 + j),none⟩ = some (rcell (rat L i) j)
theorem Rd.all {w : World} {a : Option Addr} {L : List Rw} (h : Rd w a L) {i : Nat} (hi : i < L.length) : ∃ b off,a = some ⟨b,off,none⟩ ∧ w.cell? ⟨b,off + i * 3,none⟩ = some (.int .i64 (rat L i).1) ∧ w.cell? ⟨b,off + i * 3 + 1,none⟩ = some (.int .i64 (rat L i).2.1) ∧ w.cell? ⟨b,off + i * 3 + 2,none⟩ = some (.int .i64 (rat L i).2.2):=by
 obtain ⟨b,off,e,c⟩:=h.cell i hi
 exact ⟨b,off,e,c 0 (by omega),by rw [Nat.add_assoc]; exact c 1 (by omega),by rw [Nat.add_assoc]; exact c 2 (by omega)⟩
theorem cell_block {w : World} {b o : Nat} {v : Value} (h : w.cell? ⟨b,o,none⟩ = some v) : b < w.heap.size:=World.block_lt_of_cell? w ⟨b,o,none⟩ h
theorem Rd.kept {w w' : World} {a : Option Addr} {L : List Rw} (h : Rd w a L) (k : Below w.heap.size w w') : Rd w' a L :=
 ⟨fun i hi=>by
  obtain ⟨b,off,e,c⟩:=h.cell i hi
  exact ⟨b,off,e,fun j hj=>by rw [k.cell (by simpa using cell_block (c j hj))]; exact c j hj⟩⟩
theorem Rd.alloc {w : World} {a : Option Addr} {L : List Rw} (h : Rd w a L) (o : Obj) : Rd (w.alloc o) a L:=h.kept ((Below.refl _ _).alloc (Nat.le_refl _) o)
theorem Rd.nil (w : World) (a : Option Addr) : Rd w a []:=⟨fun i hi=>by simp at hi⟩
theorem Rd.none_nil {w : World} {L : List Rw} (h : Rd w none L) : L = []:=by
 cases L with
 | nil=>rfl
 | cons x r=>obtain ⟨b,off,e,_⟩:=h.cell 0 (by simp); cases e
def Own (w : World) (base : Nat) (v : Value) (L : List Rw) : Prop:=w.ownsRow base 102 3 v L.length (rcells L)
theorem Own.form {w : World} {base : Nat} {v : Value} {L : List Rw} (h : Own w base v L) : ∃ a cap,v = .slice a L.length cap ∧ L.length ≤ cap ∧ cap ≤ maxLen ∧ Rd w a L ∧ (a = none → cap = 0) ∧ (∀ x,a = some x → ∃ g,x = ⟨g,0,none⟩ ∧ base ≤ g ∧ g < w.heap.size):=by
 have h':=h
 rcases h.2 with ⟨rfl,h0⟩ | ⟨g,cap,cur,rfl,hb,hg,hn,hm,rest⟩
 ·
  exact ⟨none,0,by rw [h0],by omega,by decide,⟨fun i hi=>by omega⟩,fun _=>rfl,fun x hx=>by cases hx⟩
 ·
  refine ⟨some ⟨g,0,none⟩,cap,rfl,hn,hm,⟨fun i hi=>⟨g,0,rfl,fun j hj=>?_⟩⟩,(fun e=>by cases e),fun x hx=>⟨g,by cases hx; rfl,hb,(Array.getElem?_eq_some_iff.1 hg).1⟩⟩
  rw [Nat.zero_add,World.ownsRow.cellAt h' _ (by omega),rcells_get _ _ _ hi hj]
theorem Own.kept {w w' : World} {base : Nat} {v : Value} {L : List Rw} (h : Own w base v L) (k : Below w.heap.size w w') : Own w' base v L :=
 World.ownsRow.kept (row:=none) h ⟨k.os,k.tape,k.output,k.size,fun i hi _=>k.block i hi⟩ (by cases v.ownBlock <;> simp)
theorem Own.only {w w' : World} {base c : Nat} {v : Value} {L : List Rw} (h : Own w base v L) (k : Only c w w') (hc : c < base ∨ ∀ g,v.ownBlock = some g → g ≠ c) : Own w' base v L:=by
 refine World.ownsRow.kept h (row:=some c) ⟨k.os,k.tape,k.output,k.size,fun i hi hne=>k.block i hi (fun e=>hne (by rw [e]))⟩ ?_
 cases hv : v.ownBlock with
 | none=>exact .inl rfl
 | some g =>
  refine .inr (fun e=>?_)
  cases e
  rcases hc with hc | hc
  ·
   have:=(World.ownsRow.lt h _ hv).1; omega
  ·
   exact hc _ hv rfl
theorem Own.mono {w : World} {base b' : Nat} {v : Value} {L : List Rw} (h : Own w base v L) (hb : b' ≤ base) : Own w b' v L:=by
 refine ⟨h.1,?_⟩
 rcases h.2 with h0 | ⟨g,cap,cur,e,hb',r⟩
 ·
  exact .inl h0
 ·
  exact .inr ⟨g,cap,cur,e,by omega,r⟩
theorem Own.ofNil (w : World) (base : Nat) : Own w base (.slice none 0 0) []:=World.ownsRow_nil _ _ _ _
theorem Own.free {w : World} {base g m cap : Nat} {L : List Rw} (h : Own w base (.slice (some ⟨g,0,none⟩) m cap) L) (j : Nat) : w.frozen? ⟨g,j,none⟩ = false:=by
 obtain ⟨a,c',e,_⟩:=h.form
 cases e
 exact World.ownsRow.frozenAt h j
theorem Own.at {w : World} {base g m cap i j : Nat} {L : List Rw} (h : Own w base (.slice (some ⟨g,0,none⟩) m cap) L) (hi : i < L.length) (hj : j < 3) : w.cell? ⟨g,i * 3 + j,none⟩ = some (rcell (rat L i) j):=by
 obtain ⟨a',c',e1,_,_,r,_⟩:=h.form
 cases e1
 obtain ⟨b',o',e2,k⟩:=r.cell i hi
 cases e2
 simpa using k j hj
theorem Own.set {w : World} {base g m cap i j : Nat} {L : List Rw} {v : Value} {y : Rw} (h : Own w base (.slice (some ⟨g,0,none⟩) m cap) L) (hi : i < L.length) (hj : j < 3) (hy : ∀ k,k < 3 → rcell y k = if k = j then v else rcell (rat L i) k) :
  Own (w.setCell ⟨g,i * 3 + j,none⟩ v) base (.slice (some ⟨g,0,none⟩) m cap) (L.set i y):=by
 obtain ⟨a,c',e,_⟩:=h.form
 cases e
 have:=(World.ownsRow.stored h (i * 3 + j) v).1
 rw [rcells_set L i j v y hi hj hy] at this
 unfold Own
 rw [List.length_set]
 exact this
theorem Own.whole {w : World} {base g m cap i : Nat} {L : List Rw} (h : Own w base (.slice (some ⟨g,0,none⟩) m cap) L) (hi : i < L.length) (y : Rw) :
  Own ((((w.setCell ⟨g,i * 3,none⟩ (.int .i64 y.1)).setCell ⟨g,i * 3 + 1,none⟩ (.int .i64 y.2.1)).setCell ⟨g,i * 3 + 2,none⟩ (.int .i64 y.2.2))) base (.slice (some ⟨g,0,none⟩) m cap) (L.set i y):=by
 obtain ⟨y0,y1,y2⟩:=y
 have h1:=h.set (i:=i) (j:=0) (v:=.int .i64 y0) (y:=(y0,(rat L i).2.1,(rat L i).2.2)) hi (by omega) (fun k hk=>by
  match k,hk with
  | 0,_=>rfl
  | 1,_=>rfl
  | 2,_=>rfl)
 have h2:=h1.set (i:=i) (j:=1) (v:=.int .i64 y1) (y:=(y0,y1,(rat L i).2.2)) (by rw [List.length_set]; exact hi) (by omega) (fun k hk=>by
  rw [rat_set hi,if_pos rfl]
  match k,hk with
  | 0,_=>rfl
  | 1,_=>rfl
  | 2,_=>rfl)
 rw [List.set_set] at h2
 have h3:=h2.set (i:=i) (j:=2) (v:=.int .i64 y2) (y:=(y0,y1,y2)) (by rw [List.length_set]; exact hi) (by omega) (fun k hk=>by
  rw [rat_set hi,if_pos rfl]
  match k,hk with
  | 0,_=>rfl
  | 1,_=>rfl
  | 2,_=>rfl)
 rw [List.set_set] at h3
 exact h3
theorem infoRw : (Tryz.prog.info? 102).map (fun i=>(i.zero,i.size,i.bytes)) = some (some (.agg #[.int .i64 0,.int .i64 0,.int .i64 0]),3,24):=by kernel_rfl
theorem Rd.cells {w : World} {b off : Nat} {L : List Rw} (h : Rd w (some ⟨b,off,none⟩) L) : ∀ j u,(rcells L)[j]? = some u → w.cell? ((⟨b,off,none⟩ : Addr).add j) = some u:=by
 intro j u hj
 have hlt : j < L.length * 3:=by rw [← rcells_length]; exact (List.getElem?_eq_some_iff.1 hj).1
 obtain ⟨b',o',e,c⟩:=h.cell (j / 3) (by omega)
 cases e
 have hc:=c (j % 3) (by omega)
 have hg:=rcells_get L (j / 3) (j % 3) (by omega) (by omega)
 rw [show j / 3 * 3 + j % 3 = j by omega] at hc hg
 rw [hg] at hj
 rw [Go.WideShapes.add_plain,hc]
 exact hj
def ob (w : World) (v : Value) : Nat:=v.ownBlock.getD w.heap.size
theorem rat_map (m : Nat) (f : Nat → Rw) (i : Nat) (hi : i < m) : rat ((List.range m).map f) i = f i:=by
 unfold rat
 rw [List.getD_eq_getElem?_getD,List.getElem?_map,List.getElem?_range hi]
 rfl
structure In (w : World) (a : Option Addr) (cap : Nat) (L : List Rw) : Prop where
 rd : Rd w a L
 na : a = none → cap = 0
 le : L.length ≤ cap
 cap : cap ≤ 9223372036854775807
theorem open_cells {H : Type} {P : Program} {enc : TypeId × Value → H} {w : World} {base : Nat} {spare : Nat → Bool} {held : Bool} {v : Value} {fuel : Nat} {z : DataW H × List MemPlace} {t e : TypeId} {f0 f1 f2 : Field}
  (ht : P.underlying t = some (.slice e)) (he : P.underlying e = some (.struct #[f0,f1,f2])) (ce : P.cellsOf e = 3) (o0 : f0.offset = 0) (o1 : f1.offset = 1) (o2 : f2.offset = 2)
  (c0 : P.cellsOf f0.type = 1) (c1 : P.cellsOf f1.type = 1) (c2 : P.cellsOf f2.type = 1)
  (t0 : P.underlying f0.type = some (.int .i64)) (t1 : P.underlying f1.type = some (.int .i64)) (t2 : P.underlying f2.type = some (.int .i64))
  (hf : DataW.trod enc P w base spare held fuel t [v] = some z) : ∃ (a : Option Addr) (cap : Nat) (L : List Rw),v = .slice a L.length cap ∧ In w a cap L:=by
 rcases Go.Deep.open_slice ht hf with ⟨hcs,_⟩ | ⟨x,len,cap,m,n,D,Pl,hcs,_,hl,hc,hm,_,hx⟩
 ·
  simp at hcs
  subst hcs
  exact ⟨none,0,[],rfl,Rd.nil _ _,fun _=>rfl,Nat.zero_le _,by decide⟩
 ·
  simp at hcs
  subst hcs
  have hlm : len ≤ m:=by rw [hm]; split <;> omega
  have each : ∀ i,i < len → ∃ y : Rw,(∀ j,j < 3 → w.cell? (x.add (i * 3 + j)) = some (rcell y j)) ∧ True:=by
   intro i hi
   obtain ⟨cs',h1,h2⟩:=hx i (by omega)
   rw [ce] at h1
   obtain ⟨_,hlen,hcell⟩:=World.cells?_some h1
   obtain ⟨xs,k,hk,hxy,_,hxl,hf'⟩:=DataW.trod_struct he h2
   match xs,hxl,cs',hlen with
   | [y0,y1,y2],_,[v0,v1,v2],_ =>
    have g0:=hf' 0 f0 rfl
    have g1:=hf' 1 f1 rfl
    have g2:=hf' 2 f2 rfl
    simp [o0,o1,o2,c0,c1,c2] at g0 g1 g2
    obtain ⟨q0,eq0,_,_⟩:=DataW.trod_int t0 g0
    obtain ⟨q1,eq1,_,_⟩:=DataW.trod_int t1 g1
    obtain ⟨q2,eq2,_,_⟩:=DataW.trod_int t2 g2
    simp at eq0 eq1 eq2
    subst eq0 eq1 eq2
    refine ⟨(q0,q1,q2),fun j hj=>?_,trivial⟩
    have e:=hcell j hj
    rw [Go.Deep.add_add] at e
    rw [e]
    match j,hj with
    | 0,_=>rfl
    | 1,_=>rfl
    | 2,_=>rfl
  haveI : Inhabited Rw:=⟨(0,0,0)⟩
  obtain ⟨f,hf'⟩:=Go.Deep.choose_lt each
  refine ⟨some x,cap,(List.range len).map f,by simp,⟨fun i hi=>?_⟩,(fun e=>by cases e),by simpa using hl,hc⟩
  ·
   have hi' : i < len:=by simpa using hi
   have z0:=(hf' 0 (by omega)).1 0 (by omega)
   obtain ⟨b,off,spot⟩:=x
   have hspot : spot = none:=by simpa [Addr.add] using World.cell?_spot z0
   subst hspot
   refine ⟨b,off,rfl,fun j hj=>?_⟩
   rw [rat_map _ _ _ hi',← Go.WideShapes.add_plain]
   exact (hf' i hi').1 j hj
end Go.Proofs.YtgbnkkjjgodilaaGreatDoor.Bu
namespace Go.Proofs.YtgbnkkjjgodilaaGreatDoor.Bu
open Go.ChangeShapes Go.WideShapes Go.ChangeAt Go.RowKit
end Go.Proofs.YtgbnkkjjgodilaaGreatDoor.Bu
namespace Go.Proofs.YtgbnkkjjgodilaaGreatDoor.Bu
open Go.ChangeShapes Go.WideShapes Go.ChangeAt Go.RowKit
def inB (n lo hi : Int) : Bool:=decide (lo ≤ n) && decide (n ≤ hi)
def okX (x : Rw) : Bool:=inB x.1 0 99 && (inB x.2.1 0 5 && inB x.2.2 0 1000000)
abbrev sat (L : List Rw) (i : Nat) : Int:=(rat L i).1
def okB (L : List Rw) : Bool:=decide (L.length ≤ 20) && (L.all okX && (List.range (L.length - 1)).all (fun i=>decide (sat L i < sat L (i + 1))))
theorem okB_len {L : List Rw} (h : okB L = true) : L.length ≤ 20:=by simp only [okB,Bool.and_eq_true,decide_eq_true_eq] at h; exact h.1
theorem okB_at {L : List Rw} (h : okB L = true) {i : Nat} (hi : i < L.length) : okX (rat L i) = true:=by
 simp only [okB,Bool.and_eq_true,List.all_eq_true] at h
 exact h.2.1 _ (rat_mem hi)
theorem okB_ris {L : List Rw} (h : okB L = true) (i : Nat) (hi : i + 1 < L.length) : sat L i < sat L (i + 1):=by
 simp only [okB,Bool.and_eq_true,List.all_eq_true] at h
 exact of_decide_eq_true (h.2.2 i (List.mem_range.2 (by omega)))
theorem okB_yes {L : List Rw} (h1 : L.length ≤ 20) (h2 : ∀ i,i < L.length → okX (rat L i) = true) (h3 : ∀ i,i + 1 < L.length → sat L i < sat L (i + 1)) : okB L = true:=by
 simp only [okB,Bool.and_eq_true,List.all_eq_true,decide_eq_true_eq]
 refine ⟨h1,fun x hx=>?_,fun i hi=>h3 i (by have:=List.mem_range.1 hi; omega)⟩
 obtain ⟨i,hi,rfl⟩:=List.mem_iff_getElem.1 hx
 have:=h2 i hi
 rwa [rat_at hi] at this
theorem okB_no1 {L : List Rw} (h : ¬ L.length ≤ 20) : okB L = false:=by
 cases e : okB L with
 | false=>rfl
 | true=>exact absurd (okB_len e) h
theorem okB_no2 {L : List Rw} {i : Nat} (hi : i < L.length) (h : okX (rat L i) = false) : okB L = false:=by
 cases e : okB L with
 | false=>rfl
 | true=>have:=okB_at e hi; rw [h] at this; cases this
theorem okB_no3 {L : List Rw} {i : Nat} (hi : i + 1 < L.length) (h : ¬ sat L i < sat L (i + 1)) : okB L = false:=by
 cases e : okB L with
 | false=>rfl
 | true=>exact absurd (okB_ris e i hi) h
end Go.Proofs.YtgbnkkjjgodilaaGreatDoor.Bu
namespace Go.Proofs.YtgbnkkjjgodilaaGreatDoor.Bu
open Go.ChangeShapes Go.WideShapes Go.ChangeAt Go.RowKit
open Rc (BelowBy BelowBy.one wp_region_below calls_below calls_same)
theorem spec_l1In (n lo hi : Int) (w : World) : Calls Tryz.prog 37 #[.int .i64 n,.int .i64 lo,.int .i64 hi] w fun e w'=>e = .returned (.bool (inB n lo hi)) ∧ w' = w:=by
 unfold inB
 by_cases h : lo ≤ n
 ·
  have h' : decide (lo ≤ n) = true:=decide_eq_true h
  rw [h',Bool.true_and]
  go_enter Tryz.func37,Tryz.ntmps37
  go_wp2
  go_ret
  exact ⟨rfl,rfl⟩
 ·
  have h' : decide (lo ≤ n) = false:=decide_eq_false h
  rw [h',Bool.false_and]
  go_enter Tryz.func37,Tryz.ntmps37
  go_wp2
  go_ret
  exact ⟨rfl,rfl⟩
theorem spec_l9Time (n : Int) (w : World) : Calls Tryz.prog 16 #[.int .i64 n] w fun e w'=>e = .returned (.bool (inB n 0 1000000)) ∧ w' = w:=by
 have C:=hidIt (fun W=>spec_l1In n 0 1000000 W)
 go_enter Tryz.func16,Tryz.ntmps16
 go_wp2_with (fail)
 refine (C.out _).mono ?_
 rintro e w1 ⟨rfl,rfl⟩
 go_wp2_with (fail)
 go_ret
 exact ⟨rfl,rfl⟩
theorem spec_BucketsOk (a : Option Addr) (cap : Nat) (L : List Rw) (w : World) (h : Rd w a L) (hl : L.length ≤ 9223372036854775807) :
  Calls Tryz.prog 41 #[.slice a L.length cap] w fun e w'=>e = .returned (.bool (okB L)) ∧ Below w.heap.size w w':=by
 have N1 : Hid (¬ L.length ≤ 20 → okB L = false):=hidIt okB_no1
 have N2 : Hid (∀ i,i < L.length → okX (rat L i) = false → okB L = false):=hidIt (fun i hi h=>okB_no2 hi h)
 have N3 : Hid (∀ i,i + 1 < L.length → ¬ sat L i < sat L (i + 1) → okB L = false):=hidIt (fun i hi h=>okB_no3 hi h)
 have N4 : Hid (L.length ≤ 20 → (∀ i,i < L.length → okX (rat L i) = true) → (∀ i,i + 1 < L.length → sat L i < sat L (i + 1)) → okB L = true):=hidIt okB_yes
 generalize okB L = r at N1 N2 N3 N4 ⊢
 have HR:=hidIt h
 clear h
 generalize hn : L.length = m at *
 have HN:=hidIt hn
 clear hn
 by_cases h80 : m ≤ 20
 ·
  have h80' : ¬ (20 : Int) < (m : Int):=by omega
  go_enter Tryz.func41,Tryz.ntmps41
  go_wp2_with (fail)
  go_loopw [3] (fun y wx=>∃ i : Nat,y = .int .i64 i ∧ i ≤ m ∧ Hid (∀ j,j < i → okX (rat L j) = true) ∧ Hid (∀ j,j + 1 < i → sat L j < sat L (j + 1)) ∧ Hid (Below w.heap.size w wx)) (fun y _=>(m - intOf y).toNat)
  case atStart=>exact ⟨0,rfl,by omega,hidIt (fun j hj=>by omega),hidIt (fun j hj=>by omega),hidIt (Below.refl _ _)⟩
  case round =>
   obtain ⟨i,rfl,hi,HO,HK,HB⟩:=hrel
   by_cases hin : i < m
   ·
    have hin' : (i : Int) < (m : Int):=by omega
    have HRx:=hidIt (HR.out.kept HB.out)
    obtain ⟨b,off,ea,c0,c1,c2⟩:=HRx.out.all (i:=i) (by rw [HN.out]; exact hin)
    subst ea
    obtain ⟨ok,hok⟩ : ∃ ok,okX (rat L i) = ok:=⟨_,rfl⟩
    have HOK:=hidIt hok
    unfold okX at hok
    have hkey : Hid (sat L i = (rat L i).1):=hidIt rfl
    generalize rat L i = x at c0 c1 c2 hok hkey
    obtain ⟨xi,xt,xs⟩:=x
    simp only at c0 c1 c2 hok hkey
    have C1:=hidIt (fun n lo hi W=>spec_l1In n lo hi W)
    have C2:=hidIt (fun n W=>spec_l9Time n W)
    obtain ⟨k1,e1⟩ : ∃ k,inB xi 0 99 = k:=⟨_,rfl⟩
    obtain ⟨k2,e2⟩ : ∃ k,inB xt 0 5 = k:=⟨_,rfl⟩
    obtain ⟨k3,e3⟩ : ∃ k,inB xs 0 1000000 = k:=⟨_,rfl⟩
    rw [e1,e2,e3] at hok
    have BX:=hidIt (Bo.Box.new wr #[.int .i64 xi,.int .i64 xt,.int .i64 xs] 102)
    have HBz:=hidIt (HB.out.alloc HB.out.size (.cells #[.int .i64 xi,.int .i64 xt,.int .i64 xs] 102))
    have HRz:=hidIt (HRx.out.alloc (.cells #[.int .i64 xi,.int .i64 xt,.int .i64 xs] 102))
    cases ok with
    | false =>
     have er:=N2.out i hin HOK.out
     subst er
     go_wp2_with (fail)
     generalize wr.alloc (.cells #[.int .i64 xi,.int .i64 xt,.int .i64 xs] 102) = wz at BX HBz HRz ⊢
     haveI:=BelowBy.one wz
     have g0:=fun p : BelowBy wz=>p.cell (BX.out.c 0 rfl)
     have g1:=fun p : BelowBy wz=>p.cell (BX.out.c 1 rfl)
     have g2:=fun p : BelowBy wz=>p.cell (BX.out.c 2 rfl)
     cases k1 <;> cases k2 <;> cases k3 <;> simp only [Bool.and_true,Bool.and_false,Bool.true_eq_false] at hok
     all_goals
      refine wp_region_below (by kernel_rfl) (by kernel_rfl) ?_
      repeat (go_big_quiet_step (first | (go_at_call 37; refine calls_same (C1.out _ _ _ _)) | (go_at_call 16; refine calls_same (C2.out _ _))))
      refine wpQuiet_nil ?_
      intro _ hw'
      obtain ⟨pq,rfl⟩:=hw'
      have HB1:=hidIt (HBz.out.trans (pq.h.mono HBz.out.size))
      generalize pq.world = w2 at HB1 ⊢
      clear g0 g1 g2
      go_wp2_with (fail)
      go_ret
      exact ⟨rfl,HB1.out⟩
    | true =>
     obtain ⟨rfl,rfl,rfl⟩ : k1 = true ∧ k2 = true ∧ k3 = true:=by cases k1 <;> cases k2 <;> cases k3 <;> simp_all
     have HO' : Hid (∀ j,j < i + 1 → okX (rat L j) = true):=hidIt (fun j hj=>by
      rcases Nat.lt_succ_iff_lt_or_eq.1 hj with h | h
      ·
       exact HO.out j h
      ·
       subst h; exact HOK.out)
     clear hok
     rcases Nat.eq_zero_or_pos i with hz | hp
     ·
      subst hz
      simp only [Nat.zero_mul,Nat.add_zero] at c0 c1 c2
      go_wp2_with (fail)
      generalize wr.alloc (.cells #[.int .i64 xi,.int .i64 xt,.int .i64 xs] 102) = wz at BX HBz HRz ⊢
      haveI:=BelowBy.one wz
      have g0:=fun p : BelowBy wz=>p.cell (BX.out.c 0 rfl)
      have g1:=fun p : BelowBy wz=>p.cell (BX.out.c 1 rfl)
      have g2:=fun p : BelowBy wz=>p.cell (BX.out.c 2 rfl)
      refine wp_region_below (by kernel_rfl) (by kernel_rfl) ?_
      repeat (go_big_quiet_step (first | (go_at_call 37; refine calls_same (C1.out _ _ _ _)) | (go_at_call 16; refine calls_same (C2.out _ _))))
      refine wpQuiet_nil ?_
      intro _ hw'
      obtain ⟨pq,rfl⟩:=hw'
      have HB1:=hidIt (HBz.out.trans (pq.h.mono HBz.out.size))
      generalize pq.world = w2 at HB1 ⊢
      clear g0 g1 g2
      go_wp2_with (fail)
      exact ⟨⟨1,by simp,by omega,HO',hidIt (fun j hj=>by omega),HB1⟩,by simp [intOf]; omega⟩
     ·
      obtain ⟨j,rfl⟩ : ∃ j,i = j + 1:=⟨i - 1,by omega⟩
      have hpos : (0 : Int) < ((j : Int) + 1):=by omega
      have hj8 : (j : Int) ≤ 20:=by omega
      have hj0 : (0 : Int) ≤ (j : Int):=by omega
      obtain ⟨pk,epk⟩ : ∃ pk,(rat L j).1 = pk:=⟨_,rfl⟩
      have hkj : Hid (sat L j = pk):=hidIt epk
      have EPK:=hidIt epk
      clear epk
      go_wp2_with (fail)
      generalize wr.alloc (.cells #[.int .i64 xi,.int .i64 xt,.int .i64 xs] 102) = wz at BX HBz HRz ⊢
      haveI:=BelowBy.one wz
      have g0:=fun p : BelowBy wz=>p.cell (BX.out.c 0 rfl)
      have g1:=fun p : BelowBy wz=>p.cell (BX.out.c 1 rfl)
      have g2:=fun p : BelowBy wz=>p.cell (BX.out.c 2 rfl)
      obtain ⟨b',off',ea2,q0,_⟩:=HRz.out.all (i:=j) (by rw [HN.out]; omega)
      cases ea2
      rw [EPK.out] at q0
      have k0:=fun p : BelowBy wz=>p.cell q0
      clear q0
      by_cases hlt : pk < xi
      ·
       have hd : decide (xi ≤ pk) = false:=decide_eq_false (by omega)
       have HK' : Hid (∀ q,q + 1 < j + 1 + 1 → sat L q < sat L (q + 1)):=hidIt (fun q hq=>by
        rcases Nat.lt_succ_iff_lt_or_eq.1 (show q + 1 < j + 1 + 1 from hq) with h | h
        ·
         exact HK.out q h
        ·
         have : q = j:=by omega
         subst this
         rw [hkj.out,hkey.out]
         exact hlt)
       clear hlt
       refine wp_region_below (by kernel_rfl) (by kernel_rfl) ?_
       repeat (go_big_quiet_step (first | (go_at_call 37; refine calls_same (C1.out _ _ _ _)) | (go_at_call 16; refine calls_same (C2.out _ _))))
       refine wpQuiet_nil ?_
       intro _ hw'
       obtain ⟨pq,rfl⟩:=hw'
       have HB1:=hidIt (HBz.out.trans (pq.h.mono HBz.out.size))
       generalize pq.world = w2 at HB1 ⊢
       clear g0 g1 g2 k0
       go_wp2_with (fail)
       exact ⟨⟨j + 1 + 1,by simp,by omega,HO',HK',HB1⟩,by simp [intOf]; omega⟩
      ·
       have er:=N3.out j (by omega) (by rw [hkj.out,hkey.out]; omega)
       have hd : decide (xi ≤ pk) = true:=decide_eq_true (by omega)
       subst er
       clear hlt
       refine wp_region_below (by kernel_rfl) (by kernel_rfl) ?_
       repeat (go_big_quiet_step (first | (go_at_call 37; refine calls_same (C1.out _ _ _ _)) | (go_at_call 16; refine calls_same (C2.out _ _))))
       refine wpQuiet_nil ?_
       intro _ hw'
       obtain ⟨pq,rfl⟩:=hw'
       have HB1:=hidIt (HBz.out.trans (pq.h.mono HBz.out.size))
       generalize pq.world = w2 at HB1 ⊢
       clear g0 g1 g2 k0
       go_wp2_with (fail)
       go_ret
       exact ⟨rfl,HB1.out⟩
   ·
    have hin' : ¬ (i : Int) < (m : Int):=by omega
    have HI : Hid (i = m):=hidIt (by omega)
    have er:=N4.out h80 (fun j hj=>HO.out j (by have:=HI.out; omega)) (fun j hj=>HK.out j (by have:=HI.out; omega))
    subst er
    go_wp2_with (fail)
    go_ret
    exact ⟨rfl,HB.out⟩
 ·
  have h80' : (20 : Int) < (m : Int):=by omega
  have er:=N1.out h80
  subst er
  go_enter Tryz.func41,Tryz.ntmps41
  go_wp2
  go_ret
  exact ⟨rfl,Below.refl _ _⟩
end Go.Proofs.YtgbnkkjjgodilaaGreatDoor.Bu
