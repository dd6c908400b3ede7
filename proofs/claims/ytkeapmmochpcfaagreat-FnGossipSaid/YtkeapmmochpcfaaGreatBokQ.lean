/- One Entry more put into what two books come to: at its place, or in the place of the one of its Key. -/
import Derived.Test.YtkeapmmochpcfaaGreatBokT
set_option maxRecDepth 100000
set_option maxHeartbeats 32000000
set_option linter.unusedVariables false
namespace Go.Proofs.YtkeapmmochpcfaaGreat.Bk
theorem look_append (X Y:List En) (k:Bytes):look (X++Y) k=(look X k).or (look Y k):=by
 unfold look
 rw[List.find?_append]
theorem join_more {A B J J':List En} {b:En} (h:IsJoin A B J) (hb:look B b.key=none) (r:Ris J') (e:∀ x,look J' x=if x=b.key then pickE (look J x) (some b) else look J x):IsJoin A (B++[b]) J':=by
 refine⟨r,fun x=>?_⟩
 rw[e x,h.at',look_append,look_cons,look_nil]
 by_cases hx:x=b.key
 ·
  subst hx
  rw[if_pos rfl,if_pos rfl,hb,pick_none_right]
  rfl
 ·
  rw[if_neg hx,if_neg (fun e=>hx e.symm)]
  cases look B x<;>rfl
theorem set_ris {X Y:List En} {c b:En} (h:Ris (X++c::Y)) (hk:c.key=b.key):Ris (X++b::Y):=by
 unfold Ris at h ⊢
 rw[List.pairwise_append,List.pairwise_cons] at h ⊢
 refine⟨h.1,⟨fun y hy=>hk ▸ h.2.1.1 y hy,h.2.1.2⟩,fun x hx y hy=>?_⟩
 rcases List.mem_cons.1 hy with rfl | hy
 ·
  rw[<- hk];exact h.2.2 x hx c (List.mem_cons_self ..)
 ·
  exact h.2.2 x hx y (List.mem_cons_of_mem _ hy)
theorem mid_look {X Y:List En} {c:En} (h:Ris (X++c::Y)) (x:Bytes):look (X++c::Y) x=if x=c.key then some c else look (X++Y) x:=by
 unfold Ris at h
 rw[List.pairwise_append,List.pairwise_cons] at h
 rw[look_append,look_append,look_cons]
 by_cases hx:x=c.key
 ·
  subst hx
  rw[if_pos rfl,if_pos rfl,look_none_of (fun e he e'=>by have:=h.2.2 e he c (List.mem_cons_self ..);rw[e'] at this;exact List.lt_irrefl _ this)]
  rfl
 ·
  rw[if_neg hx,if_neg (fun e=>hx e.symm)]
theorem mid_none {X Y:List En} {c:En} (h:Ris (X++c::Y)):look (X++Y) c.key=none:=by
 unfold Ris at h
 rw[List.pairwise_append,List.pairwise_cons] at h
 refine look_none_of (fun e he e'=>?_)
 rcases List.mem_append.1 he with he | he
 ·
  have:=h.2.2 e he c (List.mem_cons_self ..);rw[e'] at this;exact List.lt_irrefl _ this
 ·
  have:=h.2.1.1 e he;rw[e'] at this;exact List.lt_irrefl _ this
theorem join_set {A B X Y:List En} {c b:En} (h:IsJoin A B (X++c::Y)) (hb:look B b.key=none) (hk:c.key=b.key) (hn:newB b c=true):IsJoin A (B++[b]) (X++b::Y):=by
 have r:=set_ris h.ris hk
 refine join_more h hb r (fun x=>?_)
 rw[mid_look r,mid_look h.ris]
 by_cases hx:x=b.key
 ·
  rw[if_pos hx,if_pos hx,if_pos (hx.trans hk.symm)]
  show _=some (if newB b c=true then b else c)
  rw[if_pos hn]
 ·
  rw[if_neg hx,if_neg hx,if_neg (fun e=>hx (e.trans hk))]
theorem join_keep {A B X Y:List En} {c b:En} (h:IsJoin A B (X++c::Y)) (hb:look B b.key=none) (hk:c.key=b.key) (hn:newB b c=false):IsJoin A (B++[b]) (X++c::Y):=by
 refine join_more h hb h.ris (fun x=>?_)
 rw[mid_look h.ris]
 by_cases hx:x=b.key
 ·
  rw[if_pos (hx.trans hk.symm),if_pos hx]
  show _=some (if newB b c=true then b else c)
  rw[hn,if_neg (by decide)]
 ·
  rw[if_neg (fun e=>hx (e.trans hk)),if_neg hx]
theorem join_ins {A B X Y:List En} {b:En} (h:IsJoin A B (X++Y)) (hb:look B b.key=none) (hX:∀ e∈X,e.key<b.key) (hY:∀ e∈Y,b.key<e.key):IsJoin A (B++[b]) (X++b::Y):=by
 have r:Ris (X++b::Y):=by
  have:=h.ris
  unfold Ris at this ⊢
  rw[List.pairwise_append] at this ⊢
  refine⟨this.1,List.pairwise_cons.2 ⟨hY,this.2.1⟩,fun x hx y hy=>?_⟩
  rcases List.mem_cons.1 hy with rfl | hy
  ·
   exact hX x hx
  ·
   exact this.2.2 x hx y hy
 refine join_more h hb r (fun x=>?_)
 rw[mid_look r]
 by_cases hx:x=b.key
 ·
  subst hx
  rw[if_pos rfl,if_pos rfl,mid_none r]
  rfl
 ·
  rw[if_neg hx,if_neg hx]
theorem take_none {B:List En} (h:Ris B) {i:Nat} (hi:i<B.length):look (B.take i) (B[i]).key=none:=by
 refine look_none_of (fun e he e'=>?_)
 obtain⟨j,hj,rfl⟩:=List.mem_iff_getElem.1 he
 rw[List.length_take] at hj
 unfold Ris at h
 rw[List.pairwise_iff_getElem] at h
 have:=h j i (by omega) hi (by omega)
 rw[List.getElem_take] at e'
 rw[e'] at this
 exact List.lt_irrefl _ this
theorem join_start {A:List En} (h:Ris A):IsJoin A [] A:=⟨h,fun k=>by rw[look_nil,pick_none_right]⟩
end Go.Proofs.YtkeapmmochpcfaaGreat.Bk
namespace Go.Proofs.YtkeapmmochpcfaaGreat.En
open Bk (Bytes okE newB okBk look Ris IsJoin)
theorem toB_length (L:List Rw):(toB L).length=L.length:=List.length_map ..
theorem toB_at {L:List Rw} {i:Nat} (h:i<L.length):(toB L)[i]'(by rw[toB_length];exact h)=toE (rat L i):=by rw[rat_at h];exact List.getElem_map ..
theorem split_at {M:List Rw} {k:Nat} (h:k<M.length):M=M.take k++rat M k::M.drop (k+1):=by
 rw[rat_at h,List.getElem_cons_drop,List.take_append_drop]
theorem join_step {A B M:List Rw} {i k:Nat} (hB:Ris (toB B)) (hi:i<B.length) (h:IsJoin (toB A) ((toB B).take i) (toB M)) (hk:k<=M.length) (h1:∀ j,j<k->kat M j<kat B i) (h2:k<M.length->¬ kat M k<kat B i) :
  (∀ hk':k<M.length,kat M k=kat B i->newB (toE (rat B i)) (toE (rat M k))=true->IsJoin (toB A) ((toB B).take (i+1)) (toB (M.set k (rat B i)))) ∧
  (∀ hk':k<M.length,kat M k=kat B i->newB (toE (rat B i)) (toE (rat M k))=false->IsJoin (toB A) ((toB B).take (i+1)) (toB M)) ∧
  ((k<M.length->kat M k≠kat B i)->IsJoin (toB A) ((toB B).take (i+1)) (toB (M.take k++rat B i::M.drop k))):=by
 have hi':i<(toB B).length:=by rw[toB_length];exact hi
 have hn:=Bk.take_none hB hi'
 have et:(toB B).take (i+1)=(toB B).take i++[toE (rat B i)]:=by rw[List.take_add_one,List.getElem?_eq_getElem hi',toB_at hi];rfl
 rw[toB_at hi] at hn
 rw[et]
 refine⟨fun hk' e hnew=>?_,fun hk' e hnew=>?_,fun e=>?_⟩
 ·
  rw[split_at hk'] at h
  simp only[toB,List.map_append,List.map_cons] at h ⊢
  rw[List.set_eq_take_append_cons_drop,if_pos hk']
  simp only[List.map_append,List.map_cons]
  exact Bk.join_set h hn e hnew
 ·
  have h':=h
  rw[split_at hk'] at h'
  simp only[toB,List.map_append,List.map_cons] at h'
  have:=Bk.join_keep h' hn e hnew
  rw[split_at hk']
  simp only[toB,List.map_append,List.map_cons]
  exact this
 ·
  simp only[toB,List.map_append,List.map_cons]
  have hj:IsJoin (toB A) ((toB B).take i) ((M.take k).map toE++(M.drop k).map toE):=by rw[<- List.map_append,List.take_append_drop];exact h
  refine Bk.join_ins hj hn (fun x hx=>?_) (fun x hx=>?_)
  ·
   obtain⟨y,hy,rfl⟩:=List.mem_map.1 hx
   obtain⟨j,hj,rfl⟩:=List.mem_iff_getElem.1 hy
   rw[List.length_take] at hj
   have:=h1 j (by omega)
   unfold kat at this
   rw[rat_at (by omega)] at this
   rw[List.getElem_take]
   exact this
  ·
   obtain⟨y,hy,rfl⟩:=List.mem_map.1 hx
   obtain⟨j,hj',rfl⟩:=List.mem_iff_getElem.1 hy
   rw[List.length_drop] at hj'
   have hk':k<M.length:=by omega
   have hlt:kat B i<kat M k:=by
    rcases Classical.em (kat B i<kat M k) with h | h
    ·
     exact h
    ·
     exact absurd (Bk.lt_total (h2 hk') h) (e hk')
   rw[List.getElem_drop]
   rcases Nat.eq_zero_or_pos j with hz | hp
   ·
    subst hz
    unfold kat at hlt
    rw[rat_at hk'] at hlt
    exact hlt
   ·
    have r:=h.ris
    unfold Ris at r
    rw[List.pairwise_iff_getElem] at r
    have:=r k (k+j) (by rw[toB_length];exact hk') (by rw[toB_length];omega) (by omega)
    rw[List.getElem_map,List.getElem_map] at this
    unfold kat at hlt
    rw[rat_at hk'] at hlt
    exact List.lt_trans hlt this
end Go.Proofs.YtkeapmmochpcfaaGreat.En
