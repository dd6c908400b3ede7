/- What several lists of Members come to, as books do. (Written out of WhB by wip/mkWh.py.) -/
import Derived.Test.YtgbnkkjjgodilaaGreatDoorBun10
import Derived.Test.YtgbnkkjjgodilaaGreatDoorBun21
import Derived.Test.YtgbnkkjjgodilaaGreatDoorBun13
import Derived.Test.YtgbnkkjjgodilaaGreatDoorBun6
import Derived.Test.YtgbnkkjjgodilaaGreatDoorBun11
import Derived.Test.YtgbnkkjjgodilaaGreatDoorBun16
import Derived.Test.YtgbnkkjjgodilaaGreatDoorBun17
import Derived.Test.YtgbnkkjjgodilaaGreatDoorQuiet
set_option maxRecDepth 100000
set_option maxHeartbeats 32000000
set_option linter.unusedVariables false
namespace Go.Proofs.YtgbnkkjjgodilaaGreatDoor.Mk
def whole (G : List (List En)) : List En:=G.foldl mergeE []
def AllRis (G : List (List En)) : Prop:=∀ b ∈ G,Ris b
theorem pick_or (x y : Option En) : pickE x y = x ∨ pickE x y = y:=by
 cases x with
 | none=>exact .inr rfl
 | some a =>
  cases y with
  | none=>exact .inl rfl
  | some b =>
   show some _ = some a ∨ some _ = some b
   cases newB b a
   ·
    exact .inl rfl
   ·
    exact .inr rfl
theorem merge_ris {A B : List En} (hA : Ris A) (hB : Ris B) : Ris (mergeE A B):=(merge_join A B hA hB).ris
theorem merge_look {A B : List En} (hA : Ris A) (hB : Ris B) (k : Int) : look (mergeE A B) k = pickE (look A k) (look B k):=(merge_join A B hA hB).at' k
structure Top (k : Int) (G : List (List En)) (m : Option En) : Prop where
 key : KeyAt k m
 ub : ∀ b ∈ G,pickE (look b k) m = m
 mem : m = none ∨ ∃ b ∈ G,look b k = m
theorem Top.none_of {k : Int} {G : List (List En)} (h : Top k G none) {b : List En} (hb : b ∈ G) : look b k = none:=by
 have:=h.ub b hb
 rw [pick_none_right] at this
 exact this
theorem Top.unique {k : Int} {G : List (List En)} {m m' : Option En} (h : Top k G m) (h' : Top k G m') : m = m':=by
 rcases h.mem with e | ⟨b,hb,e⟩
 ·
  subst e
  rcases h'.mem with e' | ⟨b',hb',e'⟩
  ·
   exact e'.symm
  ·
   rw [← e',h.none_of hb']
 ·
  rcases h'.mem with e' | ⟨b',hb',e'⟩
  ·
   subst e'
   rw [← e,h'.none_of hb]
  ·
   have h1:=h'.ub b hb
   have h2:=h.ub b' hb'
   rw [e] at h1
   rw [e'] at h2
   rw [← h2,← pick_comm h.key h'.key,h1]
theorem pick_absorb {k : Int} {x y m : Option En} (hx : KeyAt k x) (hy : KeyAt k y) (hm : KeyAt k m) (h : pickE (pickE x y) m = m) : pickE x m = m ∧ pickE y m = m:=by
 constructor
 ·
  have e:=h
  rw [pick_assoc hx hy hm] at e
  rw [← e,← pick_assoc hx hx (pick_at hy hm),pick_self]
 ·
  have e:=h
  rw [pick_comm hx hy,pick_assoc hy hx hm] at e
  rw [← e,← pick_assoc hy hy (pick_at hx hm),pick_self]
theorem fold_ris : ∀ (G : List (List En)) (A : List En),Ris A → AllRis G → Ris (G.foldl mergeE A)
 | [],A,hA,_=>hA
 | b :: G,A,hA,hG=>fold_ris G (mergeE A b) (merge_ris hA (hG b (List.mem_cons_self ..))) (fun c hc=>hG c (List.mem_cons_of_mem _ hc))
theorem fold_top (k : Int) : ∀ (G : List (List En)) (A : List En),Ris A → AllRis G → Top k (A :: G) (look (G.foldl mergeE A) k)
 | [],A,hA,_=>⟨look_at _ _,fun b hb=>by rw [List.mem_singleton.1 hb]; exact pick_self _,.inr ⟨A,List.mem_singleton.2 rfl,rfl⟩⟩
 | b :: G,A,hA,hG=>by
  have hb:=hG b (List.mem_cons_self ..)
  have ih:=fold_top k G (mergeE A b) (merge_ris hA hb) (fun c hc=>hG c (List.mem_cons_of_mem _ hc))
  have hu:=ih.ub _ (List.mem_cons_self ..)
  rw [merge_look hA hb] at hu
  obtain ⟨u1,u2⟩:=pick_absorb (look_at A k) (look_at b k) ih.key hu
  refine ⟨ih.key,fun c hc=>?_,?_⟩
  ·
   rcases List.mem_cons.1 hc with rfl | hc
   ·
    exact u1
   ·
    rcases List.mem_cons.1 hc with rfl | hc
    ·
     exact u2
    ·
     exact ih.ub c (List.mem_cons_of_mem _ hc)
  ·
   rcases ih.mem with e | ⟨c,hc,e⟩
   ·
    exact .inl e
   ·
    rcases List.mem_cons.1 hc with rfl | hc
    ·
     rw [merge_look hA hb] at e
     rcases pick_or (look A k) (look b k) with q | q
     ·
      exact .inr ⟨A,List.mem_cons_self ..,q.symm.trans e⟩
     ·
      exact .inr ⟨b,List.mem_cons_of_mem _ (List.mem_cons_self ..),q.symm.trans e⟩
    ·
     exact .inr ⟨c,List.mem_cons_of_mem _ (List.mem_cons_of_mem _ hc),e⟩
theorem ris_nil : Ris []:=List.Pairwise.nil
theorem whole_ris {G : List (List En)} (h : AllRis G) : Ris (whole G):=fold_ris G [] ris_nil h
theorem whole_top {G : List (List En)} (h : AllRis G) (k : Int) : Top k G (look (whole G) k):=by
 have t:=fold_top k G [] ris_nil h
 refine ⟨t.key,fun b hb=>t.ub b (List.mem_cons_of_mem _ hb),?_⟩
 rcases t.mem with e | ⟨b,hb,e⟩
 ·
  exact .inl e
 ·
  rcases List.mem_cons.1 hb with rfl | hb
  ·
   exact .inl e.symm
  ·
   exact .inr ⟨b,hb,e⟩
theorem whole_of {G : List (List En)} {W : List En} (h : AllRis G) (hW : Ris W) (t : ∀ k,Top k G (look W k)) : whole G = W :=
 ris_ext (whole_ris h) hW (fun k=>(whole_top h k).unique (t k))
theorem whole_snoc (G : List (List En)) (b : List En) : whole (G ++ [b]) = mergeE (whole G) b:=by
 unfold whole
 rw [List.foldl_append]
 rfl
theorem merge_comm {A B : List En} (hA : Ris A) (hB : Ris B) : mergeE A B = mergeE B A:=(merge_join A B hA hB).unique (merge_join B A hB hA).comm
theorem merge_of_le {A B : List En} (hA : Ris A) (hB : Ris B) (h : ∀ k,pickE (look A k) (look B k) = look B k) : mergeE A B = B :=
 (merge_join A B hA hB).unique ⟨hB,fun k=>(h k).symm⟩
theorem merge_whole {G : List (List En)} (h : AllRis G) {b : List En} (hb : b ∈ G) : mergeE b (whole G) = whole G:=merge_of_le (h b hb) (whole_ris h) (fun k=>(whole_top h k).ub b hb)
theorem whole_mem {G : List (List En)} (h : AllRis G) {e : En} (he : e ∈ whole G) : ∃ b ∈ G,e ∈ b:=by
 have hl:=look_mem (whole_ris h) he
 rcases (whole_top h e.key).mem with q | ⟨b,hb,q⟩
 ·
  rw [hl] at q; cases q
 ·
  rw [hl] at q
  exact ⟨b,hb,(look_some q).1⟩
def at0 (G : List (List En)) (i : Nat) : List En:=G.getD i []
theorem at0_mem {G : List (List En)} {i : Nat} (h : i < G.length) : at0 G i ∈ G:=by
 unfold at0
 rw [List.getD_eq_getElem?_getD,List.getElem?_eq_getElem h]
 exact List.getElem_mem h
theorem at0_get {G : List (List En)} {i : Nat} (h : i < G.length) : at0 G i = G[i]:=by
 unfold at0
 rw [List.getD_eq_getElem?_getD,List.getElem?_eq_getElem h]
 rfl
theorem at0_set {G : List (List En)} {i j : Nat} {x : List En} (h : i < G.length) : at0 (G.set i x) j = if i = j then x else at0 G j:=by
 unfold at0
 rw [List.getD_eq_getElem?_getD,List.getD_eq_getElem?_getD,List.getElem?_set]
 by_cases e : i = j
 ·
  subst e; simp [h]
 ·
  simp [e]
def tell (G : List (List En)) (f t : Nat) : List (List En):=G.set t (mergeE (at0 G t) (at0 G f))
theorem tell_length (G : List (List En)) (f t : Nat) : (tell G f t).length = G.length:=List.length_set ..
theorem tell_at {G : List (List En)} {f t i : Nat} (ht : t < G.length) : at0 (tell G f t) i = if t = i then mergeE (at0 G t) (at0 G f) else at0 G i:=at0_set ht
theorem setAll_ris {G : List (List En)} {i : Nat} {x : List En} (h : AllRis G) (hx : Ris x) : AllRis (G.set i x):=by
 intro b hb
 rcases List.mem_or_eq_of_mem_set hb with q | q
 ·
  exact h b q
 ·
  rw [q]; exact hx
theorem tell_ris {G : List (List En)} {f t : Nat} (h : AllRis G) (hf : f < G.length) (ht : t < G.length) : AllRis (tell G f t):=setAll_ris h (merge_ris (h _ (at0_mem ht)) (h _ (at0_mem hf)))
theorem tell_whole {G : List (List En)} {f t : Nat} (h : AllRis G) (hf : f < G.length) (ht : t < G.length) : whole (tell G f t) = whole G:=by
 refine whole_of (tell_ris h hf ht) (whole_ris h) (fun k=>?_)
 have T:=whole_top h k
 have rt:=h _ (at0_mem ht)
 have rf:=h _ (at0_mem hf)
 have ej:=merge_look rt rf k
 have ut:=T.ub _ (at0_mem ht)
 have uf:=T.ub _ (at0_mem hf)
 refine ⟨T.key,fun b hb=>?_,?_⟩
 ·
  rcases List.mem_or_eq_of_mem_set hb with q | q
  ·
   exact T.ub b q
  ·
   rw [q,ej,pick_assoc (look_at _ k) (look_at _ k) T.key,uf,ut]
 ·
  rcases T.mem with e | ⟨b,hb,e⟩
  ·
   exact .inl e
  ·
   obtain ⟨j,hj,rfl⟩:=List.mem_iff_getElem.1 hb
   by_cases q : t = j
   ·
    subst q
    refine .inr ⟨mergeE (at0 G t) (at0 G f),?_,?_⟩
    ·
     exact List.mem_iff_getElem.2 ⟨t,by rw [tell_length]; exact hj,by unfold tell; rw [List.getElem_set_self]⟩
    ·
     rw [ej,at0_get hj,e,pick_comm T.key (look_at _ k)]
     exact uf
   ·
    refine .inr ⟨G[j],?_,e⟩
    exact List.mem_iff_getElem.2 ⟨j,by rw [tell_length]; exact hj,by unfold tell; rw [List.getElem_set_ne q]⟩
def pass (G : List (List En)) (m : Nat) : List (List En):=(List.range m).foldl (fun G i=>tell G i (i + 1)) G
theorem pass_succ (G : List (List En)) (m : Nat) : pass G (m + 1) = tell (pass G m) m (m + 1):=by
 unfold pass
 rw [List.range_succ,List.foldl_append]
 rfl
theorem pass_length (G : List (List En)) : ∀ m,(pass G m).length = G.length
 | 0=>rfl
 | m + 1=>by rw [pass_succ,tell_length,pass_length G m]
theorem pass_ris {G : List (List En)} (h : AllRis G) : ∀ m,m < G.length → AllRis (pass G m)
 | 0,_=>h
 | m + 1,hm=>by rw [pass_succ]; exact tell_ris (pass_ris h m (by omega)) (by rw [pass_length]; omega) (by rw [pass_length]; exact hm)
theorem pass_whole {G : List (List En)} (h : AllRis G) : ∀ m,m < G.length → whole (pass G m) = whole G
 | 0,_=>rfl
 | m + 1,hm=>by rw [pass_succ,tell_whole (pass_ris h m (by omega)) (by rw [pass_length]; omega) (by rw [pass_length]; exact hm),pass_whole h m (by omega)]
theorem take_ris {G : List (List En)} (h : AllRis G) (j : Nat) : AllRis (G.take j):=fun b hb=>h b (List.mem_of_mem_take hb)
theorem take_whole {G : List (List En)} {j : Nat} (hj : j < G.length) : whole (G.take (j + 1)) = mergeE (whole (G.take j)) (at0 G j):=by
 rw [List.take_add_one,List.getElem?_eq_getElem hj,at0_get hj]
 exact whole_snoc _ _
theorem pass_at {G : List (List En)} (h : AllRis G) : ∀ m,m < G.length → ∀ j,at0 (pass G m) j = if j ≤ m then (if j < G.length then whole (G.take (j + 1)) else at0 G j) else at0 G j
 | 0,hm,j=>by
  by_cases q : j ≤ 0
  ·
   have : j = 0:=by omega
   subst this
   rw [if_pos (Nat.le_refl _),if_pos hm,take_whole hm,List.take_zero]
   exact (mergeE_nil _).symm
  ·
   rw [if_neg q]
   rfl
 | m + 1,hm,j=>by
  rw [pass_succ,tell_at (by rw [pass_length]; exact hm)]
  by_cases q : m + 1 = j
  ·
   subst q
   rw [if_pos rfl,if_pos (Nat.le_refl _),if_pos hm,pass_at h m (by omega) (m + 1),if_neg (by omega),pass_at h m (by omega) m,if_pos (Nat.le_refl _),if_pos (by omega),take_whole hm]
   exact merge_comm (h _ (at0_mem hm)) (whole_ris (take_ris h _))
  ·
   rw [if_neg q,pass_at h m (by omega) j]
   by_cases q2 : j ≤ m
   ·
    rw [if_pos q2,if_pos (show j < G.length by omega),if_pos (show j ≤ m + 1 by omega)]
   ·
    rw [if_neg q2,if_neg (show ¬ j ≤ m + 1 by omega)]
def round1 (G : List (List En)) : List (List En):=if 1 < G.length then tell (pass G (G.length - 1)) (G.length - 1) 0 else pass G (G.length - 1)
def around (G : List (List En)) : List (List En):=pass (round1 G) (G.length - 1)
theorem round1_length (G : List (List En)) : (round1 G).length = G.length:=by
 unfold round1
 split
 ·
  rw [tell_length,pass_length]
 ·
  rw [pass_length]
theorem around_length (G : List (List En)) : (around G).length = G.length:=by
 unfold around
 rw [pass_length,round1_length]
theorem round1_ris {G : List (List En)} (h : AllRis G) (hn : 0 < G.length) : AllRis (round1 G):=by
 unfold round1
 split
 ·
  exact tell_ris (pass_ris h _ (by omega)) (by rw [pass_length]; omega) (by rw [pass_length]; omega)
 ·
  exact pass_ris h _ (by omega)
theorem round1_whole {G : List (List En)} (h : AllRis G) (hn : 0 < G.length) : whole (round1 G) = whole G:=by
 unfold round1
 split
 ·
  rw [tell_whole (pass_ris h _ (by omega)) (by rw [pass_length]; omega) (by rw [pass_length]; omega),pass_whole h _ (by omega)]
 ·
  exact pass_whole h _ (by omega)
theorem round1_first {G : List (List En)} (h : AllRis G) (hn : 0 < G.length) : at0 (round1 G) 0 = whole G:=by
 have et : G.take (G.length - 1 + 1) = G:=by rw [show G.length - 1 + 1 = G.length by omega,List.take_length]
 unfold round1
 split
 ·
  rename_i h1
  rw [tell_at (by rw [pass_length]; omega),if_pos rfl,pass_at h _ (by omega),if_pos (Nat.zero_le _),if_pos hn,pass_at h _ (by omega),if_pos (Nat.le_refl _),if_pos (by omega),et,take_whole hn,List.take_zero]
  show mergeE (mergeE [] (at0 G 0)) _ = _
  rw [mergeE_nil]
  exact merge_whole h (at0_mem hn)
 ·
  rename_i h1
  have e1 : G.length = 1:=by omega
  rw [pass_at h _ (by omega),if_pos (Nat.zero_le _),if_pos hn]
  rw [show G.length - 1 = 0 by omega] at et
  rw [et]
theorem around_at {G : List (List En)} (h : AllRis G) {j : Nat} (hj : j < G.length) : at0 (around G) j = whole G:=by
 have hn : 0 < G.length:=by omega
 have h1:=round1_ris h hn
 unfold around
 rw [pass_at h1 _ (by rw [round1_length]; omega),if_pos (by omega),if_pos (by rw [round1_length]; exact hj)]
 refine whole_of (take_ris h1 _) (whole_ris h) (fun k=>?_)
 have T:=whole_top h1 k
 rw [round1_whole h hn] at T
 refine ⟨T.key,fun b hb=>T.ub b (List.mem_of_mem_take hb),.inr ⟨at0 (round1 G) 0,?_,by rw [round1_first h hn]⟩⟩
 rw [at0_get (by rw [round1_length]; exact hn)]
 exact List.mem_iff_getElem.2 ⟨0,by rw [List.length_take,round1_length]; omega,List.getElem_take⟩
theorem around_eq {G : List (List En)} (h : AllRis G) : around G = List.replicate G.length (whole G):=by
 refine List.ext_getElem (by rw [around_length,List.length_replicate]) (fun j h1 h2=>?_)
 rw [List.getElem_replicate,← at0_get h1]
 rw [around_length] at h1
 exact around_at h h1
end Go.Proofs.YtgbnkkjjgodilaaGreatDoor.Mk
namespace Go.Proofs.YtgbnkkjjgodilaaGreatDoor.Rp
open Go.ChangeShapes Go.WideShapes Go.ChangeAt Go.RowKit
open Vv (Sl sv hidIt)
open Rg (upd waits wp_region_inv op_at)
def bks (L : List Rep) : List (List Bk.En):=L.map fun r=>En.toB r.1
def mbs (L : List Rep) : List (List Mk.En):=L.map fun r=>Mm.toB r.2
theorem bks_take {L : List Rep} {i : Nat} (h : i < L.length) : (bks L).take (i + 1) = (bks L).take i ++ [En.toB (rat L i).1]:=by
 unfold bks
 rw [← List.map_take,← List.map_take,take_rat h,List.map_append]
 rfl
theorem mbs_take {L : List Rep} {i : Nat} (h : i < L.length) : (mbs L).take (i + 1) = (mbs L).take i ++ [Mm.toB (rat L i).2]:=by
 unfold mbs
 rw [← List.map_take,← List.map_take,take_rat h,List.map_append]
 rfl
structure Tame (L : List Rep) : Prop where
 n : L.length ≤ 6
 bl : ∀ i,i < L.length → (rat L i).1.length ≤ 80
 ml : ∀ i,i < L.length → (rat L i).2.length ≤ 8
 br : ∀ i,i < L.length → Bk.Ris (En.toB (rat L i).1)
 mr : ∀ i,i < L.length → Mk.Ris (Mm.toB (rat L i).2)
theorem Tame.bris {L : List Rep} (h : Tame L) : Bk.AllRis (bks L):=by
 intro b hb
 obtain ⟨r,hr,rfl⟩:=List.mem_map.1 hb
 obtain ⟨i,hi,rfl⟩:=List.mem_iff_getElem.1 hr
 have:=h.br i hi
 rw [rat_at hi] at this
 exact this
theorem Tame.mris {L : List Rep} (h : Tame L) : Mk.AllRis (mbs L):=by
 intro b hb
 obtain ⟨r,hr,rfl⟩:=List.mem_map.1 hb
 obtain ⟨i,hi,rfl⟩:=List.mem_iff_getElem.1 hr
 have:=h.mr i hi
 rw [rat_at hi] at this
 exact this
def WhoP (L : List Rep) (w : World) (e : Ending) (w' : World) : Prop:=∃ J : Rep,TwoP w J e w' ∧ En.toB J.1 = Bk.whole (bks L) ∧ Mm.toB J.2 = Mk.whole (mbs L)
theorem WhoP.of {L : List Rep} {w w' : World} {e : Ending} (J : Rep) (h : TwoP w J e w') (h1 : En.toB J.1 = Bk.whole (bks L)) (h2 : Mm.toB J.2 = Mk.whole (mbs L)) : WhoP L w e w':=⟨J,h,h1,h2⟩
theorem WhoP.out {L : List Rep} {w w' : World} {e : Ending} (h : WhoP L w e w') : ∃ J : Rep,TwoP w J e w' ∧ En.toB J.1 = Bk.whole (bks L) ∧ Mm.toB J.2 = Mk.whole (mbs L):=h
def CPBw (go b off i m cap o1 o2 b1 b2 : Nat) (oa ba : Option Addr) (A B : List En.Rw) (w0 : World) (W : World) (v : Value) : Prop:=∃ (s : Sl) (J : List En.Rw),v = sv s ∧ En.Own W w0.heap.size (sv s) J ∧ Bk.IsJoin (En.toB A) (En.toB B) (En.toB J) ∧ J.length ≤ o1 + b1 ∧ Below w0.heap.size w0 W
theorem CPBw.of {go b off i m cap o1 o2 b1 b2 : Nat} {oa ba : Option Addr} {A B : List En.Rw} {w0 : World} {W : World} {v : Value} {J : List En.Rw} (h : En.Own W w0.heap.size v J) (j : Bk.IsJoin (En.toB A) (En.toB B) (En.toB J)) (l : J.length ≤ o1 + b1) (k : Below w0.heap.size w0 W) : CPBw go b off i m cap o1 o2 b1 b2 oa ba A B w0 W v:=by
 obtain ⟨a,c,e,_⟩:=h.form
 subst e
 exact ⟨(a,J.length,c),J,rfl,h,j,l,k⟩
def SPBw (go b off i m cap o1 o2 b1 b2 : Nat) (oa ba : Option Addr) (A B : List En.Rw) (w0 : World) (W : World) : Prop:=∃ (W1 : World) (s : Sl) (J : List En.Rw),W = W1.setCell ⟨go,0,none⟩ (sv s) ∧ En.Own W1 w0.heap.size (sv s) J ∧ Bk.IsJoin (En.toB A) (En.toB B) (En.toB J) ∧ J.length ≤ o1 + b1 ∧ Below w0.heap.size w0 W1
structure RK_Bw (go b off i m cap o1 o2 b1 b2 : Nat) (oa ba : Option Addr) (A B : List En.Rw) (w0 : World) (W0 : World) (L : Nat → Bool) (u12 u13 u14 u15 u16 u17 u18 u19 u20 : Value) (W : World) : Prop where
 st0 : L 7 = false → W = W0
 st1 : L 7 = true → L 9 = false → CPBw go b off i m cap o1 o2 b1 b2 oa ba A B w0 W u19
 st2 : L 9 = true → SPBw go b off i m cap o1 o2 b1 b2 oa ba A B w0 W
 dep : L 7 = true → L 1 = true ∧ L 6 = true
 dps : L 9 = true → L 7 = true
 k0 : L 0 = true → u12 = .pointer (some ⟨go,0,none⟩)
 k1 : L 1 = true → u13 = .slice oa o1 o2
 k2 : L 2 = true → u14 = .slice (some ⟨b,off,none⟩) m cap
 k3 : L 3 = true → u15 = .int .i64 i
 k4 : L 4 = true → u16 = .pointer (some ⟨b,off + i * 2,none⟩)
 k5 : L 5 = true → u17 = .pointer (some ⟨b,off + i * 2,none⟩)
 k6 : L 6 = true → u18 = .slice ba b1 b2
 k8 : L 8 = true → u20 = .pointer (some ⟨go,0,none⟩)
def KK_Bw (go b off i m cap o1 o2 b1 b2 : Nat) (oa ba : Option Addr) (A B : List En.Rw) (w0 : World) (W0 : World) (y0 y1 y2 y3 y4 y5 y6 y7 y8 y9 y10 y11 y21 y22 y23 y24 y25 y26 y27 y28 y29 y30 : Value) (L : Nat → Bool) (a : Act) (W : World) : Prop:=∃ u12 u13 u14 u15 u16 u17 u18 u19 u20 : Value,a = ⟨(y0 :: y1 :: y2 :: y3 :: y4 :: y5 :: y6 :: y7 :: y8 :: y9 :: y10 :: y11 :: u12 :: u13 :: u14 :: u15 :: u16 :: u17 :: u18 :: u19 :: u20 :: y21 :: y22 :: y23 :: y24 :: y25 :: y26 :: y27 :: y28 :: y29 :: y30 :: []).toArray,[]⟩ ∧ RK_Bw go b off i m cap o1 o2 b1 b2 oa ba A B w0 W0 L u12 u13 u14 u15 u16 u17 u18 u19 u20 W
def CPMw (go b off i m cap o1 o2 b1 b2 : Nat) (oa ba : Option Addr) (A B : List Mm.Rw) (w0 : World) (W : World) (v : Value) : Prop:=∃ (s : Sl) (J : List Mm.Rw),v = sv s ∧ Mm.Own W w0.heap.size (sv s) J ∧ Mk.IsJoin (Mm.toB A) (Mm.toB B) (Mm.toB J) ∧ J.length ≤ o1 + b1 ∧ Below w0.heap.size w0 W
theorem CPMw.of {go b off i m cap o1 o2 b1 b2 : Nat} {oa ba : Option Addr} {A B : List Mm.Rw} {w0 : World} {W : World} {v : Value} {J : List Mm.Rw} (h : Mm.Own W w0.heap.size v J) (j : Mk.IsJoin (Mm.toB A) (Mm.toB B) (Mm.toB J)) (l : J.length ≤ o1 + b1) (k : Below w0.heap.size w0 W) : CPMw go b off i m cap o1 o2 b1 b2 oa ba A B w0 W v:=by
 obtain ⟨a,c,e,_⟩:=h.form
 subst e
 exact ⟨(a,J.length,c),J,rfl,h,j,l,k⟩
def SPMw (go b off i m cap o1 o2 b1 b2 : Nat) (oa ba : Option Addr) (A B : List Mm.Rw) (w0 : World) (W : World) : Prop:=∃ (W1 : World) (s : Sl) (J : List Mm.Rw),W = W1.setCell ⟨go,1,none⟩ (sv s) ∧ Mm.Own W1 w0.heap.size (sv s) J ∧ Mk.IsJoin (Mm.toB A) (Mm.toB B) (Mm.toB J) ∧ J.length ≤ o1 + b1 ∧ Below w0.heap.size w0 W1
structure RK_Mw (go b off i m cap o1 o2 b1 b2 : Nat) (oa ba : Option Addr) (A B : List Mm.Rw) (w0 : World) (W0 : World) (L : Nat → Bool) (u21 u22 u23 u24 u25 u26 u27 u28 u29 : Value) (W : World) : Prop where
 st0 : L 7 = false → W = W0
 st1 : L 7 = true → L 9 = false → CPMw go b off i m cap o1 o2 b1 b2 oa ba A B w0 W u28
 st2 : L 9 = true → SPMw go b off i m cap o1 o2 b1 b2 oa ba A B w0 W
 dep : L 7 = true → L 1 = true ∧ L 6 = true
 dps : L 9 = true → L 7 = true
 k0 : L 0 = true → u21 = .pointer (some ⟨go,1,none⟩)
 k1 : L 1 = true → u22 = .slice oa o1 o2
 k2 : L 2 = true → u23 = .slice (some ⟨b,off,none⟩) m cap
 k3 : L 3 = true → u24 = .int .i64 i
 k4 : L 4 = true → u25 = .pointer (some ⟨b,off + i * 2,none⟩)
 k5 : L 5 = true → u26 = .pointer (some ⟨b,off + i * 2 + 1,none⟩)
 k6 : L 6 = true → u27 = .slice ba b1 b2
 k8 : L 8 = true → u29 = .pointer (some ⟨go,1,none⟩)
def KK_Mw (go b off i m cap o1 o2 b1 b2 : Nat) (oa ba : Option Addr) (A B : List Mm.Rw) (w0 : World) (W0 : World) (y0 y1 y2 y3 y4 y5 y6 y7 y8 y9 y10 y11 y12 y13 y14 y15 y16 y17 y18 y19 y20 y30 : Value) (L : Nat → Bool) (a : Act) (W : World) : Prop:=∃ u21 u22 u23 u24 u25 u26 u27 u28 u29 : Value,a = ⟨(y0 :: y1 :: y2 :: y3 :: y4 :: y5 :: y6 :: y7 :: y8 :: y9 :: y10 :: y11 :: y12 :: y13 :: y14 :: y15 :: y16 :: y17 :: y18 :: y19 :: y20 :: u21 :: u22 :: u23 :: u24 :: u25 :: u26 :: u27 :: u28 :: u29 :: y30 :: []).toArray,[]⟩ ∧ RK_Mw go b off i m cap o1 o2 b1 b2 oa ba A B w0 W0 L u21 u22 u23 u24 u25 u26 u27 u28 u29 W
theorem spec_l13Whole (a : Option Addr) (cap : Nat) (L : List Rep) (w : World) (h : Rd w a L) (hT : Tame L) :
  Calls Tryz.prog 44 #[.slice a L.length cap] w fun e w'=>WhoP L w e w':=by
 have HBT:=hidIt (fun i (hi : i < L.length)=>bks_take hi)
 have HMT:=hidIt (fun i (hi : i < L.length)=>mbs_take hi)
 have HBE : Hid ((bks L).take L.length = bks L):=hidIt (by rw [show L.length = (bks L).length by simp [bks],List.take_length])
 have HME : Hid ((mbs L).take L.length = mbs L):=hidIt (by rw [show L.length = (mbs L).length by simp [mbs],List.take_length])
 have HBR:=hidIt hT.bris
 have HMR:=hidIt hT.mris
 have HTT:=hidIt hT
 have hm6:=hT.n
 have HR:=hidIt h
 clear h hT
 generalize hn : L.length = m at *
 have HN:=hidIt hn
 clear hn
 have BR:=hidIt ((Bo.Box.new w #[.slice none 0 0,.slice none 0 0] 43).alloc (.cells #[.slice none 0 0,.slice none 0 0] 43))
 have BO : Hid (Bo.Box ((w.alloc (.cells #[.slice none 0 0,.slice none 0 0] 43)).alloc (.cells #[.slice none 0 0,.slice none 0 0] 43)) (w.heap.size + 1) #[.slice none 0 0,.slice none 0 0]):=hidIt (Bo.Box.newAt (by simp))
 have HB0:=hidIt (((Below.refl w.heap.size w).alloc (Nat.le_refl _) (.cells #[.slice none 0 0,.slice none 0 0] 43)).alloc (by simp) (.cells #[.slice none 0 0,.slice none 0 0] 43))
 go_enter Tryz.func44,Tryz.ntmps44
 go_wp2_with (fail)
 go_loopw [4] (fun y wx=>∃ (i : Nat) (s t : Sl) (J : Rep),y = .int .i64 i ∧ i ≤ m ∧ J.1.length ≤ 80 * i ∧ J.2.length ≤ 8 * i ∧ Hid (Bo.Box wx (w.heap.size + 1) #[sv s,sv t]) ∧ Hid (Bo.Box wx w.heap.size #[.slice none 0 0,.slice none 0 0]) ∧ Hid (En.Own wx (w.heap.size + 2) (sv s) J.1) ∧ Hid (Mm.Own wx (w.heap.size + 2) (sv t) J.2) ∧ Hid (En.toB J.1 = Bk.whole ((bks L).take i)) ∧ Hid (Mm.toB J.2 = Mk.whole ((mbs L).take i)) ∧ Hid (Below w.heap.size w wx)) (fun y _=>(m - intOf y).toNat)
 case atStart=>exact ⟨0,(none,0,0),(none,0,0),([],[]),rfl,by omega,by simp,by simp,BO,BR,hidIt (En.Own.ofNil _ _),hidIt (Mm.Own.ofNil _ _),hidIt rfl,hidIt rfl,HB0⟩
 case round =>
  obtain ⟨i,s,t,J,rfl,hi,hl1,hl2,BO',BR',OE,OM,EB,EM,HB⟩:=hrel
  clear BO BR HB0
  by_cases hin : i < m
  ·
   have hin' : (i : Int) < (m : Int):=by omega
   have hi0 : (0 : Int) ≤ (i : Int):=by omega
   have hiL : i < L.length:=by rw [HN.out]; exact hin
   obtain ⟨b,off,p,q,ea,c0w,c1w,rEw,rMw⟩:=HR.out.one (i:=i) hiL
   subst ea
   have hbw : b < w.heap.size:=World.block_lt_of_cell? _ _ c0w
   have HRc:=hidIt (fun W (k : Below w.heap.size w W)=>show W.cell? ⟨b,off + i * 2 + 1,none⟩ = some (sv q) by rw [k.cell hbw]; exact c1w)
   have HR4:=hidIt (fun W (k : Below w.heap.size w W)=>(rMw.kept k).rd)
   have c0 : wr.cell? ⟨b,off + i * 2,none⟩ = some (sv p):=by rw [HB.out.cell hbw]; exact c0w
   have c1:=HRc.out wr HB.out
   have rE:=rEw.kept HB.out
   have rM:=rMw.kept HB.out
   clear c0w c1w rEw rMw
   have rs:=rdE_of OE.out
   have rt:=rdM_of OM.out
   have hb80:=HTT.out.bl i hiL
   have hm8:=HTT.out.ml i hiL
   have Ri1 : Bk.Ris (En.toB J.1):=by rw [EB.out]; exact Bk.whole_ris (Bk.take_ris HBR.out _)
   have Ri2 : Mk.Ris (Mm.toB J.2):=by rw [EM.out]; exact Mk.whole_ris (Mk.take_ris HMR.out _)
   have HJ1:=hidIt (fun K (j : Bk.IsJoin (En.toB J.1) (En.toB (rat L i).1) K)=>show K = Bk.whole ((bks L).take (i + 1)) by
    rw [HBT.out i hin,Bk.whole_snoc,← EB.out]
    exact j.unique (Bk.merge_join _ _ Ri1 (HTT.out.br i hiL)))
   have HJ2:=hidIt (fun K (j : Mk.IsJoin (Mm.toB J.2) (Mm.toB (rat L i).2) K)=>show K = Mk.whole ((mbs L).take (i + 1)) by
    rw [HMT.out i hin,Mk.whole_snoc,← EM.out]
    exact j.unique (Mk.merge_join _ _ Ri2 (HTT.out.mr i hiL)))
   obtain ⟨s0,s1,s2⟩:=s
   obtain ⟨t0,t1,t2⟩:=t
   obtain ⟨p0,p1,p2⟩:=p
   obtain ⟨q0,q1,q2⟩:=q
   obtain ⟨e1,r1,n1,_,_⟩:=rs
   obtain ⟨e2,r2,n2,_,_⟩:=rt
   obtain ⟨e3,r3,n3,_,_⟩:=rE
   obtain ⟨e4,r4,n4,_,_⟩:=rM
   simp only at e1 r1 n1 e2 r2 n2 e3 r3 n3 e4 r4 n4
   simp only [sv] at c0 c1 BO' OE OM HRc HR4
   have C1:=hidIt (fun W (k : En.Rd W s0 J.1) (k' : En.Rd W p0 (rat L i).1)=>En.spec_l11Join s0 p0 s2 p2 J.1 (rat L i).1 W k k' n1 Ri1 (HTT.out.br i hiL) (by omega))
   have C2:=hidIt (fun W (k : Mm.Rd W t0 J.2) (k' : Mm.Rd W q0 (rat L i).2)=>Mm.spec_l12Merge t0 q0 t2 q2 J.2 (rat L i).2 W k k' n2 Ri2 (HTT.out.mr i hiL) (by omega))
   rw [← e1,← e3] at C1
   rw [← e2,← e4] at C2
   have hgo : w.heap.size + 1 < wr.heap.size:=BO'.out.lt
   have H1:=hidIt r1
   have H2:=hidIt r2
   have H3:=hidIt r3
   have H4:=hidIt r4
   have HE1:=hidIt e1
   have HE2:=hidIt e2
   have HE3:=hidIt e3
   have HE4:=hidIt e4
   clear r1 r2 r3 r4 n1 n2 n3 n4 e1 e2 e3 e4 Ri1 Ri2
   have K0 : wr.drew.cell? ⟨w.heap.size + 1,0,none⟩ = some (.slice s0 s1 s2):=BO'.out.c 0 rfl
   have K1 : wr.drew.cell? ⟨b,off + i * 2,none⟩ = some (.slice p0 p1 p2):=c0
   have Kz : wr.drew.frozen? ⟨w.heap.size + 1,0,none⟩ = false:=BO'.out.fr 0
   have Kg : w.heap.size + 1 < wr.drew.heap.size:=hgo
   have HC:=hidIt (C1.out wr.drew H1.out.drew H3.out.drew)
   go_wp2_with (fail)
   refine wp_region_inv (by kernel_rfl) (by kernel_rfl) (KK_Bw (w.heap.size + 1) b off i m cap s1 s2 p1 p2 s0 p0 J.1 (rat L i).1 wr.drew (wr.drew) _ _ _ _ _ _ _ _ _ _ _ _ _ _ _ _ _ _ _ _ _ _) ⟨_,_,_,_,_,_,_,_,_,rfl,⟨fun _=>rfl,(fun q=>by cases q),(fun q=>by cases q),(fun q=>by cases q),(fun q=>by cases q),(fun q=>by cases q),(fun q=>by cases q),(fun q=>by cases q),(fun q=>by cases q),(fun q=>by cases q),(fun q=>by cases q),(fun q=>by cases q),(fun q=>by cases q)⟩⟩ ?_ ?_
   case refine_1 =>
    have c0:=K0
    have c1:=K1
    have z:=Kz
    have hgo:=Kg
    clear K0 K1 Kz Kg
    generalize wr.drew = W0 at c0 c1 z hgo HC ⊢
    intro Lb a' W i hi hI hL hD
    have hcases : i = 0 ∨ i = 1 ∨ i = 2 ∨ i = 3 ∨ i = 4 ∨ i = 5 ∨ i = 6 ∨ i = 7 ∨ i = 8 ∨ i = 9:=by simp at hi; omega
    clear hi
    obtain ⟨u12,u13,u14,u15,u16,u17,u18,u19,u20,rfl,R⟩:=hI
    rcases hcases with rfl | rfl | rfl | rfl | rfl | rfl | rfl | rfl | rfl | rfl
    ·
     skip
     refine op_at rfl (fun K hK=>?_)
     go_simp
     refine hK _ _ ?_
     exact ⟨_,_,_,_,_,_,_,_,_,rfl,R.st0,R.st1,R.st2,R.dep,R.dps,(fun _=>rfl),R.k1,R.k2,R.k3,R.k4,R.k5,R.k6,R.k8⟩
    ·
     skip
     have e0:=R.k0 (hD 0 (by kernel_rfl))
     subst e0
     have hc : Lb 7 = false:=by
      cases q : Lb 7 with
      | false=>rfl
      | true=>have z:=R.dep q; simp [hL] at z
     have eW:=R.st0 hc
     subst eW
     refine op_at rfl (fun K hK=>?_)
     go_simp
     refine hK _ _ ?_
     exact ⟨_,_,_,_,_,_,_,_,_,rfl,R.st0,R.st1,R.st2,(fun q=>by have q2 : Lb 7 = true:=q; rw [hc] at q2; cases q2),R.dps,R.k0,(fun _=>rfl),R.k2,R.k3,R.k4,R.k5,R.k6,R.k8⟩
    ·
     skip
     refine op_at rfl (fun K hK=>?_)
     go_simp
     refine hK _ _ ?_
     exact ⟨_,_,_,_,_,_,_,_,_,rfl,R.st0,R.st1,R.st2,R.dep,R.dps,R.k0,R.k1,(fun _=>rfl),R.k3,R.k4,R.k5,R.k6,R.k8⟩
    ·
     skip
     refine op_at rfl (fun K hK=>?_)
     go_simp
     refine hK _ _ ?_
     exact ⟨_,_,_,_,_,_,_,_,_,rfl,R.st0,R.st1,R.st2,R.dep,R.dps,R.k0,R.k1,R.k2,(fun _=>rfl),R.k4,R.k5,R.k6,R.k8⟩
    ·
     skip
     have e2:=R.k2 (hD 2 (by kernel_rfl))
     subst e2
     have e3:=R.k3 (hD 3 (by kernel_rfl))
     subst e3
     refine op_at rfl (fun K hK=>?_)
     go_simp
     refine hK _ _ ?_
     exact ⟨_,_,_,_,_,_,_,_,_,rfl,R.st0,R.st1,R.st2,R.dep,R.dps,R.k0,R.k1,R.k2,R.k3,(fun _=>rfl),R.k5,R.k6,R.k8⟩
    ·
     skip
     have e4:=R.k4 (hD 4 (by kernel_rfl))
     subst e4
     refine op_at rfl (fun K hK=>?_)
     go_simp
     refine hK _ _ ?_
     exact ⟨_,_,_,_,_,_,_,_,_,rfl,R.st0,R.st1,R.st2,R.dep,R.dps,R.k0,R.k1,R.k2,R.k3,R.k4,(fun _=>rfl),R.k6,R.k8⟩
    ·
     skip
     have e5:=R.k5 (hD 5 (by kernel_rfl))
     subst e5
     have hc : Lb 7 = false:=by
      cases q : Lb 7 with
      | false=>rfl
      | true=>have z:=R.dep q; simp [hL] at z
     have eW:=R.st0 hc
     subst eW
     refine op_at rfl (fun K hK=>?_)
     go_simp
     refine hK _ _ ?_
     exact ⟨_,_,_,_,_,_,_,_,_,rfl,R.st0,R.st1,R.st2,(fun q=>by have q2 : Lb 7 = true:=q; rw [hc] at q2; cases q2),R.dps,R.k0,R.k1,R.k2,R.k3,R.k4,R.k5,(fun _=>rfl),R.k8⟩
    ·
     skip
     have e1:=R.k1 (hD 1 (by kernel_rfl))
     subst e1
     have e6:=R.k6 (hD 6 (by kernel_rfl))
     subst e6
     have eW:=R.st0 hL
     subst eW
     refine op_at rfl (fun K hK=>?_)
     go_simp
     refine (HC.out).mono ?_
     rintro e W1 ⟨v,J,rfl,_,o1',j1,l1,k1⟩
     go_simp
     refine hK _ _ ?_
     exact ⟨_,_,_,_,_,_,_,_,_,rfl,(fun q=>by cases q),(fun _ _=>CPBw.of o1' j1 l1 k1),(fun q=>by have q2:=R.dps q; rw [hL] at q2; cases q2),(fun _=>⟨hD 1 (by kernel_rfl),hD 6 (by kernel_rfl)⟩),(fun _=>rfl),R.k0,R.k1,R.k2,R.k3,R.k4,R.k5,R.k6,R.k8⟩
    ·
     skip
     refine op_at rfl (fun K hK=>?_)
     go_simp
     refine hK _ _ ?_
     exact ⟨_,_,_,_,_,_,_,_,_,rfl,R.st0,R.st1,R.st2,R.dep,R.dps,R.k0,R.k1,R.k2,R.k3,R.k4,R.k5,R.k6,(fun _=>rfl)⟩
    ·
     skip
     have e8:=R.k8 (hD 8 (by kernel_rfl))
     subst e8
     have hcc:=hD 7 (by kernel_rfl)
     have hc:=R.st1 hcc hL
     obtain ⟨⟨z0,z1,z2⟩,J,rfl,hO,hj,hl,hb⟩:=hc
     have g0 : W.cell? ⟨w.heap.size + 1,0,none⟩ = some (.slice s0 s1 s2):=by rw [hb.cell hgo]; exact c0
     have g1 : W.frozen? ⟨w.heap.size + 1,0,none⟩ = false:=by rw [hb.frozen hgo]; exact z
     simp only [sv] at hO
     refine op_at rfl (fun K hK=>?_)
     go_simp
     refine hK _ _ ?_
     exact ⟨_,_,_,_,_,_,_,_,_,rfl,(fun q=>by have q2 : Lb 7 = false:=q; rw [hcc] at q2; cases q2),(fun _ q=>by cases q),(fun _=>⟨W,(z0,z1,z2),J,rfl,hO,hj,hl,hb⟩),R.dep,(fun _=>hcc),R.k0,R.k1,R.k2,R.k3,R.k4,R.k5,R.k6,R.k8⟩
   case refine_2 =>
    intro Lb a' W hI hall
    obtain ⟨u12,u13,u14,u15,u16,u17,u18,u19,u20,rfl,R⟩:=hI
    have hS:=R.st2 (hall 9)
    clear R hall
    obtain ⟨W1,⟨z0,z1,z2⟩,K,rfl,oK,jK,lK,kK⟩:=hS
    have kk : Below wr.heap.size wr W1:=⟨kK.os,kK.tape,kK.output,kK.size,kK.block⟩
    have eK:=HJ1.out _ jK
    have HEK:=hidIt eK
    have OK1:=hidIt (show En.Own W1 wr.heap.size (.slice z0 z1 z2) K from oK)
    have Y:=hidIt ((Only.refl (w.heap.size + 1) W1).setCell 0 (.slice z0 z1 z2))
    have OK2:=hidIt (OK1.out.only Y.out (.inl hgo))
    have OM2:=hidIt ((OM.out.kept kk).only Y.out (.inl (by omega)))
    have BO2:=hidIt ((BO'.out.kept kk).put (c':=#[.slice z0 z1 z2,.slice t0 t1 t2]) 0 (.slice z0 z1 z2) (by simp) rfl)
    have BR2:=hidIt ((BR'.out.kept kk).other (v:=.slice z0 z1 z2) (i:=0) (show w.heap.size + 1 ≠ w.heap.size by omega))
    have HB2:=hidIt ((on HB.out kk).setCell (p:=⟨w.heap.size + 1,0,none⟩) (by show w.heap.size ≤ w.heap.size + 1; omega) (.slice z0 z1 z2))
    have OK3:=hidIt (OK2.out.mono (show w.heap.size + 2 ≤ wr.heap.size by omega))
    have lK' : K.length ≤ 80 * (i + 1):=by have:=HE1.out; have:=HE3.out; omega
    have H4':=hidIt (HR4.out _ HB2.out)
    have hc1':=HRc.out _ HB2.out
    clear HC C1 OK1 OK2 Y kK kk jK oK eK lK BO' BR' OE OM HB H1 H3 K0 K1 Kz Kg c0 c1
    generalize W1.setCell ⟨w.heap.size + 1,0,none⟩ (.slice z0 z1 z2) = wr at OM2 BO2 BR2 HB2 OK3 H4' hc1' ⊢
    have hgo : w.heap.size + 1 < wr.heap.size:=BO2.out.lt
    have HM2 : Hid (Mm.Rd wr t0 J.2):=hidIt (rdM_of (s:=(t0,t1,t2)) OM2.out).rd
    have K0 : wr.drew.cell? ⟨w.heap.size + 1,1,none⟩ = some (.slice t0 t1 t2):=BO2.out.c 1 rfl
    have K1 : wr.drew.cell? ⟨b,off + i * 2 + 1,none⟩ = some (.slice q0 q1 q2):=hc1'
    have Kz : wr.drew.frozen? ⟨w.heap.size + 1,1,none⟩ = false:=BO2.out.fr 1
    have Kg : w.heap.size + 1 < wr.drew.heap.size:=hgo
    have HC:=hidIt (C2.out wr.drew HM2.out.drew H4'.out.drew)
    go_wp2_with (fail)
    refine wp_region_inv (by kernel_rfl) (by kernel_rfl) (KK_Mw (w.heap.size + 1) b off i m cap t1 t2 q1 q2 t0 q0 J.2 (rat L i).2 wr.drew (wr.drew) _ _ _ _ _ _ _ _ _ _ _ _ _ _ _ _ _ _ _ _ _ _) ⟨_,_,_,_,_,_,_,_,_,rfl,⟨fun _=>rfl,(fun q=>by cases q),(fun q=>by cases q),(fun q=>by cases q),(fun q=>by cases q),(fun q=>by cases q),(fun q=>by cases q),(fun q=>by cases q),(fun q=>by cases q),(fun q=>by cases q),(fun q=>by cases q),(fun q=>by cases q),(fun q=>by cases q)⟩⟩ ?_ ?_
    case refine_1 =>
     have c0:=K0
     have c1:=K1
     have z:=Kz
     have hgo:=Kg
     clear K0 K1 Kz Kg
     generalize wr.drew = W0 at c0 c1 z hgo HC ⊢
     intro Lb a' W i hi hI hL hD
     have hcases : i = 0 ∨ i = 1 ∨ i = 2 ∨ i = 3 ∨ i = 4 ∨ i = 5 ∨ i = 6 ∨ i = 7 ∨ i = 8 ∨ i = 9:=by simp at hi; omega
     clear hi
     obtain ⟨u21,u22,u23,u24,u25,u26,u27,u28,u29,rfl,R⟩:=hI
     rcases hcases with rfl | rfl | rfl | rfl | rfl | rfl | rfl | rfl | rfl | rfl
     ·
      skip
      refine op_at rfl (fun K hK=>?_)
      go_simp
      refine hK _ _ ?_
      exact ⟨_,_,_,_,_,_,_,_,_,rfl,R.st0,R.st1,R.st2,R.dep,R.dps,(fun _=>rfl),R.k1,R.k2,R.k3,R.k4,R.k5,R.k6,R.k8⟩
     ·
      skip
      have e0:=R.k0 (hD 0 (by kernel_rfl))
      subst e0
      have hc : Lb 7 = false:=by
       cases q : Lb 7 with
       | false=>rfl
       | true=>have z:=R.dep q; simp [hL] at z
      have eW:=R.st0 hc
      subst eW
      refine op_at rfl (fun K hK=>?_)
      go_simp
      refine hK _ _ ?_
      exact ⟨_,_,_,_,_,_,_,_,_,rfl,R.st0,R.st1,R.st2,(fun q=>by have q2 : Lb 7 = true:=q; rw [hc] at q2; cases q2),R.dps,R.k0,(fun _=>rfl),R.k2,R.k3,R.k4,R.k5,R.k6,R.k8⟩
     ·
      skip
      refine op_at rfl (fun K hK=>?_)
      go_simp
      refine hK _ _ ?_
      exact ⟨_,_,_,_,_,_,_,_,_,rfl,R.st0,R.st1,R.st2,R.dep,R.dps,R.k0,R.k1,(fun _=>rfl),R.k3,R.k4,R.k5,R.k6,R.k8⟩
     ·
      skip
      refine op_at rfl (fun K hK=>?_)
      go_simp
      refine hK _ _ ?_
      exact ⟨_,_,_,_,_,_,_,_,_,rfl,R.st0,R.st1,R.st2,R.dep,R.dps,R.k0,R.k1,R.k2,(fun _=>rfl),R.k4,R.k5,R.k6,R.k8⟩
     ·
      skip
      have e2:=R.k2 (hD 2 (by kernel_rfl))
      subst e2
      have e3:=R.k3 (hD 3 (by kernel_rfl))
      subst e3
      refine op_at rfl (fun K hK=>?_)
      go_simp
      refine hK _ _ ?_
      exact ⟨_,_,_,_,_,_,_,_,_,rfl,R.st0,R.st1,R.st2,R.dep,R.dps,R.k0,R.k1,R.k2,R.k3,(fun _=>rfl),R.k5,R.k6,R.k8⟩
     ·
      skip
      have e4:=R.k4 (hD 4 (by kernel_rfl))
      subst e4
      refine op_at rfl (fun K hK=>?_)
      go_simp
      refine hK _ _ ?_
      exact ⟨_,_,_,_,_,_,_,_,_,rfl,R.st0,R.st1,R.st2,R.dep,R.dps,R.k0,R.k1,R.k2,R.k3,R.k4,(fun _=>rfl),R.k6,R.k8⟩
     ·
      skip
      have e5:=R.k5 (hD 5 (by kernel_rfl))
      subst e5
      have hc : Lb 7 = false:=by
       cases q : Lb 7 with
       | false=>rfl
       | true=>have z:=R.dep q; simp [hL] at z
      have eW:=R.st0 hc
      subst eW
      refine op_at rfl (fun K hK=>?_)
      go_simp
      refine hK _ _ ?_
      exact ⟨_,_,_,_,_,_,_,_,_,rfl,R.st0,R.st1,R.st2,(fun q=>by have q2 : Lb 7 = true:=q; rw [hc] at q2; cases q2),R.dps,R.k0,R.k1,R.k2,R.k3,R.k4,R.k5,(fun _=>rfl),R.k8⟩
     ·
      skip
      have e1:=R.k1 (hD 1 (by kernel_rfl))
      subst e1
      have e6:=R.k6 (hD 6 (by kernel_rfl))
      subst e6
      have eW:=R.st0 hL
      subst eW
      refine op_at rfl (fun K hK=>?_)
      go_simp
      refine (HC.out).mono ?_
      rintro e W1 ⟨v,J,rfl,_,o1',j1,l1,k1⟩
      go_simp
      refine hK _ _ ?_
      exact ⟨_,_,_,_,_,_,_,_,_,rfl,(fun q=>by cases q),(fun _ _=>CPMw.of o1' j1 l1 k1),(fun q=>by have q2:=R.dps q; rw [hL] at q2; cases q2),(fun _=>⟨hD 1 (by kernel_rfl),hD 6 (by kernel_rfl)⟩),(fun _=>rfl),R.k0,R.k1,R.k2,R.k3,R.k4,R.k5,R.k6,R.k8⟩
     ·
      skip
      refine op_at rfl (fun K hK=>?_)
      go_simp
      refine hK _ _ ?_
      exact ⟨_,_,_,_,_,_,_,_,_,rfl,R.st0,R.st1,R.st2,R.dep,R.dps,R.k0,R.k1,R.k2,R.k3,R.k4,R.k5,R.k6,(fun _=>rfl)⟩
     ·
      skip
      have e8:=R.k8 (hD 8 (by kernel_rfl))
      subst e8
      have hcc:=hD 7 (by kernel_rfl)
      have hc:=R.st1 hcc hL
      obtain ⟨⟨z0,z1,z2⟩,J,rfl,hO,hj,hl,hb⟩:=hc
      have g0 : W.cell? ⟨w.heap.size + 1,1,none⟩ = some (.slice t0 t1 t2):=by rw [hb.cell hgo]; exact c0
      have g1 : W.frozen? ⟨w.heap.size + 1,1,none⟩ = false:=by rw [hb.frozen hgo]; exact z
      simp only [sv] at hO
      refine op_at rfl (fun K hK=>?_)
      go_simp
      refine hK _ _ ?_
      exact ⟨_,_,_,_,_,_,_,_,_,rfl,(fun q=>by have q2 : Lb 7 = false:=q; rw [hcc] at q2; cases q2),(fun _ q=>by cases q),(fun _=>⟨W,(z0,z1,z2),J,rfl,hO,hj,hl,hb⟩),R.dep,(fun _=>hcc),R.k0,R.k1,R.k2,R.k3,R.k4,R.k5,R.k6,R.k8⟩
    case refine_2 =>
     intro Lb a' W hI hall
     obtain ⟨u21,u22,u23,u24,u25,u26,u27,u28,u29,rfl,R⟩:=hI
     have hS:=R.st2 (hall 9)
     clear R hall
     obtain ⟨W1,⟨x0,x1,x2⟩,K2,rfl,oK,jK,lK,kK⟩:=hS
     have kk : Below wr.heap.size wr W1:=⟨kK.os,kK.tape,kK.output,kK.size,kK.block⟩
     have eK:=HJ2.out _ jK
     have HEK2:=hidIt eK
     have OK1:=hidIt (show Mm.Own W1 wr.heap.size (.slice x0 x1 x2) K2 from oK)
     have Y:=hidIt ((Only.refl (w.heap.size + 1) W1).setCell 1 (.slice x0 x1 x2))
     have OK2:=hidIt (OK1.out.only Y.out (.inl hgo))
     have OM3:=hidIt ((OK3.out.kept kk).only Y.out (.inl (by omega)))
     have BO3:=hidIt ((BO2.out.kept kk).put (c':=#[.slice z0 z1 z2,.slice x0 x1 x2]) 1 (.slice x0 x1 x2) (by simp) rfl)
     have BR3:=hidIt ((BR2.out.kept kk).other (v:=.slice x0 x1 x2) (i:=1) (show w.heap.size + 1 ≠ w.heap.size by omega))
     have HB3:=hidIt ((on HB2.out kk).setCell (p:=⟨w.heap.size + 1,1,none⟩) (by show w.heap.size ≤ w.heap.size + 1; omega) (.slice x0 x1 x2))
     have OK4:=hidIt (OK2.out.mono (show w.heap.size + 2 ≤ wr.heap.size by omega))
     have lK2' : K2.length ≤ 8 * (i + 1):=by have:=HE2.out; have:=HE4.out; omega
     clear HC C2 OK1 OK2 Y kK kk jK oK eK lK BO2 BR2 OM2 OK3 HB2 K0 K1 Kz Kg H4'
     go_wp2_with (fail)
     exact ⟨⟨i + 1,(z0,z1,z2),(x0,x1,x2),(K,K2),by simp,by omega,lK',lK2',BO3,BR3,OM3,OK4,HEK,HEK2,HB3⟩,by simp [intOf]; omega⟩
  ·
   have hin' : ¬ (i : Int) < (m : Int):=by omega
   obtain rfl : i = m:=by omega
   have EB':=EB.out
   have EM':=EM.out
   rw [HBE.out] at EB'
   rw [HME.out] at EM'
   obtain ⟨s0,s1,s2⟩:=s
   obtain ⟨t0,t1,t2⟩:=t
   simp only [sv] at BO' OE OM
   have a0:=BO'.out.c 0 (v:=.slice s0 s1 s2) rfl
   have a1:=BO'.out.c 1 (v:=.slice t0 t1 t2) rfl
   have b0:=BR'.out.c 0 (v:=.slice none 0 0) rfl
   have b1:=BR'.out.c 1 (v:=.slice none 0 0) rfl
   have g0:=BR'.out.fr 0
   have g1:=BR'.out.fr 1
   have hb0 : w.heap.size ≠ w.heap.size + 1:=by omega
   have Y:=hidIt (((Only.refl w.heap.size wr).setCell 0 (.slice s0 s1 s2)).setCell 1 (.slice t0 t1 t2))
   have OE2:=hidIt ((OE.out.only Y.out (.inl (by omega))).mono (show w.heap.size ≤ w.heap.size + 2 by omega))
   have OM2:=hidIt ((OM.out.only Y.out (.inl (by omega))).mono (show w.heap.size ≤ w.heap.size + 2 by omega))
   have HB2:=hidIt ((HB.out.setCell (p:=⟨w.heap.size,0,none⟩) (Nat.le_refl _) (.slice s0 s1 s2)).setCell (p:=⟨w.heap.size,1,none⟩) (Nat.le_refl _) (.slice t0 t1 t2))
   have RB:=hidIt ((BR'.out.put (c':=#[.slice s0 s1 s2,.slice none 0 0]) 0 (.slice s0 s1 s2) (by simp) rfl).put (c':=#[.slice s0 s1 s2,.slice t0 t1 t2]) 1 (.slice t0 t1 t2) (by simp) rfl)
   clear BO' BR' OE OM HB Y
   go_wp2_with (fail)
   generalize (wr.setCell ⟨w.heap.size,0,none⟩ (.slice s0 s1 s2)).setCell ⟨w.heap.size,1,none⟩ (.slice t0 t1 t2) = wz at OE2 OM2 HB2 RB ⊢
   have r0:=RB.out.c 0 (v:=.slice s0 s1 s2) rfl
   have r1:=RB.out.c 1 (v:=.slice t0 t1 t2) rfl
   clear a0 a1 b0 b1 g0 g1
   refine bodyPost_ret (v:=.agg #[.slice s0 s1 s2,.slice t0 t1 t2]) (by simp [results,Tryz.results44,go_sem,r0,r1]) rfl ?_
   exact WhoP.of J (TwoP.of (s:=(s0,s1,s2)) (t:=(t0,t1,t2)) rfl OE2.out OM2.out HB2.out) EB' EM'
end Go.Proofs.YtgbnkkjjgodilaaGreatDoor.Rp
namespace Go.Proofs.YtgbnkkjjgodilaaGreatDoor.Rp
open Go.ChangeShapes Go.WideShapes Go.ChangeAt Go.RowKit
open Vv (Sl sv hidIt)
def okG (L : List Rep) : Bool:=decide (1 ≤ L.length) && (decide (L.length ≤ 6) && (L.all okR && decide ((Bk.whole (bks L)).length ≤ 80)))
theorem okG_all {L : List Rep} (h : okG L = true) : 1 ≤ L.length ∧ L.length ≤ 6 ∧ (∀ i,i < L.length → okR (rat L i) = true) ∧ (Bk.whole (bks L)).length ≤ 80:=by
 unfold okG at h
 simp only [Bool.and_eq_true,decide_eq_true_eq,List.all_eq_true] at h
 exact ⟨h.1,h.2.1,fun i hi=>h.2.2.1 _ (rat_mem hi),h.2.2.2⟩
theorem okG_mk {L : List Rep} (h1 : 1 ≤ L.length) (h2 : L.length ≤ 6) (h3 : ∀ i,i < L.length → okR (rat L i) = true) (h4 : (Bk.whole (bks L)).length ≤ 80) : okG L = true:=by
 unfold okG
 simp only [Bool.and_eq_true,decide_eq_true_eq,List.all_eq_true]
 refine ⟨h1,h2,fun r hr=>?_,h4⟩
 obtain ⟨i,hi,rfl⟩:=List.mem_iff_getElem.1 hr
 have:=h3 i hi
 rw [rat_at hi] at this
 exact this
theorem tame_of {L : List Rep} (h2 : L.length ≤ 6) (h3 : ∀ i,i < L.length → okR (rat L i) = true) : Tame L:=by
 have hb : ∀ i,i < L.length → Bk.okBk (En.toB (rat L i).1) = true:=fun i hi=>by
  have:=h3 i hi
  unfold okR at this
  rw [Bool.and_eq_true] at this
  exact this.1
 have hm : ∀ i,i < L.length → Mk.okBk (Mm.toB (rat L i).2) = true:=fun i hi=>by
  have:=h3 i hi
  unfold okR at this
  rw [Bool.and_eq_true] at this
  exact this.2
 exact ⟨h2,fun i hi=>by have:=Bk.ok_len (hb i hi); rwa [List.length_map] at this,fun i hi=>by have:=Mk.ok_len (hm i hi); rwa [List.length_map] at this,fun i hi=>Bk.ok_ris (hb i hi),fun i hi=>Mk.ok_ris (hm i hi)⟩
theorem okG_tame {L : List Rep} (h : okG L = true) : Tame L:=tame_of (okG_all h).2.1 (okG_all h).2.2.1
theorem run_field0 (a d : Option Addr) (b c e f : Nat) (W : World) : (Instr.field 43 (.agg #[.slice a b c,.slice d e f]) 0).run Tryz.prog W = .ok (.slice a b c) W:=by kernel_rfl
attribute [local go_sem] run_field0
theorem spec_GroupOk (a : Option Addr) (cap : Nat) (L : List Rep) (w : World) (h : Rd w a L) (hs : Short L) (hl : L.length ≤ 9223372036854775807) (hlb : ∀ i,i < L.length → (rat L i).1.length ≤ 9223372036854775807 ∧ (rat L i).2.length ≤ 9223372036854775807) :
  Calls Tryz.prog 18 #[.slice a L.length cap] w fun e w'=>e = .returned (.bool (okG L)) ∧ Below w.heap.size w w':=by
 have N1 : Hid (¬ 1 ≤ L.length → okG L = false):=hidIt (fun q=>by cases e : okG L with | false=>rfl | true=>exact absurd (okG_all e).1 q)
 have N2 : Hid (¬ L.length ≤ 6 → okG L = false):=hidIt (fun q=>by cases e : okG L with | false=>rfl | true=>exact absurd (okG_all e).2.1 q)
 have N3 : Hid (∀ i,i < L.length → okR (rat L i) = false → okG L = false):=hidIt (fun i hi q=>by cases e : okG L with | false=>rfl | true=>exact absurd ((okG_all e).2.2.1 i hi) (by rw [q]; decide))
 have N4 : Hid (1 ≤ L.length → L.length ≤ 6 → (∀ i,i < L.length → okR (rat L i) = true) → okG L = decide ((Bk.whole (bks L)).length ≤ 80)):=hidIt (fun h1 h2 h3=>by
  by_cases q : (Bk.whole (bks L)).length ≤ 80
  ·
   rw [okG_mk h1 h2 h3 q,decide_eq_true q]
  ·
   rw [decide_eq_false q]
   cases e : okG L with
   | false=>rfl
   | true=>exact absurd (okG_all e).2.2.2 q)
 have CW:=hidIt (fun W (r : Rd W a L) (t : Tame L)=>spec_l13Whole a cap L W r t)
 have HTM:=hidIt (fun h2 h3=>tame_of (L:=L) h2 h3)
 have HR:=hidIt h
 have HS:=hidIt hs
 have HLB:=hidIt hlb
 clear h hs hlb
 generalize okG L = r at N1 N2 N3 N4 ⊢
 generalize hn : L.length = m at *
 have HN:=hidIt hn
 clear hn
 by_cases h1 : 1 ≤ m
 ·
  by_cases h6 : m ≤ 6
  ·
   have g1 : ¬ (m : Int) < 1:=by omega
   have g1' : decide ((m : Int) < 1) = false:=decide_eq_false g1
   have g2 : decide ((6 : Int) < (m : Int)) = false:=decide_eq_false (by omega)
   go_enter Tryz.func18,Tryz.ntmps18
   go_wp2_with (fail)
   go_loopw [3] (fun y wx=>∃ i : Nat,y = .int .i64 i ∧ i ≤ m ∧ Hid (∀ j,j < i → okR (rat L j) = true) ∧ Hid (Below w.heap.size w wx)) (fun y _=>(m - intOf y).toNat)
   case atStart=>exact ⟨0,rfl,by omega,hidIt (fun j hj=>by omega),hidIt (Below.refl _ _)⟩
   case round =>
    obtain ⟨i,rfl,hi,HO,HB⟩:=hrel
    by_cases hin : i < m
    ·
     have hin' : (i : Int) < (m : Int):=by omega
     have hiL : i < L.length:=by rw [HN.out]; exact hin
     obtain ⟨b,off,p,q,ea,c0,c1,rE,rM⟩:=(HR.out.kept HB.out).one (i:=i) hiL
     subst ea
     have hlb:=HLB.out i hin
     have hsi:=HS.out i hiL
     obtain ⟨p0,p1,p2⟩:=p
     obtain ⟨q0,q1,q2⟩:=q
     obtain ⟨e1,r1,_,_,_⟩:=rE
     obtain ⟨e2,r2,_,_,_⟩:=rM
     simp only at e1 r1 e2 r2
     simp only [sv] at c0 c1
     have C1:=hidIt (fun W (k : En.Rd W p0 (rat L i).1)=>En.spec_BookOk p0 p2 (rat L i).1 W k hlb.1 hsi)
     have C2:=hidIt (fun W (k : Mm.Rd W q0 (rat L i).2)=>Mm.spec_MembersOk q0 q2 (rat L i).2 W k hlb.2)
     rw [← e1] at C1
     rw [← e2] at C2
     have HOK : Hid (okR (rat L i) = (Bk.okBk (En.toB (rat L i).1) && Mk.okBk (Mm.toB (rat L i).2))):=hidIt rfl
     have H1:=hidIt r1
     have H2:=hidIt r2
     clear r1 r2 e1 e2 hlb hsi
     generalize Bk.okBk (En.toB (rat L i).1) = k1 at C1 HOK
     generalize Mk.okBk (Mm.toB (rat L i).2) = k2 at C2 HOK
     cases k1 with
     | false =>
      have er:=N3.out i hin HOK.out
      subst er
      go_wp2_with (fail)
      refine (C1.out _ H1.out).mono ?_
      rintro e w1 ⟨rfl,k⟩
      have HB1:=hidIt (on HB.out k)
      clear k
      go_wp2_with (fail)
      go_ret
      exact ⟨rfl,HB1.out⟩
     | true =>
      go_wp2_with (fail)
      refine (C1.out _ H1.out).mono ?_
      rintro e w1 ⟨rfl,k⟩
      have HB1:=hidIt (on HB.out k)
      have c1' : w1.cell? ⟨b,off + i * 2 + 1,none⟩ = some (.slice q0 q1 q2):=by rw [k.cell (by simpa using World.block_lt_of_cell? _ _ c1)]; exact c1
      have H3:=hidIt (H2.out.kept k)
      clear k c0 c1
      go_wp2_with (fail)
      refine (C2.out _ H3.out).mono ?_
      rintro e w2 ⟨rfl,k⟩
      have HB2:=hidIt (on HB1.out k)
      clear k
      cases k2 with
      | false =>
       have er:=N3.out i hin HOK.out
       subst er
       go_wp2_with (fail)
       go_ret
       exact ⟨rfl,HB2.out⟩
      | true =>
       go_wp2_with (fail)
       refine ⟨⟨i + 1,by simp,by omega,hidIt (fun j hj=>?_),HB2⟩,by simp [intOf]; omega⟩
       rcases Nat.lt_succ_iff_lt_or_eq.1 hj with q | q
       ·
        exact HO.out j q
       ·
        subst q; exact HOK.out
    ·
     have hin' : ¬ (i : Int) < (m : Int):=by omega
     obtain rfl : i = m:=by omega
     have er:=N4.out h1 h6 HO.out
     have HT:=hidIt (HTM.out h6 HO.out)
     go_wp2_with (fail)
     refine (CW.out _ (HR.out.kept HB.out) HT.out).mono ?_
     intro e w1 hz
     obtain ⟨J,hz2,e1,e2⟩:=hz.out
     obtain ⟨⟨s0,s1,s2⟩,⟨t0,t1,t2⟩,rfl,oE,oM,k⟩:=hz2.out
     have HB1:=hidIt (on HB.out k)
     have hlen : s1 = (Bk.whole (bks L)).length:=by
      have:=(rdE_of oE).len
      simp only at this
      rw [this,← e1,List.length_map]
     rw [← hlen] at er
     clear hz hz2 oE oM k e1 e2 hlen
     subst er
     have hd : decide ((s1 : Int) ≤ 80) = decide (s1 ≤ 80):=decide_eq_decide.2 (by omega)
     simp only [sv]
     go_wp2_with (fail)
     go_ret
     first | exact ⟨rfl,HB1.out⟩ | exact ⟨by rw [hd],HB1.out⟩
  ·
   have g1' : decide ((m : Int) < 1) = false:=decide_eq_false (by omega)
   have g2 : decide ((6 : Int) < (m : Int)) = true:=decide_eq_true (by omega)
   have er:=N2.out h6
   subst er
   go_enter Tryz.func18,Tryz.ntmps18
   go_wp2
   go_ret
   exact ⟨rfl,Below.refl _ _⟩
 ·
  have g1' : decide ((m : Int) < 1) = true:=decide_eq_true (by omega)
  have er:=N1.out h1
  subst er
  go_enter Tryz.func18,Tryz.ntmps18
  go_wp2
  go_ret
  exact ⟨rfl,Below.refl _ _⟩
end Go.Proofs.YtgbnkkjjgodilaaGreatDoor.Rp
namespace Go.Proofs.YtgbnkkjjgodilaaGreatDoor.Kc
open Go.ChangeShapes Go.WideShapes Go.ChangeAt Go.RowKit
open Vv (Sl sv hidIt)
open Nd (Nw RdN OwnN ShortN SmallN)
open Ns (nod)
open Rc (BelowBy wp_region_below calls_below calls_same)
theorem on {W a b : World} (h : Below W.heap.size W a) (k : Below a.heap.size a b) : Below W.heap.size W b:=h.trans (k.mono h.size)
def reps (L : List Nw) : List Rp.Rep:=L.map (fun x=>(x.book,x.mem))
theorem reps_length (L : List Nw) : (reps L).length = L.length:=by simp [reps]
theorem rat_reps {L : List Nw} {i : Nat} (h : i < L.length) : Rp.rat (reps L) i = ((nod L i).book,(nod L i).mem):=by
 rw [Rp.rat_at (by rw [reps_length]; exact h),Ns.nod_at h]
 simp [reps]
def eachB (c : Cw) (i : Nat) : Bool:=Nd.okN (nod c.nodes i) && (((nod c.nodes i).apex.toList == (nod c.nodes 0).apex.toList) && Ro.timB (Iv.iat c.clock i))
def okK (c : Cw) : Bool:=Ro.timB c.now && (decide (1 ≤ c.nodes.length) && (decide (c.nodes.length ≤ 4) && (decide (c.clock.length = c.nodes.length) && ((List.range c.nodes.length).all (eachB c) && Rp.okG (reps c.nodes)))))
theorem okK_now {c : Cw} (h : Ro.timB c.now = false) : okK c = false:=by unfold okK; rw [h]; rfl
theorem okK_lo {c : Cw} (h : ¬ 1 ≤ c.nodes.length) : okK c = false:=by unfold okK; rw [decide_eq_false h]; simp
theorem okK_hi {c : Cw} (h : ¬ c.nodes.length ≤ 4) : okK c = false:=by unfold okK; rw [decide_eq_false h]; simp
theorem okK_ck {c : Cw} (h : ¬ c.clock.length = c.nodes.length) : okK c = false:=by unfold okK; rw [decide_eq_false h]; simp
theorem okK_no {c : Cw} {i : Nat} (hi : i < c.nodes.length) (h : eachB c i = false) : okK c = false:=by
 have e : (List.range c.nodes.length).all (eachB c) = false:=by
  rw [List.all_eq_false]
  exact ⟨i,List.mem_range.2 hi,by rw [h]; decide⟩
 unfold okK
 rw [e]
 simp
theorem okK_all {c : Cw} (h0 : Ro.timB c.now = true) (h1 : 1 ≤ c.nodes.length) (h2 : c.nodes.length ≤ 4) (h3 : c.clock.length = c.nodes.length) (h4 : ∀ i,i < c.nodes.length → eachB c i = true) : okK c = Rp.okG (reps c.nodes):=by
 have e : (List.range c.nodes.length).all (eachB c) = true:=by
  rw [List.all_eq_true]
  exact fun i hi=>h4 i (List.mem_range.1 hi)
 unfold okK
 rw [h0,decide_eq_true h1,decide_eq_true h2,decide_eq_true h3,e]
 simp
theorem okK_out {c : Cw} (h : okK c = true) : Ro.timB c.now = true ∧ 1 ≤ c.nodes.length ∧ c.nodes.length ≤ 4 ∧ c.clock.length = c.nodes.length ∧ (∀ i,i < c.nodes.length → eachB c i = true) ∧ Rp.okG (reps c.nodes) = true:=by
 unfold okK at h
 simp only [Bool.and_eq_true,decide_eq_true_eq,List.all_eq_true,List.mem_range] at h
 exact h
theorem lens {w : World} {a : Option Addr} {L : List Nw} (h : Ns.Rd w a L) {i : Nat} (hi : i < L.length) : (nod L i).book.length ≤ 9223372036854775807 ∧ (nod L i).mem.length ≤ 9223372036854775807:=by
 obtain ⟨_,_,e,m,b,g,_,_,_,_,_,_,_,_,_,_,_,r⟩:=h.one hi
 exact ⟨Nat.le_trans r.e.le r.e.cap,Nat.le_trans r.m.le r.m.cap⟩
def GrpP (w : World) (L : List Nw) (en : Ending) (w' : World) : Prop:=∃ a cap,en = .returned (.slice a L.length cap) ∧ Rp.Rd w' a (reps L) ∧ Below w.heap.size w w'
theorem GrpP.of {w w' : World} {L : List Nw} {en : Ending} {a : Option Addr} {cap : Nat} (h : en = .returned (.slice a L.length cap)) (h1 : Rp.Rd w' a (reps L)) (h2 : Below w.heap.size w w') : GrpP w L en w':=⟨a,cap,h,h1,h2⟩
theorem GrpP.out {w w' : World} {L : List Nw} {en : Ending} (h : GrpP w L en w') : ∃ a cap,en = .returned (.slice a L.length cap) ∧ Rp.Rd w' a (reps L) ∧ Below w.heap.size w w':=h
theorem rd_group {w w' : World} {lo : Nat} {v : Value} {C : List Vv.Rw} {L : List Nw} {a : Option Addr} {m cap : Nat} (e : v = .slice a m cap) (hC : C.length = L.length) (o : Vv.Own w' lo v C) (k : Below w.heap.size w w') (h : ∀ j,j < L.length → Rp.RdE w (Vv.rat C j).1 (nod L j).book ∧ Rp.RdM w (Vv.rat C j).2 (nod L j).mem) : Rp.Rd w' a (reps L):=by
 obtain ⟨a',c',e',_,_,r,_⟩:=o.form
 rw [e] at e'
 obtain ⟨rfl,_,_⟩:=Value.slice.inj e'
 refine ⟨C,by rw [reps_length]; exact hC,r,fun i hi=>?_,fun i hi=>?_⟩
 all_goals rw [reps_length] at hi
 ·
  rw [rat_reps hi]
  exact (h i hi).1.kept k
 ·
  rw [rat_reps hi]
  exact (h i hi).2.kept k
theorem spec_l18Group (c : Cw) (n k : Sl) (w : World) (h : RdK w c n k) (hl : c.nodes.length ≤ 4) : Calls Tryz.prog 19 #[kv c n k] w fun en w'=>GrpP w c.nodes en w':=by
 obtain ⟨i0,hi0,hz0,hz1,hz2⟩:=info_parts Vv.infoRw
 obtain ⟨no,ns,ck⟩:=c
 obtain ⟨n0,n1,n2⟩:=n
 obtain ⟨k0,k1,k2⟩:=k
 obtain ⟨z1,rN,cN,z2,_,_⟩:=h
 simp only at z1 rN cN z2 hl ⊢
 have HR:=hidIt rN
 subst z1 z2
 clear rN cN
 generalize hm : ns.length = m at *
 have HN:=hidIt hm
 clear hm
 generalize ck.length = m2
 have BX : Hid (Bo.Box (w.alloc (.cells #[.int .i64 no,.slice n0 m n2,.slice k0 m2 k2] 30)) w.heap.size #[.int .i64 no,.slice n0 m n2,.slice k0 m2 k2]):=hidIt (Bo.Box.new w _ _)
 have HB : Hid (Below w.heap.size w (w.alloc (.cells #[.int .i64 no,.slice n0 m n2,.slice k0 m2 k2] 30))):=hidIt ((Below.refl w.heap.size w).alloc (Nat.le_refl _) _)
 simp only [kv,kc,sv]
 go_enter Tryz.func19,Tryz.ntmps19
 go_wp2_with (fail)
 have hW0 : (w.alloc (.cells #[.int .i64 no,.slice n0 m n2,.slice k0 m2 k2] 30)).heap.size = w.heap.size + 1:=by simp
 generalize w.alloc (.cells #[.int .i64 no,.slice n0 m n2,.slice k0 m2 k2] 30) = W0 at BX HB hW0 ⊢
 have HW0:=hidIt hW0
 clear hW0
 go_loopw [3,4] (fun z y wx=>∃ (i go co : Nat) (C : List Vv.Rw),y = .int .i64 i ∧ z = .slice (some ⟨go,0,none⟩) i co ∧ i ≤ m ∧ Hid (C.length = i) ∧ Hid (∀ j,j < i → Rp.RdE w (Vv.rat C j).1 (nod ns j).book ∧ Rp.RdM w (Vv.rat C j).2 (nod ns j).mem) ∧ Hid (Vv.Own wx W0.heap.size (.slice (some ⟨go,0,none⟩) i co) C) ∧ Hid (Below W0.heap.size W0 wx)) (fun _ y _=>(m - intOf y).toNat)
 case atStart=>exact ⟨0,w.heap.size + 1,0,[],rfl,rfl,by omega,hidIt rfl,hidIt (fun j hj=>by omega),hidIt (by rw [← HW0.out]; exact Vv.Own.new W0),hidIt ((Below.refl _ W0).alloc (Nat.le_refl _) _)⟩
 case round =>
  obtain ⟨i,go,co,C,rfl,rfl,hi,HC,HE,HO,HBx⟩:=hrel
  have d1:=(BX.out.kept HBx.out).c 1 (v:=.slice n0 m n2) rfl
  by_cases hin : i < m
  ·
   have hin' : (i : Int) < (m : Int):=by omega
   have hi0' : (0 : Int) ≤ (i : Int):=by omega
   have hiL : i < ns.length:=by rw [HN.out]; exact hin
   have HBw:=hidIt (on HB.out HBx.out)
   obtain ⟨q,off,e,mm',b,g,eq,c0,c1,c2,c3,c4,c5,c6,c7,c8,c9,rN0⟩:=HR.out.one (i:=i) hiL
   subst eq
   have bq : q < w.heap.size:=World.block_lt_of_cell? w _ c0
   have x0 : wr.cell? ⟨q,off + i * 10,none⟩ = some (sv e):=by rw [HBw.out.cell bq]; exact c0
   have x1 : wr.cell? ⟨q,off + i * 10 + 1,none⟩ = some (sv mm'):=by rw [HBw.out.cell bq]; exact c1
   obtain ⟨e0,e1,e2⟩:=e
   obtain ⟨t0,t1,t2⟩:=mm'
   have hEM:=hidIt (show Rp.RdE w (e0,e1,e2) (nod ns i).book ∧ Rp.RdM w (t0,t1,t2) (nod ns i).mem from ⟨rN0.e,rN0.m⟩)
   clear c0 c1 c2 c3 c4 c5 c6 c7 c8 c9 rN0 bq
   simp only [sv] at x0 x1
   have HRow : Hid (World.ownsRow (wr.alloc (.cells #[.slice e0 e1 e2,.slice t0 t1 t2] 43)) W0.heap.size 43 2 (.slice (some ⟨go,0,none⟩) i co) C.length (Vv.rcells C)):=hidIt (Vv.Own.alloc HO.out _)
   have HFr:=hidIt (Vv.fresh wr ((e0,e1,e2),(t0,t1,t2)) 43)
   have hAl:=hidIt ((Below.refl wr.heap.size wr).alloc (Nat.le_refl _) (.cells #[.slice e0 e1 e2,.slice t0 t1 t2] 43))
   go_wp2_with (first | (at_builtin; refine wpList_append_own _ rfl _ _ 51 rfl W0.heap.size 43 i0 (.agg #[sv (none,0,0),sv (none,0,0)]) 2 48 Tryz.underlying51 hi0 hz0 hz1 hz2 rfl (by decide) _ _ _ rfl HRow.out ⟨wr.heap.size,0,none⟩ 1 1 [.slice e0 e1 e2,.slice t0 t1 t2] rfl rfl HFr.out (Vv.rcells_one [((e0,e1,e2),(t0,t1,t2))]) ?ca1 ?ca2 ?ca3 ?_) | fail)
   case ca1=>unfold maxLen; have:=HC.out; omega
   case ca2=>have:=HC.out; omega
   case ca3=>exact Nat.le_trans HBx.out.size hAl.out.size
   intro v' w9 hown hgrow hnil
   have oo:=Vv.Own.more (L:=C) (M:=[((e0,e1,e2),(t0,t1,t2))]) hown
   have hv' : v' ≠ .slice none 0 0:=hnil
   obtain ⟨zg,zc,ez,_⟩:=oo.some_form hv'
   have hlen : (C ++ [((e0,e1,e2),(t0,t1,t2))]).length = i + 1:=by rw [List.length_append,HC.out]; rfl
   rw [hlen] at ez
   subst ez
   have kG : Below W0.heap.size W0 w9:=(HBx.out.trans (hAl.out.mono HBx.out.size)).trans (Vv.grown_below (L:=C) HRow.out hgrow (Nat.le_refl _) (Nat.le_trans HBx.out.size hAl.out.size))
   have HO9:=hidIt oo
   have HB9:=hidIt kG
   clear hown hgrow hnil oo hv' kG HRow HFr hAl
   go_wp2_with (fail)
   refine ⟨⟨i + 1,zg,zc,C ++ [((e0,e1,e2),(t0,t1,t2))],by simp,rfl,by omega,hidIt hlen,hidIt (fun j hj=>?_),HO9,HB9⟩,by simp [intOf]; omega⟩
   by_cases hj2 : j < i
   ·
    rw [Rp.vat_app (by rw [HC.out]; exact hj2)]
    exact HE.out j hj2
   ·
    obtain rfl : j = i:=by omega
    have e5:=Rp.vat_last C ((e0,e1,e2),(t0,t1,t2))
    rw [HC.out] at e5
    rw [e5]
    exact hEM.out
  ·
   have hin' : ¬ (i : Int) < (m : Int):=by omega
   obtain rfl : i = m:=by omega
   go_wp2_with (fail)
   go_ret
   have e5:=HN.out
   subst e5
   exact GrpP.of rfl (rd_group rfl HC.out HO.out (on HB.out HBx.out) (fun j hj=>HE.out j hj)) (on HB.out HBx.out)
theorem spec_ClusterOk (c : Cw) (n k : Sl) (w : World) (h : RdK w c n k) (hs : ShortK c) : Calls Tryz.prog 6 #[kv c n k] w fun en w'=>en = .returned (.bool (okK c)) ∧ Below w.heap.size w w':=by
 have N0:=hidIt (fun h=>okK_now (c:=c) h)
 have N1:=hidIt (fun h=>okK_lo (c:=c) h)
 have N2:=hidIt (fun h=>okK_hi (c:=c) h)
 have N3:=hidIt (fun h=>okK_ck (c:=c) h)
 have NO:=hidIt (fun i hi h=>okK_no (c:=c) (i:=i) hi h)
 have NA:=hidIt (fun h0 h1 h2 h3 h4=>okK_all (c:=c) h0 h1 h2 h3 h4)
 have HK:=hidIt h
 have CG:=hidIt (fun W (r : RdK W c n k) hl=>spec_l18Group c n k W r hl)
 have CO:=hidIt (fun a cap W (r : Rp.Rd W a (reps c.nodes)) (hl : c.nodes.length ≤ 4)=>Rp.spec_GroupOk a cap (reps c.nodes) W r (fun i hi=>by rw [reps_length] at hi; rw [rat_reps hi]; exact (hs i hi).e) (by rw [reps_length]; omega) (fun i hi=>by rw [reps_length] at hi; rw [rat_reps hi]; exact lens HK.out.nr hi))
 rw [reps_length] at CO
 have CT0:=hidIt (fun W=>Ro.spec_l9Time c.now W)
 have CTi:=hidIt (fun i W=>Ro.spec_l9Time (Iv.iat c.clock i) W)
 have EB : Hid (∀ i,eachB c i = (Nd.okN (nod c.nodes i) && (((nod c.nodes i).apex.toList == (nod c.nodes 0).apex.toList) && Ro.timB (Iv.iat c.clock i)))):=hidIt (fun i=>rfl)
 generalize okK c = res at N0 N1 N2 N3 NO NA ⊢
 generalize Rp.okG (reps c.nodes) = resg at NA CO
 have HSh:=hidIt hs
 obtain ⟨no,ns,ck⟩:=c
 obtain ⟨n0,n1,n2⟩:=n
 obtain ⟨k0,k1,k2⟩:=k
 obtain ⟨z1,rN,cN,z2,rK,cK⟩:=h
 simp only at z1 rN cN z2 rK cK N0 N1 N2 N3 NO NA CO CT0 CTi EB
 have RN:=hidIt rN
 have RK:=hidIt rK
 subst z1 z2
 clear rN rK hs
 simp only [kv,kc,sv] at CG ⊢
 generalize hm : ns.length = m at *
 generalize hm2 : ck.length = m2 at *
 have HN:=hidIt hm
 have HN2:=hidIt hm2
 clear hm hm2
 have BX : Hid (Bo.Box (w.alloc (.cells #[.int .i64 no,.slice n0 m n2,.slice k0 m2 k2] 30)) w.heap.size #[.int .i64 no,.slice n0 m n2,.slice k0 m2 k2]):=hidIt (Bo.Box.new w _ _)
 have HB : Hid (Below w.heap.size w (w.alloc (.cells #[.int .i64 no,.slice n0 m n2,.slice k0 m2 k2] 30))):=hidIt ((Below.refl w.heap.size w).alloc (Nat.le_refl _) _)
 have d0:=BX.out.c 0 (v:=.int .i64 no) rfl
 have d1:=BX.out.c 1 (v:=.slice n0 m n2) rfl
 have d2:=BX.out.c 2 (v:=.slice k0 m2 k2) rfl
 generalize hk0 : Ro.timB no = t0 at CT0 N0 NA
 cases t0 with
 | false =>
  have er:=N0.out rfl
  subst er
  go_enter Tryz.func6,Tryz.ntmps6
  go_wp2_with (fail)
  refine (CT0.out _).mono ?_
  rintro en w1 ⟨rfl,rfl⟩
  go_wp2_with (fail)
  go_ret
  exact ⟨rfl,HB.out⟩
 | true =>
 clear hk0
 by_cases h1 : 1 ≤ m
 case neg =>
  have er:=N1.out h1
  subst er
  have h1' : (m : Int) < 1:=by omega
  go_enter Tryz.func6,Tryz.ntmps6
  go_wp2_with (fail)
  refine (CT0.out _).mono ?_
  rintro en w1 ⟨rfl,rfl⟩
  go_wp2_with (fail)
  go_ret
  exact ⟨rfl,HB.out⟩
 have h1' : ¬ (m : Int) < 1:=by omega
 by_cases h2 : m ≤ 4
 case neg =>
  have er:=N2.out h2
  subst er
  have h2' : (4 : Int) < (m : Int):=by omega
  go_enter Tryz.func6,Tryz.ntmps6
  go_wp2_with (fail)
  refine (CT0.out _).mono ?_
  rintro en w1 ⟨rfl,rfl⟩
  go_wp2_with (fail)
  go_ret
  exact ⟨rfl,HB.out⟩
 have h2' : ¬ (4 : Int) < (m : Int):=by omega
 by_cases h3 : m2 = m
 case neg =>
  have er:=N3.out h3
  subst er
  have h3' : ((m2 : Int) != (m : Int)) = true:=by simp; omega
  go_enter Tryz.func6,Tryz.ntmps6
  go_wp2_with (fail)
  refine (CT0.out _).mono ?_
  rintro en w1 ⟨rfl,rfl⟩
  go_wp2_with (fail)
  go_ret
  exact ⟨rfl,HB.out⟩
 subst h3
 have h3' : ((m2 : Int) != (m2 : Int)) = false:=by simp
 go_enter Tryz.func6,Tryz.ntmps6
 go_wp2_with (fail)
 refine (CT0.out _).mono ?_
 rintro en w1 ⟨rfl,ew⟩
 have ew2:=ew.symm
 subst ew2
 clear ew d0 d1 d2 N0 N1 N2 N3
 go_wp2_with (fail)
 generalize hW0 : w.alloc (.cells #[.int .i64 no,.slice n0 m2 n2,.slice k0 m2 k2] 30) = W0 at BX HB ⊢
 clear hW0
 have HH2:=hidIt h2
 have HH1:=hidIt h1
 go_loopw [3] (fun y wx=>∃ (i : Nat),y = .int .i64 i ∧ i ≤ m2 ∧ Hid (∀ j,j < i → eachB ⟨no,ns,ck⟩ j = true) ∧ Hid (Below W0.heap.size W0 wx)) (fun y _=>(m2 - intOf y).toNat)
 case atStart=>exact ⟨0,rfl,by omega,hidIt (fun j hj=>by omega),hidIt (Below.refl _ _)⟩
 case round =>
  obtain ⟨i,rfl,hi,HE,HBx⟩:=hrel
  have d1:=(BX.out.kept HBx.out).c 1 (v:=.slice n0 m2 n2) rfl
  by_cases hin : i < m2
  ·
   have hin' : (i : Int) < (m2 : Int):=by omega
   have hi0' : (0 : Int) ≤ (i : Int):=by omega
   have hm0 : (0 : Int) < (m2 : Int):=by omega
   have d2:=(BX.out.kept HBx.out).c 2 (v:=.slice k0 m2 k2) rfl
   have HBw:=hidIt (on HB.out HBx.out)
   obtain ⟨q,off,e,mm',b,g,eq,c0,c1,c2,c3,c4,c5,c6,c7,c8,c9,rN⟩:=(RN.out.kept HBw.out).one (i:=i) (by rw [HN.out]; exact hin)
   obtain ⟨q',off',_,_,_,_,eq',_,_,_,_,_,_,_,_,_,z9,_⟩:=(RN.out.kept HBw.out).one (i:=0) (by rw [HN.out]; omega)
   obtain ⟨qk,offk,eqk,zk⟩:=(RK.out.kept HBw.out).cell i (by rw [HN2.out]; exact hin)
   subst eq eqk
   obtain ⟨rfl,rfl⟩ : q = q' ∧ off = off':=by have:=Option.some.inj eq'; cases this; exact ⟨rfl,rfl⟩
   clear eq'
   simp only [Nat.zero_mul,Nat.add_zero] at z9
   have cn:=fun W (kb : Below wr.heap.size wr W)=>Nd.spec_NodeOk (nod ns i) e mm' b g W (rN.kept kb) (HSh.out i (by show i < ns.length; rw [HN.out]; exact hin))
   have ct:=fun W=>CTi.out i W
   have hea:=EB.out i
   clear rN
   generalize Nd.okN (nod ns i) = b1 at cn hea
   generalize Ro.timB (Iv.iat ck i) = b3 at ct hea
   generalize Iv.iat ck i = u at ct zk
   generalize (nod ns 0).apex = ap0 at z9 hea
   generalize nod ns i = x at *
   obtain ⟨bk,mb,ph,mn,ol,nw,tm,bu,lg,ap⟩:=x
   obtain ⟨e0,e1,e2⟩:=e
   obtain ⟨t0,t1,t2⟩:=mm'
   obtain ⟨b0,b1',b2⟩:=b
   obtain ⟨g0,g1,g2⟩:=g
   simp only [Nd.nv,Nd.nc,sv] at c0 c1 c2 c3 c4 c5 c6 c7 c8 c9 cn hea
   haveI:=BelowBy.one wr
   have f0:=fun p : BelowBy wr=>p.cell c0
   have f1:=fun p : BelowBy wr=>p.cell c1
   have f2:=fun p : BelowBy wr=>p.cell c2
   have f3:=fun p : BelowBy wr=>p.cell c3
   have f4:=fun p : BelowBy wr=>p.cell c4
   have f5:=fun p : BelowBy wr=>p.cell c5
   have f6:=fun p : BelowBy wr=>p.cell c6
   have f7:=fun p : BelowBy wr=>p.cell c7
   have f8:=fun p : BelowBy wr=>p.cell c8
   have f9:=fun p : BelowBy wr=>p.cell c9
   have y1:=fun p : BelowBy wr=>p.cell d1
   have y2:=fun p : BelowBy wr=>p.cell d2
   have fz:=fun p : BelowBy wr=>p.cell z9
   have fk:=fun p : BelowBy wr=>p.cell zk
   have CN:=hidIt (fun p : BelowBy wr=>cn p.world p.h)
   have CT:=hidIt (fun p : BelowBy wr=>ct p.world)
   have HEA:=hidIt hea
   clear c0 c1 c2 c3 c4 c5 c6 c7 c8 c9 z9 zk cn ct hea d2
   cases b1 with
   | false =>
    go_wp2_with (fail)
    clear d1
    refine wp_region_below (by kernel_rfl) (by kernel_rfl) ?_
    repeat (go_big_quiet_step (first | (go_at_call 17; exact calls_below (CN.out _)) | (go_at_call 16; exact calls_same (CT.out _))))
    refine wpQuiet_nil ?_
    intro _ hw'
    obtain ⟨pq,rfl⟩:=hw'
    have HB1:=hidIt (on HBw.out pq.h)
    have HB2:=hidIt (on HBx.out pq.h)
    generalize pq.world = w2 at HB1 HB2 ⊢
    clear f0 f1 f2 f3 f4 f5 f6 f7 f8 f9 y1 y2 fz fk
    go_wp2_with (fail)
    go_ret
    have er:=NO.out i hin (by rw [HEA.out]; simp)
    subst er
    exact ⟨rfl,HB1.out⟩
   | true =>
   cases hcmp : (ap.toList == ap0.toList) with
   | false =>
    rw [hcmp] at HEA
    go_wp2_with (fail)
    clear d1
    refine wp_region_below (by kernel_rfl) (by kernel_rfl) ?_
    repeat (go_big_quiet_step (first | (go_at_call 17; exact calls_below (CN.out _)) | (go_at_call 16; exact calls_same (CT.out _))))
    refine wpQuiet_nil ?_
    intro _ hw'
    obtain ⟨pq,rfl⟩:=hw'
    have HB1:=hidIt (on HBw.out pq.h)
    have HB2:=hidIt (on HBx.out pq.h)
    generalize pq.world = w2 at HB1 HB2 ⊢
    clear f0 f1 f2 f3 f4 f5 f6 f7 f8 f9 y1 y2 fz fk
    go_wp2_with (fail)
    go_ret
    have er:=NO.out i hin (by rw [HEA.out]; simp)
    subst er
    exact ⟨rfl,HB1.out⟩
   | true =>
    rw [hcmp] at HEA
    cases b3 with
    | false =>
     go_wp2_with (fail)
     clear d1
     refine wp_region_below (by kernel_rfl) (by kernel_rfl) ?_
     repeat (go_big_quiet_step (first | (go_at_call 17; exact calls_below (CN.out _)) | (go_at_call 16; exact calls_same (CT.out _))))
     refine wpQuiet_nil ?_
     intro _ hw'
     obtain ⟨pq,rfl⟩:=hw'
     have HB1:=hidIt (on HBw.out pq.h)
     have HB2:=hidIt (on HBx.out pq.h)
     generalize pq.world = w2 at HB1 HB2 ⊢
     clear f0 f1 f2 f3 f4 f5 f6 f7 f8 f9 y1 y2 fz fk
     go_wp2_with (fail)
     go_ret
     have er:=NO.out i hin (by rw [HEA.out]; simp)
     subst er
     exact ⟨rfl,HB1.out⟩
    | true =>
     go_wp2_with (fail)
     clear d1
     refine wp_region_below (by kernel_rfl) (by kernel_rfl) ?_
     repeat (go_big_quiet_step (first | (go_at_call 17; exact calls_below (CN.out _)) | (go_at_call 16; exact calls_same (CT.out _))))
     refine wpQuiet_nil ?_
     intro _ hw'
     obtain ⟨pq,rfl⟩:=hw'
     have HB1:=hidIt (on HBw.out pq.h)
     have HB2:=hidIt (on HBx.out pq.h)
     generalize pq.world = w2 at HB1 HB2 ⊢
     clear f0 f1 f2 f3 f4 f5 f6 f7 f8 f9 y1 y2 fz fk
     go_wp2_with (fail)
     refine ⟨⟨i + 1,by simp,by omega,hidIt (fun j hj=>?_),HB2⟩,by simp [intOf]; omega⟩
     by_cases hj2 : j < i
     ·
      exact HE.out j hj2
     ·
      obtain rfl : j = i:=by omega
      rw [HEA.out]
      rfl
  ·
   have hin' : ¬ (i : Int) < (m2 : Int):=by omega
   obtain rfl : i = m2:=by omega
   have er:=NA.out trivial HH1.out HH2.out trivial HE.out
   subst er
   have d0:=(BX.out.kept HBx.out).c 0 (v:=.int .i64 no) rfl
   have d2:=(BX.out.kept HBx.out).c 2 (v:=.slice k0 i k2) rfl
   go_wp2_with (fail)
   refine (CG.out _ (HK.out.kept (on HB.out HBx.out)) HH2.out).mono ?_
   intro en w2 hz
   obtain ⟨a,cap,rfl,rG,kG⟩:=hz.out
   rw [HN.out]
   have RG:=hidIt rG
   have HBg:=hidIt (on (on HB.out HBx.out) kG)
   clear hz rG kG d0 d1 d2
   go_wp2_with (fail)
   refine (CO.out a cap _ RG.out HH2.out).mono ?_
   rintro en w3 ⟨rfl,kO⟩
   have HBo:=hidIt (on HBg.out kO)
   clear kO
   go_wp2_with (fail)
   go_ret
   exact ⟨rfl,HBo.out⟩
end Go.Proofs.YtgbnkkjjgodilaaGreatDoor.Kc
namespace Go.Proofs.YtgbnkkjjgodilaaGreatDoor.Rp
open Go.ChangeShapes Go.WideShapes Go.ChangeAt Go.RowKit
open Vv (Sl sv hidIt)
open Rg (upd waits wp_region_inv op_at)
theorem sv_inj {s t : Sl} (h : sv s = sv t) : s = t:=by
 obtain ⟨a,b,c⟩:=s
 obtain ⟨d,e,f⟩:=t
 simp only [sv,Value.slice.injEq] at h
 obtain ⟨rfl,rfl,rfl⟩:=h
 rfl
theorem rd_cellsE {w : World} {x : Addr} {L : List En.Rw} (h : En.Rd w (some x) L) : ∀ j u,(En.rcells L)[j]? = some u → w.cell? (x.add j) = some u:=by
 intro j u hj
 cases L with
 | nil=>simp [En.rcells] at hj
 | cons y L =>
  obtain ⟨b,off,e,_⟩:=h.cell 0 (by simp)
  cases e
  exact h.cells j u hj
theorem rd_cellsM {w : World} {x : Addr} {L : List Mm.Rw} (h : Mm.Rd w (some x) L) : ∀ j u,(Mm.rcells L)[j]? = some u → w.cell? (x.add j) = some u:=by
 intro j u hj
 cases L with
 | nil=>simp [Mm.rcells] at hj
 | cons y L =>
  obtain ⟨b,off,e,_⟩:=h.cell 0 (by simp)
  cases e
  exact h.cells j u hj
theorem rd_two (W : World) (s0 t0 : Option Addr) (s1 s2 t1 t2 : Nat) : Vv.Rd (W.alloc (.cells #[.slice s0 s1 s2,.slice t0 t1 t2] 43)) (some ⟨W.heap.size,0,none⟩) [((s0,s1,s2),(t0,t1,t2))] :=
 ⟨fun i hi=>by
  have hi0 : i = 0:=by simp at hi; omega
  subst hi0
  refine ⟨W.heap.size,0,rfl,fun j hj=>?_⟩
  match j,hj with
  | 0,_=>simp [Vv.rcell,Vv.rat]
  | 1,_=>simp [Vv.rcell,Vv.rat]⟩
def FinC (b off i m cap p1 p2 q1 q2 N lo : Nat) (pa qa : Option Addr) (vo : Value) (C : List Vv.Rw) (M : List Rep) (r : Rep) (w0 : World) (W : World) (v : Value) : Prop:=∃ C',OwnC W lo W.heap.size v C' (M ++ [r]) ∧ Below lo w0 W
structure RKc (b off i m cap p1 p2 q1 q2 N lo : Nat) (pa qa : Option Addr) (vo : Value) (C : List Vv.Rw) (M : List Rep) (r : Rep) (w0 : World) (L : Nat → Bool) (u3 u12 u13 u14 u15 u16 u17 u18 u19 u20 u21 u22 u23 u24 u25 u26 u27 u28 u29 : Value) (W : World) : Prop where
 low : L 17 = false → Below w0.heap.size w0 W
 s3 : L 18 = false → u3 = vo
 E0 : L 1 = true → L 7 = false → ∃ g,u13 = .slice (some ⟨g,0,none⟩) 0 0 ∧ En.Own W N (.slice (some ⟨g,0,none⟩) 0 0) []
 E1 : L 7 = true → L 17 = false → ∃ s : Sl,u19 = sv s ∧ En.Own W N (sv s) r.1
 M0 : L 8 = true → L 14 = false → ∃ g,u20 = .slice (some ⟨g,0,none⟩) 0 0 ∧ Mm.Own W N (.slice (some ⟨g,0,none⟩) 0 0) []
 M1 : L 14 = true → L 17 = false → ∃ s : Sl,u26 = sv s ∧ Mm.Own W N (sv s) r.2
 P16 : L 16 = true → L 17 = false → ∃ (g : Nat) (s t : Sl),u28 = .slice (some ⟨g,0,none⟩) 1 1 ∧ u19 = sv s ∧ u26 = sv t ∧ Vv.Rd W (some ⟨g,0,none⟩) [(s,t)]
 fin : L 17 = true → FinC b off i m cap p1 p2 q1 q2 N lo pa qa vo C M r w0 W u29
 d7 : L 7 = true → L 1 = true ∧ L 6 = true
 d14 : L 14 = true → L 8 = true ∧ L 13 = true ∧ L 7 = true
 d15 : L 15 = true → L 7 = true ∧ L 14 = true
 d16 : L 16 = true → L 15 = true
 d17 : L 17 = true → L 0 = true ∧ L 16 = true ∧ L 14 = true
 d18 : L 18 = true → L 17 = true
 k0 : L 0 = true → u12 = vo
 k2 : L 2 = true → u14 = .slice (some ⟨b,off,none⟩) m cap
 k3 : L 3 = true → u15 = .int .i64 i
 k4 : L 4 = true → u16 = .pointer (some ⟨b,off + i * 2,none⟩)
 k5 : L 5 = true → u17 = .pointer (some ⟨b,off + i * 2,none⟩)
 k6 : L 6 = true → u18 = .slice pa p1 p2
 k9 : L 9 = true → u21 = .slice (some ⟨b,off,none⟩) m cap
 k10 : L 10 = true → u22 = .int .i64 i
 k11 : L 11 = true → u23 = .pointer (some ⟨b,off + i * 2,none⟩)
 k12 : L 12 = true → u24 = .pointer (some ⟨b,off + i * 2 + 1,none⟩)
 k13 : L 13 = true → u25 = .slice qa q1 q2
 k15 : L 15 = true → u27 = .agg #[u19,u26]
 k18 : L 18 = true → u3 = u29
def KKc (b off i m cap p1 p2 q1 q2 N lo : Nat) (pa qa : Option Addr) (vo : Value) (C : List Vv.Rw) (M : List Rep) (r : Rep) (w0 : World) (y0 y1 y2 y4 y5 y6 y7 y8 y9 y10 y11 y30 : Value) (L : Nat → Bool) (a : Act) (W : World) : Prop:=∃ u3 u12 u13 u14 u15 u16 u17 u18 u19 u20 u21 u22 u23 u24 u25 u26 u27 u28 u29 : Value,a = ⟨(y0 :: y1 :: y2 :: u3 :: y4 :: y5 :: y6 :: y7 :: y8 :: y9 :: y10 :: y11 :: u12 :: u13 :: u14 :: u15 :: u16 :: u17 :: u18 :: u19 :: u20 :: u21 :: u22 :: u23 :: u24 :: u25 :: u26 :: u27 :: u28 :: u29 :: y30 :: []).toArray,[]⟩ ∧ RKc b off i m cap p1 p2 q1 q2 N lo pa qa vo C M r w0 L u3 u12 u13 u14 u15 u16 u17 u18 u19 u20 u21 u22 u23 u24 u25 u26 u27 u28 u29 W
theorem RKc.kept {b off i m cap p1 p2 q1 q2 N lo : Nat} {pa qa : Option Addr} {vo : Value} {C : List Vv.Rw} {M : List Rep} {r : Rep} {w0 : World} {L : Nat → Bool} {u3 u12 u13 u14 u15 u16 u17 u18 u19 u20 u21 u22 u23 u24 u25 u26 u27 u28 u29 : Value} {W W' : World} (R : RKc b off i m cap p1 p2 q1 q2 N lo pa qa vo C M r w0 L u3 u12 u13 u14 u15 u16 u17 u18 u19 u20 u21 u22 u23 u24 u25 u26 u27 u28 u29 W) (h17 : L 17 = false) (k : Below W.heap.size W W') : RKc b off i m cap p1 p2 q1 q2 N lo pa qa vo C M r w0 L u3 u12 u13 u14 u15 u16 u17 u18 u19 u20 u21 u22 u23 u24 u25 u26 u27 u28 u29 W' :=
 ⟨(fun _=>on (R.low h17) k),R.s3,(fun a b=>by obtain ⟨g,e,o⟩:=R.E0 a b; exact ⟨g,e,o.kept k⟩),(fun a b=>by obtain ⟨s,e,o⟩:=R.E1 a b; exact ⟨s,e,o.kept k⟩),(fun a b=>by obtain ⟨g,e,o⟩:=R.M0 a b; exact ⟨g,e,o.kept k⟩),(fun a b=>by obtain ⟨s,e,o⟩:=R.M1 a b; exact ⟨s,e,o.kept k⟩),(fun a b=>by obtain ⟨g,s,t,e1,e2,e3,o⟩:=R.P16 a b; exact ⟨g,s,t,e1,e2,e3,o.kept k⟩),(fun q=>by rw [h17] at q; cases q),R.d7,R.d14,R.d15,R.d16,R.d17,R.d18,R.k0,R.k2,R.k3,R.k4,R.k5,R.k6,R.k9,R.k10,R.k11,R.k12,R.k13,R.k15,R.k18⟩
theorem RKc.behind {b off i m cap p1 p2 q1 q2 N lo : Nat} {pa qa : Option Addr} {vo : Value} {C : List Vv.Rw} {M : List Rep} {r : Rep} {w0 : World} {L : Nat → Bool} {u3 u12 u13 u14 u15 u16 u17 u18 u19 u20 u21 u22 u23 u24 u25 u26 u27 u28 u29 : Value} {W : World} (R : RKc b off i m cap p1 p2 q1 q2 N lo pa qa vo C M r w0 L u3 u12 u13 u14 u15 u16 u17 u18 u19 u20 u21 u22 u23 u24 u25 u26 u27 u28 u29 W) (h : L 1 = false ∨ L 6 = false ∨ L 7 = false ∨ L 8 = false ∨ L 13 = false ∨ L 14 = false ∨ L 15 = false ∨ L 16 = false) : L 17 = false:=by
 cases q : L 17 with
 | false=>rfl
 | true =>
  have h17:=R.d17 q
  have h14:=R.d14 h17.2.2
  have h15:=R.d15 (R.d16 h17.2.1)
  have h7:=R.d7 h15.1
  simp [h17.2.1,h17.2.2,h14.1,h14.2.1,h15.1,h7.1,h7.2,R.d16 h17.2.1] at h
theorem spec_l13Copy (a : Option Addr) (cap : Nat) (L : List Rep) (w : World) (h : Rd w a L) (hT : Tame L) :
  Calls Tryz.prog 50 #[.slice a L.length cap] w fun e w'=>LstP w L e w':=by
 have HTT:=hidIt hT
 have hm6:=hT.n
 have HR:=hidIt h
 clear h hT
 generalize hn : L.length = m at *
 have HN:=hidIt hn
 clear hn
 go_enter Tryz.func50,Tryz.ntmps50
 go_wp2_with (fail)
 go_loopw [3,4] (fun z y wx=>∃ (i go mm co : Nat) (M : List Rep),y = .int .i64 i ∧ z = .slice (some ⟨go,0,none⟩) mm co ∧ i ≤ m ∧ Hid (M.length = mm) ∧ Hid (mm = i) ∧ Hid (M = L.take i) ∧ Hid (Own wx w.heap.size wx.heap.size (.slice (some ⟨go,0,none⟩) mm co) M) ∧ Hid (Below w.heap.size w wx)) (fun _ y _=>(m - intOf y).toNat)
 case atStart=>exact ⟨0,w.heap.size,0,0,[],rfl,rfl,by omega,hidIt rfl,hidIt rfl,hidIt (by simp),hidIt (Own.new w).grow,hidIt ((Below.refl _ w).alloc (Nat.le_refl _) _)⟩
 case round =>
  obtain ⟨i,go,mm,co,M,rfl,rfl,hi,HMM,HMI,HME,HO,HBx⟩:=hrel
  by_cases hin : i < m
  ·
   have hin' : (i : Int) < (m : Int):=by omega
   have hi0 : (0 : Int) ≤ (i : Int):=by omega
   have hiL : i < L.length:=by rw [HN.out]; exact hin
   obtain ⟨b,off,p,q,ea,c0,c1,rE,rM⟩:=(HR.out.kept HBx.out).one (i:=i) hiL
   subst ea
   have hb80:=HTT.out.bl i hiL
   have hm8:=HTT.out.ml i hiL
   have HTK:=hidIt (take_rat hiL)
   obtain ⟨p0,p1,p2⟩:=p
   obtain ⟨q0,q1,q2⟩:=q
   obtain ⟨e1,r1,n1,_,_⟩:=rE
   obtain ⟨e2,r2,n2,_,_⟩:=rM
   simp only at e1 r1 n1 e2 r2 n2
   simp only [sv] at c0 c1
   have hp1:=hidIt e1
   have hq1:=hidIt e2
   have np:=hidIt n1
   have nq:=hidIt n2
   have HE:=hidIt r1.drew
   have HM:=hidIt r2.drew
   obtain ⟨C,hC⟩:=HO.out
   have hbw : b < wr.drew.heap.size:=World.block_lt_of_cell? _ _ c0
   have HOC : Hid (OwnC wr.drew w.heap.size wr.drew.heap.size (.slice (some ⟨go,0,none⟩) mm co) C M):=hidIt (hC.kept ((Below.refl _ wr).drew))
   have c0' : wr.drew.cell? ⟨b,off + i * 2,none⟩ = some (.slice p0 p1 p2):=c0
   have c1' : wr.drew.cell? ⟨b,off + i * 2 + 1,none⟩ = some (.slice q0 q1 q2):=c1
   replace HBx:=hidIt (HBx.out.drew)
   clear c0 c1 r1 r2 e1 e2 n1 n2 hC HO
   have c0:=c0'
   have c1:=c1'
   clear c0' c1'
   obtain ⟨W0,hW0⟩ : ∃ W0,W0 = wr.drew:=⟨_,rfl⟩
   rw [← hW0] at c0 c1 HE HM HOC HBx hbw
   go_wp2_with (fail)
   refine wp_region_inv (by kernel_rfl) (by kernel_rfl) (KKc b off i m cap p1 p2 q1 q2 W0.heap.size w.heap.size p0 q0 (.slice (some ⟨go,0,none⟩) mm co) C M (rat L i) W0 _ _ _ _ _ _ _ _ _ _ _ _) ⟨_,_,_,_,_,_,_,_,_,_,_,_,_,_,_,_,_,_,_,(by rw [← hW0]; exact ⟨rfl,⟨(fun _=>(Below.refl _ _)),(fun _=>rfl),(fun q=>by cases q),(fun q=>by cases q),(fun q=>by cases q),(fun q=>by cases q),(fun q=>by cases q),(fun q=>by cases q),(fun q=>by cases q),(fun q=>by cases q),(fun q=>by cases q),(fun q=>by cases q),(fun q=>by cases q),(fun q=>by cases q),(fun q=>by cases q),(fun q=>by cases q),(fun q=>by cases q),(fun q=>by cases q),(fun q=>by cases q),(fun q=>by cases q),(fun q=>by cases q),(fun q=>by cases q),(fun q=>by cases q),(fun q=>by cases q),(fun q=>by cases q),(fun q=>by cases q),(fun q=>by cases q)⟩⟩)⟩ ?_ ?_
   case refine_1 =>
    intro Lb a' W j hj hI hL hD
    have hcases : j = 0 ∨ j = 1 ∨ j = 2 ∨ j = 3 ∨ j = 4 ∨ j = 5 ∨ j = 6 ∨ j = 7 ∨ j = 8 ∨ j = 9 ∨ j = 10 ∨ j = 11 ∨ j = 12 ∨ j = 13 ∨ j = 14 ∨ j = 15 ∨ j = 16 ∨ j = 17 ∨ j = 18:=by simp at hj; omega
    clear hj
    obtain ⟨u3,u12,u13,u14,u15,u16,u17,u18,u19,u20,u21,u22,u23,u24,u25,u26,u27,u28,u29,rfl,R⟩:=hI
    rcases hcases with rfl | rfl | rfl | rfl | rfl | rfl | rfl | rfl | rfl | rfl | rfl | rfl | rfl | rfl | rfl | rfl | rfl | rfl | rfl
    ·
     skip
     have h18 : Lb 18 = false:=by
      cases q : Lb 18 with
      | false=>rfl
      | true=>have z:=(R.d17 (R.d18 q)).1; rw [hL] at z; cases z
     have e3:=R.s3 h18
     subst e3
     refine op_at rfl (fun K hK=>?_)
     go_simp
     refine hK _ _ ?_
     exact ⟨_,_,_,_,_,_,_,_,_,_,_,_,_,_,_,_,_,_,_,rfl,⟨R.low,R.s3,R.E0,R.E1,R.M0,R.M1,R.P16,R.fin,R.d7,R.d14,R.d15,R.d16,(fun q=>⟨rfl,(R.d17 q).2.1,(R.d17 q).2.2⟩),R.d18,(fun _=>rfl),R.k2,R.k3,R.k4,R.k5,R.k6,R.k9,R.k10,R.k11,R.k12,R.k13,R.k15,R.k18⟩⟩
    ·
     skip
     have h17:=R.behind (.inl hL)
     have kb:=R.low h17
     have R:=R.kept h17 ((Below.refl W.heap.size W).alloc (Nat.le_refl _) (.cells #[] 98))
     have hn : Lb 7 = false:=by
      cases q : Lb 7 with
      | false=>rfl
      | true=>have z:=(R.d7 q).1; rw [hL] at z; cases z
     refine op_at rfl (fun K hK=>?_)
     go_simp
     refine hK _ _ ?_
     exact ⟨_,_,_,_,_,_,_,_,_,_,_,_,_,_,_,_,_,_,_,rfl,⟨R.low,R.s3,(fun _ _=>⟨W.heap.size,rfl,(En.Own.new W).mono kb.size⟩),R.E1,R.M0,R.M1,R.P16,R.fin,(fun q=>⟨rfl,(R.d7 q).2⟩),R.d14,R.d15,R.d16,R.d17,R.d18,R.k0,R.k2,R.k3,R.k4,R.k5,R.k6,R.k9,R.k10,R.k11,R.k12,R.k13,R.k15,R.k18⟩⟩
    ·
     skip
     refine op_at rfl (fun K hK=>?_)
     go_simp
     refine hK _ _ ?_
     exact ⟨_,_,_,_,_,_,_,_,_,_,_,_,_,_,_,_,_,_,_,rfl,⟨R.low,R.s3,R.E0,R.E1,R.M0,R.M1,R.P16,R.fin,R.d7,R.d14,R.d15,R.d16,R.d17,R.d18,R.k0,(fun _=>rfl),R.k3,R.k4,R.k5,R.k6,R.k9,R.k10,R.k11,R.k12,R.k13,R.k15,R.k18⟩⟩
    ·
     skip
     refine op_at rfl (fun K hK=>?_)
     go_simp
     refine hK _ _ ?_
     exact ⟨_,_,_,_,_,_,_,_,_,_,_,_,_,_,_,_,_,_,_,rfl,⟨R.low,R.s3,R.E0,R.E1,R.M0,R.M1,R.P16,R.fin,R.d7,R.d14,R.d15,R.d16,R.d17,R.d18,R.k0,R.k2,(fun _=>rfl),R.k4,R.k5,R.k6,R.k9,R.k10,R.k11,R.k12,R.k13,R.k15,R.k18⟩⟩
    ·
     skip
     have e2:=R.k2 (hD 2 (by kernel_rfl))
     subst e2
     have e3:=R.k3 (hD 3 (by kernel_rfl))
     subst e3
     refine op_at rfl (fun K hK=>?_)
     go_simp
     refine hK _ _ ?_
     exact ⟨_,_,_,_,_,_,_,_,_,_,_,_,_,_,_,_,_,_,_,rfl,⟨R.low,R.s3,R.E0,R.E1,R.M0,R.M1,R.P16,R.fin,R.d7,R.d14,R.d15,R.d16,R.d17,R.d18,R.k0,R.k2,R.k3,(fun _=>rfl),R.k5,R.k6,R.k9,R.k10,R.k11,R.k12,R.k13,R.k15,R.k18⟩⟩
    ·
     skip
     have e4:=R.k4 (hD 4 (by kernel_rfl))
     subst e4
     refine op_at rfl (fun K hK=>?_)
     go_simp
     refine hK _ _ ?_
     exact ⟨_,_,_,_,_,_,_,_,_,_,_,_,_,_,_,_,_,_,_,rfl,⟨R.low,R.s3,R.E0,R.E1,R.M0,R.M1,R.P16,R.fin,R.d7,R.d14,R.d15,R.d16,R.d17,R.d18,R.k0,R.k2,R.k3,R.k4,(fun _=>rfl),R.k6,R.k9,R.k10,R.k11,R.k12,R.k13,R.k15,R.k18⟩⟩
    ·
     skip
     have e5:=R.k5 (hD 5 (by kernel_rfl))
     subst e5
     have h17:=R.behind (.inr (.inl hL))
     have kb:=R.low h17
     have cc : W.cell? ⟨b,off + i * 2,none⟩ = some (.slice p0 p1 p2):=by rw [kb.cell hbw]; exact c0
     refine op_at rfl (fun K hK=>?_)
     go_simp
     refine hK _ _ ?_
     exact ⟨_,_,_,_,_,_,_,_,_,_,_,_,_,_,_,_,_,_,_,rfl,⟨R.low,R.s3,R.E0,R.E1,R.M0,R.M1,R.P16,R.fin,(fun q=>⟨(R.d7 q).1,rfl⟩),R.d14,R.d15,R.d16,R.d17,R.d18,R.k0,R.k2,R.k3,R.k4,R.k5,(fun _=>rfl),R.k9,R.k10,R.k11,R.k12,R.k13,R.k15,R.k18⟩⟩
    ·
     skip
     have h17:=R.behind (.inr (.inr (.inl hL)))
     have kb:=R.low h17
     obtain ⟨g,eg,og⟩:=R.E0 (hD 1 (by kernel_rfl)) hL
     have es:=R.k6 (hD 6 (by kernel_rfl))
     subst eg es
     have h16 : Lb 16 = false:=by
      cases q : Lb 16 with
      | false=>rfl
      | true=>have z:=R.d15 (R.d16 q); simp [hL] at z
     have h15 : Lb 15 = false:=by
      cases q : Lb 15 with
      | false=>rfl
      | true=>have z:=R.d15 q; simp [hL] at z
     have h14 : Lb 14 = false:=by
      cases q : Lb 14 with
      | false=>rfl
      | true=>have z:=(R.d14 q).2.2; rw [hL] at z; cases z
     refine op_at rfl (fun K hK=>?_)
     cases hpa : p0 with
     | none =>
      have hnil : (rat L i).1 = []:=by have z:=(HE.out.kept kb); rw [hpa] at z; exact z.none_nil
      have hz : p1 = 0:=by rw [hp1.out,hnil]; rfl
      have hz2 : p2 = 0:=np.out hpa
      refine En.step_append_none rfl (.tmp 13) (.tmp 18) rfl W0.heap.size (.slice (some ⟨g,0,none⟩) 0 0) [] (by simp [Act.eval]) og (by simp [Act.eval,hz,hz2]) ?_
      refine hK _ _ ?_
      exact ⟨_,_,_,_,_,_,_,_,_,_,_,_,_,_,_,_,_,_,_,rfl,⟨R.low,R.s3,(fun _ q=>by cases q),(fun _ _=>⟨(some ⟨g,0,none⟩,0,0),rfl,by rw [hnil]; exact og⟩),R.M0,R.M1,(fun q=>by have q2 : Lb 16 = true:=q; rw [h16] at q2; cases q2),(fun q=>by have q2 : Lb 17 = true:=q; rw [h17] at q2; cases q2),(fun _=>⟨hD 1 (by kernel_rfl),hD 6 (by kernel_rfl)⟩),(fun q=>⟨(R.d14 q).1,(R.d14 q).2.1,rfl⟩),(fun q=>⟨rfl,(R.d15 q).2⟩),R.d16,R.d17,R.d18,R.k0,R.k2,R.k3,R.k4,R.k5,(fun _=>by rw [hpa]),R.k9,R.k10,R.k11,R.k12,R.k13,(fun q=>by have q2 : Lb 15 = true:=q; rw [h15] at q2; cases q2),R.k18⟩⟩
     | some x =>
      refine En.step_append rfl (.tmp 13) (.tmp 18) rfl W0.heap.size (.slice (some ⟨g,0,none⟩) 0 0) [] (rat L i).1 (by simp [Act.eval]) og x p1 p2 hp1.out.symm (by simp [Act.eval]) (rd_cellsE (by have z:=(HE.out.kept kb); rw [hpa] at z; exact z)) (by have:=hp1.out; simp; omega) kb.size ?_
      intro v' W' o' gr _
      rw [List.nil_append] at o'
      obtain ⟨s,es'⟩:=slE o'
      subst es'
      have kb2 : Below W0.heap.size W0 W':=kb.trans (En.grown_below og gr (Nat.le_refl _) kb.size)
      refine hK _ _ ?_
      exact ⟨_,_,_,_,_,_,_,_,_,_,_,_,_,_,_,_,_,_,_,rfl,⟨(fun _=>kb2),R.s3,(fun _ q=>by cases q),(fun _ _=>⟨s,rfl,o'⟩),(fun a c=>by obtain ⟨g',e',om⟩:=R.M0 a c; exact ⟨g',e',row_grown om og gr (own_apart om og (by decide))⟩),(fun q=>by have q2 : Lb 14 = true:=q; rw [h14] at q2; cases q2),(fun q=>by have q2 : Lb 16 = true:=q; rw [h16] at q2; cases q2),(fun q=>by have q2 : Lb 17 = true:=q; rw [h17] at q2; cases q2),(fun _=>⟨hD 1 (by kernel_rfl),hD 6 (by kernel_rfl)⟩),(fun q=>⟨(R.d14 q).1,(R.d14 q).2.1,rfl⟩),(fun q=>⟨rfl,(R.d15 q).2⟩),R.d16,R.d17,R.d18,R.k0,R.k2,R.k3,R.k4,R.k5,(fun _=>by rw [hpa]),R.k9,R.k10,R.k11,R.k12,R.k13,(fun q=>by have q2 : Lb 15 = true:=q; rw [h15] at q2; cases q2),R.k18⟩⟩
    ·
     skip
     have h17:=R.behind (.inr (.inr (.inr (.inl hL))))
     have kb:=R.low h17
     have R:=R.kept h17 ((Below.refl W.heap.size W).alloc (Nat.le_refl _) (.cells #[] 100))
     have hn : Lb 14 = false:=by
      cases q : Lb 14 with
      | false=>rfl
      | true=>have z:=(R.d14 q).1; rw [hL] at z; cases z
     refine op_at rfl (fun K hK=>?_)
     go_simp
     refine hK _ _ ?_
     exact ⟨_,_,_,_,_,_,_,_,_,_,_,_,_,_,_,_,_,_,_,rfl,⟨R.low,R.s3,R.E0,R.E1,(fun _ _=>⟨W.heap.size,rfl,(Mm.Own.new W).mono kb.size⟩),R.M1,R.P16,R.fin,R.d7,(fun q=>⟨rfl,(R.d14 q).2.1,(R.d14 q).2.2⟩),R.d15,R.d16,R.d17,R.d18,R.k0,R.k2,R.k3,R.k4,R.k5,R.k6,R.k9,R.k10,R.k11,R.k12,R.k13,R.k15,R.k18⟩⟩
    ·
     skip
     refine op_at rfl (fun K hK=>?_)
     go_simp
     refine hK _ _ ?_
     exact ⟨_,_,_,_,_,_,_,_,_,_,_,_,_,_,_,_,_,_,_,rfl,⟨R.low,R.s3,R.E0,R.E1,R.M0,R.M1,R.P16,R.fin,R.d7,R.d14,R.d15,R.d16,R.d17,R.d18,R.k0,R.k2,R.k3,R.k4,R.k5,R.k6,(fun _=>rfl),R.k10,R.k11,R.k12,R.k13,R.k15,R.k18⟩⟩
    ·
     skip
     refine op_at rfl (fun K hK=>?_)
     go_simp
     refine hK _ _ ?_
     exact ⟨_,_,_,_,_,_,_,_,_,_,_,_,_,_,_,_,_,_,_,rfl,⟨R.low,R.s3,R.E0,R.E1,R.M0,R.M1,R.P16,R.fin,R.d7,R.d14,R.d15,R.d16,R.d17,R.d18,R.k0,R.k2,R.k3,R.k4,R.k5,R.k6,R.k9,(fun _=>rfl),R.k11,R.k12,R.k13,R.k15,R.k18⟩⟩
    ·
     skip
     have e9:=R.k9 (hD 9 (by kernel_rfl))
     subst e9
     have e10:=R.k10 (hD 10 (by kernel_rfl))
     subst e10
     refine op_at rfl (fun K hK=>?_)
     go_simp
     refine hK _ _ ?_
     exact ⟨_,_,_,_,_,_,_,_,_,_,_,_,_,_,_,_,_,_,_,rfl,⟨R.low,R.s3,R.E0,R.E1,R.M0,R.M1,R.P16,R.fin,R.d7,R.d14,R.d15,R.d16,R.d17,R.d18,R.k0,R.k2,R.k3,R.k4,R.k5,R.k6,R.k9,R.k10,(fun _=>rfl),R.k12,R.k13,R.k15,R.k18⟩⟩
    ·
     skip
     have e11:=R.k11 (hD 11 (by kernel_rfl))
     subst e11
     refine op_at rfl (fun K hK=>?_)
     go_simp
     refine hK _ _ ?_
     exact ⟨_,_,_,_,_,_,_,_,_,_,_,_,_,_,_,_,_,_,_,rfl,⟨R.low,R.s3,R.E0,R.E1,R.M0,R.M1,R.P16,R.fin,R.d7,R.d14,R.d15,R.d16,R.d17,R.d18,R.k0,R.k2,R.k3,R.k4,R.k5,R.k6,R.k9,R.k10,R.k11,(fun _=>rfl),R.k13,R.k15,R.k18⟩⟩
    ·
     skip
     have e12:=R.k12 (hD 12 (by kernel_rfl))
     subst e12
     have h17:=R.behind (.inr (.inr (.inr (.inr (.inl hL)))))
     have kb:=R.low h17
     have cc : W.cell? ⟨b,off + i * 2 + 1,none⟩ = some (.slice q0 q1 q2):=by rw [kb.cell hbw]; exact c1
     refine op_at rfl (fun K hK=>?_)
     go_simp
     refine hK _ _ ?_
     exact ⟨_,_,_,_,_,_,_,_,_,_,_,_,_,_,_,_,_,_,_,rfl,⟨R.low,R.s3,R.E0,R.E1,R.M0,R.M1,R.P16,R.fin,R.d7,(fun q=>⟨(R.d14 q).1,rfl,(R.d14 q).2.2⟩),R.d15,R.d16,R.d17,R.d18,R.k0,R.k2,R.k3,R.k4,R.k5,R.k6,R.k9,R.k10,R.k11,R.k12,(fun _=>rfl),R.k15,R.k18⟩⟩
    ·
     skip
     have h17:=R.behind (.inr (.inr (.inr (.inr (.inr (.inl hL))))))
     have kb:=R.low h17
     obtain ⟨g,eg,og⟩:=R.M0 (hD 8 (by kernel_rfl)) hL
     have es:=R.k13 (hD 13 (by kernel_rfl))
     subst eg es
     have h16 : Lb 16 = false:=by
      cases q : Lb 16 with
      | false=>rfl
      | true=>have z:=R.d15 (R.d16 q); simp [hL] at z
     have h15 : Lb 15 = false:=by
      cases q : Lb 15 with
      | false=>rfl
      | true=>have z:=R.d15 q; simp [hL] at z
     refine op_at rfl (fun K hK=>?_)
     cases hpa : q0 with
     | none =>
      have hnil : (rat L i).2 = []:=by have z:=(HM.out.kept kb); rw [hpa] at z; exact z.none_nil
      have hz : q1 = 0:=by rw [hq1.out,hnil]; rfl
      have hz2 : q2 = 0:=nq.out hpa
      refine Mm.step_append_none rfl (.tmp 20) (.tmp 25) rfl W0.heap.size (.slice (some ⟨g,0,none⟩) 0 0) [] (by simp [Act.eval]) og (by simp [Act.eval,hz,hz2]) ?_
      refine hK _ _ ?_
      exact ⟨_,_,_,_,_,_,_,_,_,_,_,_,_,_,_,_,_,_,_,rfl,⟨R.low,R.s3,R.E0,R.E1,(fun _ q=>by cases q),(fun _ _=>⟨(some ⟨g,0,none⟩,0,0),rfl,by rw [hnil]; exact og⟩),(fun q=>by have q2 : Lb 16 = true:=q; rw [h16] at q2; cases q2),(fun q=>by have q2 : Lb 17 = true:=q; rw [h17] at q2; cases q2),R.d7,(fun _=>⟨hD 8 (by kernel_rfl),hD 13 (by kernel_rfl),hD 7 (by kernel_rfl)⟩),(fun q=>⟨(R.d15 q).1,rfl⟩),R.d16,(fun q=>⟨(R.d17 q).1,(R.d17 q).2.1,rfl⟩),R.d18,R.k0,R.k2,R.k3,R.k4,R.k5,R.k6,R.k9,R.k10,R.k11,R.k12,(fun _=>by rw [hpa]),(fun q=>by have q2 : Lb 15 = true:=q; rw [h15] at q2; cases q2),R.k18⟩⟩
     | some x =>
      refine Mm.step_append rfl (.tmp 20) (.tmp 25) rfl W0.heap.size (.slice (some ⟨g,0,none⟩) 0 0) [] (rat L i).2 (by simp [Act.eval]) og x q1 q2 hq1.out.symm (by simp [Act.eval]) (rd_cellsM (by have z:=(HM.out.kept kb); rw [hpa] at z; exact z)) (by have:=hq1.out; simp; omega) kb.size ?_
      intro v' W' o' gr _
      rw [List.nil_append] at o'
      obtain ⟨s,es'⟩:=slM o'
      subst es'
      have kb2 : Below W0.heap.size W0 W':=kb.trans (Mm.grown_below og gr (Nat.le_refl _) kb.size)
      refine hK _ _ ?_
      exact ⟨_,_,_,_,_,_,_,_,_,_,_,_,_,_,_,_,_,_,_,rfl,⟨(fun _=>kb2),R.s3,(fun a c=>by obtain ⟨g',e',om⟩:=R.E0 a c; exact ⟨g',e',row_grown om og gr (own_apart om og (by decide))⟩),(fun a c=>by obtain ⟨g',e',om⟩:=R.E1 a c; exact ⟨g',e',row_grown om og gr (own_apart om og (by decide))⟩),(fun _ q=>by cases q),(fun _ _=>⟨s,rfl,o'⟩),(fun q=>by have q2 : Lb 16 = true:=q; rw [h16] at q2; cases q2),(fun q=>by have q2 : Lb 17 = true:=q; rw [h17] at q2; cases q2),R.d7,(fun _=>⟨hD 8 (by kernel_rfl),hD 13 (by kernel_rfl),hD 7 (by kernel_rfl)⟩),(fun q=>⟨(R.d15 q).1,rfl⟩),R.d16,(fun q=>⟨(R.d17 q).1,(R.d17 q).2.1,rfl⟩),R.d18,R.k0,R.k2,R.k3,R.k4,R.k5,R.k6,R.k9,R.k10,R.k11,R.k12,(fun _=>by rw [hpa]),(fun q=>by have q2 : Lb 15 = true:=q; rw [h15] at q2; cases q2),R.k18⟩⟩
    ·
     skip
     have h17:=R.behind (.inr (.inr (.inr (.inr (.inr (.inr (.inl hL)))))))
     obtain ⟨s,es,_⟩:=R.E1 (hD 7 (by kernel_rfl)) h17
     obtain ⟨t,et,_⟩:=R.M1 (hD 14 (by kernel_rfl)) h17
     obtain ⟨s0,s1,s2⟩:=s
     obtain ⟨t0,t1,t2⟩:=t
     simp only [sv] at es et
     subst es et
     refine op_at rfl (fun K hK=>?_)
     go_simp
     refine hK _ _ ?_
     exact ⟨_,_,_,_,_,_,_,_,_,_,_,_,_,_,_,_,_,_,_,rfl,⟨R.low,R.s3,R.E0,R.E1,R.M0,R.M1,R.P16,R.fin,R.d7,R.d14,(fun _=>⟨hD 7 (by kernel_rfl),hD 14 (by kernel_rfl)⟩),(fun _=>rfl),R.d17,R.d18,R.k0,R.k2,R.k3,R.k4,R.k5,R.k6,R.k9,R.k10,R.k11,R.k12,R.k13,(fun _=>rfl),R.k18⟩⟩
    ·
     skip
     have h17:=R.behind (.inr (.inr (.inr (.inr (.inr (.inr (.inr hL)))))))
     have e15:=R.k15 (hD 15 (by kernel_rfl))
     have d15:=R.d15 (hD 15 (by kernel_rfl))
     obtain ⟨s,es,_⟩:=R.E1 d15.1 h17
     obtain ⟨t,et,_⟩:=R.M1 d15.2 h17
     obtain ⟨s0,s1,s2⟩:=s
     obtain ⟨t0,t1,t2⟩:=t
     simp only [sv] at es et
     subst es et e15
     have R:=R.kept h17 ((Below.refl W.heap.size W).alloc (Nat.le_refl _) (.cells #[.slice s0 s1 s2,.slice t0 t1 t2] 43))
     refine op_at rfl (fun K hK=>?_)
     go_simp
     refine hK _ _ ?_
     exact ⟨_,_,_,_,_,_,_,_,_,_,_,_,_,_,_,_,_,_,_,rfl,⟨R.low,R.s3,R.E0,R.E1,R.M0,R.M1,(fun _ _=>⟨W.heap.size,(s0,s1,s2),(t0,t1,t2),rfl,rfl,rfl,rd_two W s0 t0 s1 s2 t1 t2⟩),R.fin,R.d7,R.d14,R.d15,(fun _=>hD 15 (by kernel_rfl)),(fun q=>⟨(R.d17 q).1,rfl,(R.d17 q).2.2⟩),R.d18,R.k0,R.k2,R.k3,R.k4,R.k5,R.k6,R.k9,R.k10,R.k11,R.k12,R.k13,R.k15,R.k18⟩⟩
    ·
     skip
     have kb:=R.low hL
     have e0:=R.k0 (hD 0 (by kernel_rfl))
     subst e0
     obtain ⟨g,s,t,e28,e19,e26,rg⟩:=R.P16 (hD 16 (by kernel_rfl)) hL
     have d15:=R.d15 (R.d16 (hD 16 (by kernel_rfl)))
     obtain ⟨s',es',oE⟩:=R.E1 d15.1 hL
     obtain ⟨t',et',oM⟩:=R.M1 d15.2 hL
     rw [es'] at e19
     rw [et'] at e26
     rw [sv_inj e19] at oE
     rw [sv_inj e26] at oM
     subst e28
     have hO:=HOC.out.kept kb
     refine op_at rfl (fun K hK=>?_)
     refine Vv.step_append rfl (.tmp 12) (.tmp 28) rfl w.heap.size (.slice (some ⟨go,0,none⟩) mm co) C [(s,t)] (by simp [Act.eval]) hO.row ⟨g,0,none⟩ 1 1 rfl (by simp [Act.eval]) rg.cells (by have:=hO.len; have:=HMM.out; have:=HMI.out; simp; omega) (Nat.le_trans HBx.out.size kb.size) ?_
     intro v' W' o' gr _
     have hM:=hO.more o' gr oE oM (Nat.le_refl _)
     have kl : Below w.heap.size W0 W':=(kb.mono HBx.out.size).trans (Vv.grown_below hO.row gr (Nat.le_refl _) (Nat.le_trans HBx.out.size kb.size))
     refine hK _ _ ?_
     have h18 : Lb 18 = false:=by
      cases q : Lb 18 with
      | false=>rfl
      | true=>have z:=R.d18 q; rw [hL] at z; cases z
     exact ⟨_,_,_,_,_,_,_,_,_,_,_,_,_,_,_,_,_,_,_,rfl,⟨(fun q=>by cases q),R.s3,(fun _ q=>by have q2 : Lb 7 = false:=q; rw [d15.1] at q2; cases q2),(fun _ q=>by cases q),(fun _ q=>by have q2 : Lb 14 = false:=q; rw [d15.2] at q2; cases q2),(fun _ q=>by cases q),(fun _ q=>by cases q),(fun _=>⟨_,hM,kl⟩),R.d7,R.d14,R.d15,R.d16,(fun _=>⟨hD 0 (by kernel_rfl),hD 16 (by kernel_rfl),hD 14 (by kernel_rfl)⟩),(fun _=>rfl),R.k0,R.k2,R.k3,R.k4,R.k5,R.k6,R.k9,R.k10,R.k11,R.k12,R.k13,R.k15,(fun q=>by have q2 : Lb 18 = true:=q; rw [h18] at q2; cases q2)⟩⟩
    ·
     skip
     refine op_at rfl (fun K hK=>?_)
     go_simp
     refine hK _ _ ?_
     exact ⟨_,_,_,_,_,_,_,_,_,_,_,_,_,_,_,_,_,_,_,rfl,⟨R.low,(fun q=>by cases q),R.E0,R.E1,R.M0,R.M1,R.P16,R.fin,R.d7,R.d14,R.d15,R.d16,R.d17,(fun _=>hD 17 (by kernel_rfl)),R.k0,R.k2,R.k3,R.k4,R.k5,R.k6,R.k9,R.k10,R.k11,R.k12,R.k13,R.k15,(fun _=>rfl)⟩⟩
   case refine_2 =>
    intro Lb a' W hI hall
    obtain ⟨u3,u12,u13,u14,u15,u16,u17,u18,u19,u20,u21,u22,u23,u24,u25,u26,u27,u28,u29,rfl,R⟩:=hI
    obtain ⟨C',hF,hLo⟩:=R.fin (hall 17)
    have e18:=R.k18 (hall 18)
    subst e18
    clear R hall
    have hlen : (M ++ [rat L i]).length = mm + 1:=by rw [List.length_append,HMM.out]; rfl
    have hOw : Own W w.heap.size W.heap.size _ (M ++ [rat L i]):=⟨C',hF⟩
    obtain ⟨za,zc,ez,_,_,hzn⟩:=hOw.formN hlen
    subst ez
    obtain ⟨zg,zo,ez⟩:=hOw.rd.addr (by rw [hlen]; omega)
    subst ez
    have hz0 : zo = 0:=by
     obtain ⟨a',c',e',_,_,_,_,hs⟩:=hF.row.form
     obtain ⟨g',eg,_⟩:=hs _ (Value.slice.inj e').1.symm
     cases eg
     rfl
    subst hz0
    have HOw:=hidIt hOw
    have HLo:=hidIt (HBx.out.trans hLo)
    clear hOw hF hLo
    go_wp2_with (fail)
    exact ⟨⟨i + 1,zg,mm + 1,zc,M ++ [rat L i],by simp,rfl,by omega,hidIt hlen,hidIt (by have:=HMI.out; omega),hidIt (by rw [HTK.out,HME.out]),HOw,HLo⟩,by simp [intOf]; omega⟩
  ·
   have hin' : ¬ (i : Int) < (m : Int):=by omega
   have hmi:=HMI.out
   subst hmi
   obtain rfl : mm = m:=by omega
   have eM : M = L:=by rw [HME.out,← HN.out,List.take_length]
   subst eM
   go_wp2_with (fail)
   go_ret
   exact LstP.of rfl HO.out HBx.out
end Go.Proofs.YtgbnkkjjgodilaaGreatDoor.Rp
