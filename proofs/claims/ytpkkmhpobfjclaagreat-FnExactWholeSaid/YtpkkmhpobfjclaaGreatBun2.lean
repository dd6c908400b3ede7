/- The program's Joined and Written. -/
import Derived.Test.YtpkkmhpobfjclaaGreatBun1
import Derived.Test.YtpkkmhpobfjclaaGreatMem2M
import Derived.Shelf.Spec.SlicesInsert
import Derived.Lib.AppendZerosOnto
import Derived.Laws.CopyRow
import Derived.Deep.RegionLaw
import Derived.WalkKit
import Derived.Test.YtpkkmhpobfjclaaGreatQuiet
import Derived.Handy
import Derived.Deep.RegionHeld3
set_option maxRecDepth 100000
set_option maxHeartbeats 32000000
set_option linter.unusedVariables false
namespace Go.Proofs.YtpkkmhpobfjclaaGreat.En
open Go.ChangeShapes Go.WideShapes Go.ChangeAt Go.RowKit
open Bk (Bytes okE newB okBk look Ris IsJoin joinB)
theorem impl_Joined (aA aB : Option Addr) (cA cB : Nat) (A B : List Rw) (w : World) (hA : Rd w aA A) (hB : Rd w aB B) (leA : A.length ≤ cA) (leB : B.length ≤ cB) (hlA : A.length ≤ 9223372036854775807) (hlB : B.length ≤ 9223372036854775807) (hsA : shortR A) (hsB : shortR B) :
  Calls Tryz.prog 39 #[.slice aA A.length cA,.slice aB B.length cB] w fun e w'=>∃ v J,e = .returned (.tuple #[v,.bool (joinB (toB A) (toB B)).2]) ∧ toB J = (joinB (toB A) (toB B)).1 ∧ Own w' w.heap.size v J ∧ Below w.heap.size w w':=by
 have CA:=hidIt (fun W (r : Rd W aA A)=>impl_BookOk aA cA A W r hlA hsA)
 have CB:=hidIt (fun W (r : Rd W aB B)=>impl_BookOk aB cB B W r hlB hsB)
 have HRA:=hidIt hA
 have HRB:=hidIt hB
 clear hA hB
 cases okA : okBk (toB A) with
 | false =>
  have e : joinB (toB A) (toB B) = ([],false):=by unfold joinB; rw [if_neg (by rw [okA]; simp)]
  rw [e]
  rw [okA] at CA
  clear e okA
  generalize A.length = la at *
  generalize B.length = lb at *
  go_enter Tryz.func39,Tryz.ntmps39
  go_wp2_with (fail)
  refine (CA.out _ HRA.out).mono ?_
  rintro e w1 ⟨rfl,k1⟩
  have HB1:=hidIt k1
  clear k1
  go_wp2_with (fail)
  refine bodyPost_ret (v:=.tuple #[.slice (some ⟨w1.heap.size,0,none⟩) 0 0,.bool false]) (by simp [results,Tryz.results39,go_sem]) rfl ⟨_,[],rfl,rfl,(Own.new w1).mono HB1.out.size,HB1.out.alloc HB1.out.size _⟩
 | true =>
  rw [okA] at CA
  cases okB : okBk (toB B) with
  | false =>
   have e : joinB (toB A) (toB B) = ([],false):=by unfold joinB; rw [if_neg (by rw [okB]; simp)]
   rw [e]
   rw [okB] at CB
   clear e okA okB
   generalize A.length = la at *
   generalize B.length = lb at *
   go_enter Tryz.func39,Tryz.ntmps39
   go_wp2_with (fail)
   refine (CA.out _ HRA.out).mono ?_
   rintro e w1 ⟨rfl,k1⟩
   have HB1:=hidIt k1
   clear k1
   go_wp2_with (fail)
   refine (CB.out _ (HRB.out.kept HB1.out)).mono ?_
   rintro e w2 ⟨rfl,k2⟩
   have HB2:=hidIt (HB1.out.trans (k2.mono HB1.out.size))
   clear k2
   go_wp2_with (fail)
   refine bodyPost_ret (v:=.tuple #[.slice (some ⟨w2.heap.size,0,none⟩) 0 0,.bool false]) (by simp [results,Tryz.results39,go_sem]) rfl ⟨_,[],rfl,rfl,(Own.new w2).mono HB2.out.size,HB2.out.alloc HB2.out.size _⟩
  | true =>
   rw [okB] at CB
   have l1:=Bk.ok_len okA
   have l2:=Bk.ok_len okB
   rw [toB_length] at l1 l2
   have CR:=hidIt (fun W q hq (r1 : Rd W aA A) (r2 : Rd W aB B)=>impl_restsOf (w:=W) (q:=q) (ca:=cA) (cb:=cB) hq r1 r2 leA leB)
   have CJ:=hidIt (fun W base b (m : Made W base b A B) h1 h2 h3=>impl_newest m h1 h2 h3 (Bk.ok_ris okA) (Bk.ok_ris okB) l1 l2)
   have HJ:=hidIt (fun J (h : IsJoin (toB A) (toB B) J)=>Bk.join_of okA okB h)
   clear okA okB hsA hsB
   generalize joinB (toB A) (toB B) = r at HJ ⊢
   generalize A.length = la at *
   generalize B.length = lb at *
   go_enter Tryz.func39,Tryz.ntmps39
   go_wp2_with (fail)
   refine (CA.out _ HRA.out).mono ?_
   rintro e w1 ⟨rfl,k1⟩
   have HB1:=hidIt k1
   clear k1
   go_wp2_with (fail)
   refine (CB.out _ (HRB.out.kept HB1.out)).mono ?_
   rintro e w2 ⟨rfl,k2⟩
   have HB2:=hidIt (HB1.out.trans (k2.mono HB1.out.size))
   clear k2
   have HQ : Hid ((w2.alloc (.cells #[.slice aA la cA,.slice aB lb cB] 24)).cell? ⟨w2.heap.size,0,none⟩ = some (.slice aA la cA) ∧ (w2.alloc (.cells #[.slice aA la cA,.slice aB lb cB] 24)).cell? ⟨w2.heap.size,1,none⟩ = some (.slice aB lb cB)):=hidIt ⟨by simp,by simp⟩
   have HBq:=hidIt (HB2.out.alloc HB2.out.size (.cells #[.slice aA la cA,.slice aB lb cB] 24))
   go_wp2_with (fail)
   refine (CR.out _ _ HQ.out (HRA.out.kept HBq.out) (HRB.out.kept HBq.out)).mono ?_
   generalize w2.alloc (.cells #[.slice aA la cA,.slice aB lb cB] 24) = w3 at HBq ⊢
   clear HQ
   rintro e w4 ⟨rfl,m4,k4⟩
   have HM:=hidIt m4
   have HB4:=hidIt k4
   have HBL : Hid (w3.heap.size + 1 < w4.heap.size):=hidIt (by
    obtain ⟨g,X,Y,hg,st,hgl,_⟩:=m4
    cases st using Sta.elim with
    | zero a cap h=>exact cell_block h
    | one cap p o c X u h hc hx=>exact h.bl
    | two cap p0 o0 k0 p1 o1 k1 X Y h hc hx hy ht=>exact h.bl)
   clear m4 k4
   go_wp2_with (fail)
   refine (CJ.out _ _ _ HM.out (by omega) HBL.out HB4.out.size).mono ?_
   rintro e w5 ⟨v,J,rfl,o5,j5,l5,k5⟩
   have HB5:=hidIt ((HBq.out.trans (HB4.out.mono HBq.out.size)).trans (k5.mono HBq.out.size))
   have HO5:=hidIt (o5.mono (Nat.le_trans HBq.out.size HB4.out.size))
   have HR:=hidIt (HJ.out _ j5)
   clear k5 o5 j5
   obtain ⟨b,cap,rfl,_⟩:=HO5.out.form
   generalize hjl : J.length = lj at *
   have HJL:=hidIt hjl
   clear hjl
   by_cases h80 : lj ≤ 80
   ·
    have h80' : ¬ (80 : Int) < (lj : Int):=by omega
    have er : Hid (r = (toB J,true)):=hidIt (by rw [HR.out,if_pos (by rw [toB_length,HJL.out]; exact h80)])
    go_wp2_with (fail)
    refine bodyPost_ret (v:=.tuple #[.slice b lj cap,.bool true]) (by simp [results,Tryz.results39,go_sem]) rfl ⟨_,J,by rw [er.out],by rw [er.out],HO5.out,HB5.out⟩
   ·
    have h80' : (80 : Int) < (lj : Int):=by omega
    have er : Hid (r = ([],false)):=hidIt (by rw [HR.out,if_neg (by rw [toB_length,HJL.out]; exact h80)])
    go_wp2_with (fail)
    refine bodyPost_ret (v:=.tuple #[.slice (some ⟨w5.heap.size,0,none⟩) 0 0,.bool false]) (by simp [results,Tryz.results39,go_sem]) rfl ⟨_,[],by rw [er.out],by rw [er.out]; rfl,(Own.new w5).mono HB5.out.size,HB5.out.alloc HB5.out.size _⟩
end Go.Proofs.YtpkkmhpobfjclaaGreat.En
namespace Go.Proofs.YtpkkmhpobfjclaaGreat.Mm
open Go.ChangeShapes Go.WideShapes Go.ChangeAt Go.RowKit
def over (l : List Value) (o : Nat) (cs : List Value) : List Value:=l.take o ++ cs ++ l.drop (o + cs.length)
theorem over_length (l cs : List Value) (o : Nat) (h : o + cs.length ≤ l.length) : (over l o cs).length = l.length:=by
 unfold over
 simp
 omega
theorem over_get (l cs : List Value) (o : Nat) (h : o + cs.length ≤ l.length) (j : Nat) : (over l o cs)[j]? = if o ≤ j ∧ j < o + cs.length then cs[j - o]? else l[j]?:=by
 unfold over
 by_cases h1 : j < o
 ·
  rw [if_neg (by omega),List.append_assoc,List.getElem?_append_left (by simp; omega),List.getElem?_take,if_pos h1]
 ·
  by_cases h2 : j < o + cs.length
  ·
   rw [if_pos ⟨by omega,h2⟩,List.append_assoc,List.getElem?_append_right (by simp; omega),List.length_take,Nat.min_eq_left (by omega),List.getElem?_append_left (by omega)]
  ·
   rw [if_neg (by omega),List.getElem?_append_right (by simp; omega),List.getElem?_drop]
   congr 1
   simp
   omega
theorem run_copy_rows {w : World} {g : Nat} {cur : Array Value} (hg : w.heap[g]? = some (.cells cur 81 (0,0))) (ty : TypeId) (o dl dc : Nat) (x : Addr) (sl sc n : Nat) (cs : List Value) (hn : sl.min dl = n) (hlen : cs.length = n * 3)
  (hsrc : ∀ j u,cs[j]? = some u → w.cell? (x.add j) = some u) (h1 : ∀ u ∈ cs,u.oneCell' = true) (hfit : o + n * 3 ≤ cur.size) :
  (Builtin.copy_ #[25,25] ty #[.slice (some ⟨g,o,none⟩) dl dc,.slice (some x) sl sc]).run Tryz.prog w = .ok (goInt n) (w.setRow g (over cur.toList o cs).toArray):=by
 obtain ⟨i0,hi,hz0,hz1,hz2⟩:=info_parts infoRw
 have hl:=run_firstCells_some (P:=Tryz.prog) w 3 n x sl sc cs hlen hsrc
 have hst:=run_storeCells_at Tryz.prog g o 81 cs 0 cur w hg (by rw [hlen]; omega) h1
 simp only [Nat.add_zero] at hst
 simp [Builtin.copy_,run_underlying Tryz.underlying25,Builtin.lenOf,sizeOf,typeInfo,hi,hz1,hn,hl,hst,over]
theorem take_eq_of {l m : List Value} {n : Nat} (hm : m.length = n) (h : ∀ j,j < n → l[j]? = m[j]?) : l.take n = m:=by
 apply List.ext_getElem?
 intro j
 rw [List.getElem?_take]
 by_cases hj : j < n
 ·
  rw [if_pos hj,h j hj]
 ·
  rw [if_neg hj,List.getElem?_eq_none (by omega)]
theorem ins_row {l : List Value} {M : List Rw} {i : Nat} {x : Rw} (hi : i ≤ M.length) (h1 : ∀ j,j < i * 3 → l[j]? = (rcells M)[j]?) (h2 : ∀ j,j < 3 → l[i * 3 + j]? = (rcells [x])[j]?) (h3 : ∀ j,j < (M.length - i) * 3 → l[(i + 1) * 3 + j]? = (rcells M)[i * 3 + j]?) :
  l.take ((M.length + 1) * 3) = rcells (M.take i ++ x :: M.drop i):=by
 refine take_eq_of (by rw [rcells_length]; simp; omega) (fun j hj=>?_)
 rw [rcells_append,show x :: M.drop i = [x] ++ M.drop i from rfl,rcells_append]
 by_cases c1 : j < i * 3
 ·
  rw [h1 j c1,List.getElem?_append_left (by rw [rcells_length,List.length_take]; omega),rcells_take M i hi,List.getElem?_take,if_pos c1]
 ·
  rw [List.getElem?_append_right (by rw [rcells_length,List.length_take]; omega),rcells_length,List.length_take,Nat.min_eq_left hi]
  by_cases c2 : j < i * 3 + 3
  ·
   have:=h2 (j - i * 3) (by omega)
   rw [show i * 3 + (j - i * 3) = j by omega] at this
   rw [this,List.getElem?_append_left (by rw [rcells_length]; simp; omega)]
  ·
   have:=h3 (j - i * 3 - 3) (by omega)
   rw [show (i + 1) * 3 + (j - i * 3 - 3) = j by omega] at this
   rw [this,List.getElem?_append_right (by rw [rcells_length]; simp; omega),rcells_length,rcells_drop M i hi,List.getElem?_drop]
   congr 1
theorem overlaps_apart (w : World) (vb g o lb cb : Nat) (hne : vb ≠ g) (cur : Array Value) (T : TypeId) (x : Rw) (hv : w.heap[vb]? = some (.cells (rc x) T (0,0))) (hg : w.heap[g]? = some (.cells cur T (0,0))) (hc : cur.size ≠ 0) :
  (callFunc 92 #[.slice (some ⟨vb,0,none⟩) 1 1,.slice (some ⟨g,o,none⟩) lb cb]).run Tryz.prog w = .ok (.value (.bool false)) w:=by
 rw [run_callFunc_extern Tryz.func92 (by kernel_rfl) (by kernel_rfl) (by kernel_rfl) (e:=Extern.SlicesOverlaps.overlaps #[25,25] #[4]) (by kernel_rfl),
  Go.Lib.run_overlaps_apart w 25 4 81 Tryz.underlying25 3 Tryz.sizeOf81 ⟨vb,0,none⟩ ⟨g,o,none⟩ 1 1 lb cb hne T T 3 cur.size (by simp [World.shape?,hv]) (by simp [World.shape?,hg]) hc (by simp [World.frozen?,hv]) (by simp [World.frozen?,hv])]
 rfl
theorem insert_end (base : Nat) (v : Value) (M : List Rw) (x : Rw) (w : World) (hO : Own w base v M) (hl : M.length ≤ 60) (hb : base ≤ w.heap.size) :
  Calls Tryz.prog 77 #[v,.int .i64 M.length,.slice (some ⟨w.heap.size,0,none⟩) 1 1] (w.alloc (.cells (rc x) 81)) fun e w'=>∃ v',e = .returned v' ∧ Own w' base v' (M ++ [x]) ∧ (w.alloc (.cells (rc x) 81)).grownBy w' v.ownBlock:=by
 obtain ⟨i0,hi0,hz0,hz1,hz2⟩:=info_parts infoRw
 have HO:=hidIt hO
 obtain ⟨a,cap,rfl,hcap,hcm,hR,hna,hsome⟩:=hO.form
 obtain ⟨x0,x1,x2⟩:=x
 generalize hn : M.length = n at *
 have HN:=hidIt hn
 have h1 : (n : Int) ≤ (cap : Int):=by omega
 clear hR hsome hO hn
 cases a with
 | none =>
  have e:=hna rfl
  subst e
  have e : n = 0:=by omega
  subst e
  go_enter Tryz.func77,Tryz.ntmps77
  go_wp2_with (at_builtin; refine wpList_append_own _ rfl _ _ 25 rfl base 81 i0 (.agg #[.int .i64 0,.int .i64 0,.int .i64 0]) 3 24 Tryz.underlying25 hi0 hz0 hz1 hz2 rfl (by decide) _ _ _ rfl (World.ownsRow.alloc HO.out _) ⟨w.heap.size,0,none⟩ 1 1 [.int .i64 x0,.int .i64 x1,.int .i64 x2] rfl rfl (fresh w (x0,x1,x2) 81) (rcells_one [(x0,x1,x2)]) ?c3 ?c4 ?c5 ?_)
  case c3=>rw [HN.out]; decide
  case c4=>rw [HN.out]; decide
  case c5=>exact Nat.le_trans hb (by first | exact Nat.le_refl _ | simp)
  intro v' w3 hown hgrow _
  have HO3:=hidIt (Own.more (M:=[(x0,x1,x2)]) hown)
  have HG:=hidIt hgrow
  clear hown hgrow
  go_wp2_with (fail)
  go_ret
  exact ⟨_,rfl,HO3.out,HG.out⟩
 | some y =>
  obtain ⟨yb,yo,ys⟩:=y
  clear hna
  go_enter Tryz.func77,Tryz.ntmps77
  go_wp2_with (at_builtin; refine wpList_append_own _ rfl _ _ 25 rfl base 81 i0 (.agg #[.int .i64 0,.int .i64 0,.int .i64 0]) 3 24 Tryz.underlying25 hi0 hz0 hz1 hz2 rfl (by decide) _ _ _ rfl (World.ownsRow.alloc HO.out _) ⟨w.heap.size,0,none⟩ 1 1 [.int .i64 x0,.int .i64 x1,.int .i64 x2] rfl rfl (fresh w (x0,x1,x2) 81) (rcells_one [(x0,x1,x2)]) ?c3 ?c4 ?c5 ?_)
  all_goals try (case c3=>rw [HN.out]; unfold maxLen; omega)
  all_goals try (case c4=>rw [HN.out]; omega)
  all_goals try (case c5=>exact Nat.le_trans hb (by first | exact Nat.le_refl _ | simp))
  all_goals
   intro v' w3 hown hgrow _
   have HO3:=hidIt (Own.more (M:=[(x0,x1,x2)]) hown)
   have HG:=hidIt hgrow
   clear hown hgrow
   go_wp2_with (fail)
   go_ret
   exact ⟨_,rfl,HO3.out,HG.out⟩
theorem insert_room (base g c i : Nat) (cur : Array Value) (M : List Rw) (x : Rw) (w : World) (hb : base ≤ g) (hg : w.heap[g]? = some (.cells cur 81 (0,0))) (hi : i < M.length) (hc : M.length + 1 ≤ c) (hcm : c ≤ maxLen) (hsz : cur.size = c * 3) (htk : cur.toList.take (M.length * 3) = rcells M) (hl : M.length ≤ 60) :
  Calls Tryz.prog 77 #[.slice (some ⟨g,0,none⟩) M.length c,.int .i64 i,.slice (some ⟨w.heap.size,0,none⟩) 1 1] (w.alloc (.cells (rc x) 81)) fun e w'=>∃ v',e = .returned v' ∧ Own w' base v' (M.take i ++ x :: M.drop i) ∧ (w.alloc (.cells (rc x) 81)).grownBy w' (some g):=by
 have hgw : g < w.heap.size:=(Array.getElem?_eq_some_iff.1 hg).1
 have hcm' : c ≤ 9223372036854775807:=hcm
 have hg1 : (w.alloc (.cells (rc x) 81)).heap[g]? = some (.cells cur 81 (0,0)):=by rw [Below.heap_alloc _ _ _ hgw]; exact hg
 have hv1 : (w.alloc (.cells (rc x) 81)).heap[w.heap.size]? = some (.cells (rc x) 81 (0,0)):=Array.getElem?_push_size ..
 have hS1 : (w.alloc (.cells (rc x) 81)).heap.size = w.heap.size + 1:=by simp
 have hX:=fresh w x 81
 have HGR : Hid (∀ W cs,(w.alloc (.cells (rc x) 81)).drew.setRow g cs = W → ∀ cs',(w.alloc (.cells (rc x) 81)).grownBy (W.setRow g cs') (some g)):=hidIt (fun W cs e cs'=>by
  subst e
  exact ⟨rfl,rfl,rfl,by simp [World.setRow,World.drew],fun k _ hk=>by
   rw [setRow_other _ _ _ _ (fun z=>hk (by rw [z])),setRow_other _ _ _ _ (fun z=>hk (by rw [z]))]; rfl⟩)
 generalize w.alloc (.cells (rc x) 81) = w1 at hg1 hv1 hX HGR hS1 ⊢
 generalize hn : M.length = n at *
 have hcur : ∀ j,j < n * 3 → cur[j]? = (rcells M)[j]?:=fun j hj=>by
  rw [← htk,List.getElem?_take,if_pos hj,Array.getElem?_toList]
 have hov:=fun lb cb=>overlaps_apart w1 w.heap.size g ((i + 1) * 3) lb cb (by omega) cur 81 x hv1 hg1 (by omega)
 have hdl : (rcells (M.drop i)).length = (n - i) * 3:=by rw [rcells_length,List.length_drop,hn]
 have hcp1 : ∀ ty dl dc sl sc,sl.min dl = n - i → (Builtin.copy_ #[25,25] ty #[.slice (some ⟨g,(i + 1) * 3,none⟩) dl dc,.slice (some ⟨g,i * 3,none⟩) sl sc]).run Tryz.prog w1.drew = .ok (goInt ((n - i : Nat) : Int)) (w1.drew.setRow g (over cur.toList ((i + 1) * 3) (rcells (M.drop i))).toArray):=fun ty dl dc sl sc hmin =>
  run_copy_rows (w:=w1.drew) hg1 ty ((i + 1) * 3) _ _ ⟨g,i * 3,none⟩ _ _ (n - i) _ hmin hdl (fun j u hj=>by
   rw [rcells_drop M i (by omega),List.getElem?_drop] at hj
   have hlt : i * 3 + j < n * 3:=by
    rcases Nat.lt_or_ge (i * 3 + j) (n * 3) with h | h
    ·
     exact h
    ·
     rw [List.getElem?_eq_none (by rw [rcells_length,hn]; exact h)] at hj; cases hj
   rw [Go.WideShapes.add_plain,show w1.drew.cell? ⟨g,i * 3 + j,none⟩ = w1.cell? ⟨g,i * 3 + j,none⟩ from rfl,row_cell hg1,hcur _ hlt]
   exact hj) (rcells_one _) (by rw [hsz]; omega)
 obtain ⟨w2,hw2⟩ : ∃ w2,w2 = w1.drew.setRow g (over cur.toList ((i + 1) * 3) (rcells (M.drop i))).toArray:=⟨_,rfl⟩
 rw [← hw2] at hcp1
 have hg2 : w2.heap[g]? = some (.cells (over cur.toList ((i + 1) * 3) (rcells (M.drop i))).toArray 81 (0,0)):=by
  rw [hw2]
  exact setRow_heap w1.drew g cur _ _ _ hg1
 have hol : (over cur.toList ((i + 1) * 3) (rcells (M.drop i))).length = c * 3:=by rw [over_length _ _ _ (by rw [hdl,Array.length_toList,hsz]; omega),Array.length_toList,hsz]
 have hcp2 : ∀ ty dl dc,(1 : Nat).min dl = 1 → (Builtin.copy_ #[25,25] ty #[.slice (some ⟨g,i * 3,none⟩) dl dc,.slice (some ⟨w.heap.size,0,none⟩) 1 1]).run Tryz.prog w2 = .ok (goInt ((1 : Nat) : Int)) (w2.setRow g (over (over cur.toList ((i + 1) * 3) (rcells (M.drop i))) (i * 3) (rcells [x])).toArray):=fun ty dl dc hmin=>by
  have:=run_copy_rows hg2 ty (i * 3) dl dc ⟨w.heap.size,0,none⟩ 1 1 1 (rcells [x]) hmin rfl (fun j u hj=>by
   have hx:=hX j u hj
   rw [Go.WideShapes.add_plain] at hx ⊢
   rw [hw2,cell_setRow_other _ _ _ _ (by simp; omega)]
   exact hx) (rcells_one _) (by simp only [List.size_toArray,hol]; omega)
  exact this
 have HW : Hid (Own (w2.setRow g (over (over cur.toList ((i + 1) * 3) (rcells (M.drop i))) (i * 3) (rcells [x])).toArray) base (.slice (some ⟨g,0,none⟩) (n + 1) c) (M.take i ++ x :: M.drop i)):=hidIt (by
  have e : (M.take i ++ x :: M.drop i).length = n + 1:=by simp; omega
  unfold Own
  rw [e]
  refine ⟨by rw [rcells_length,e],.inr ⟨g,c,_,rfl,hb,setRow_heap _ _ _ _ _ _ hg2,hc,hcm,?_,?_⟩⟩
  ·
   rw [List.size_toArray,over_length _ _ _ (by rw [hol]; simp [rcells]; omega),hol]
  ·
   rw [← hn]
   refine ins_row (by omega) (fun j hj=>?_) (fun j hj=>?_) (fun j hj=>?_)
   ·
    rw [over_get _ _ _ (by rw [hol]; simp [rcells]; omega),if_neg (by omega),over_get _ _ _ (by rw [hdl,Array.length_toList,hsz]; omega),if_neg (by omega),Array.getElem?_toList,hcur _ (by omega)]
   ·
    rw [over_get _ _ _ (by rw [hol]; simp [rcells]; omega),if_pos ⟨by omega,by simp [rcells]; omega⟩]
    congr 1
    omega
   ·
    rw [over_get _ _ _ (by rw [hol]; simp [rcells]; omega),if_neg (by simp [rcells]; omega),over_get _ _ _ (by rw [hdl,Array.length_toList,hsz]; omega),if_pos ⟨by omega,by rw [hdl]; omega⟩,rcells_drop M i (by omega),List.getElem?_drop]
    congr 1
    omega)
 have HGW:=hidIt (HGR.out w2 _ hw2.symm (over (over cur.toList ((i + 1) * 3) (rcells (M.drop i))) (i * 3) (rcells [x])).toArray)
 generalize w2.setRow g (over (over cur.toList ((i + 1) * 3) (rcells (M.drop i))) (i * 3) (rcells [x])).toArray = w3 at hcp2 HW HGW
 clear hcur hdl hol hg2 hw2 HGR htk hsz hX hg1 hv1 hg hS1
 have z1 : ((i : Int) == (n : Int)) = false:=by simp; omega
 have z2 : ¬ (c : Int) < (n : Int) + 1:=by omega
 have z3 : IntKind.i64.wrap ((i : Int) + 1) = (i : Int) + 1:=by rw [IntKind.wrap_i64]; omega
 have z4 : (0 : Int) ≤ (i : Int) + 1:=by omega
 have z5 : ((i : Int) + 1).toNat = i + 1:=by omega
 have z6 : (i : Int) + 1 ≤ (n : Int) + 1:=by omega
 have z7 : (i : Int) ≤ (n : Int) + 1:=by omega
 have z8 : (i : Int) ≤ (n : Int):=by omega
 have z9 : ¬ (c = i + 1):=by omega
 have z10 : ¬ (c = i):=by omega
 have z11 : (n : Int) + 1 ≤ (c : Int):=by omega
 go_enter Tryz.func77,Tryz.ntmps77
 go_wp2_with (simp only [hov])
 have hq1:=hcp1 3 (n - i) (c - (i + 1)) (n + 1 - i) (c - i) (by simp only [Nat.min_def]; split <;> omega)
 have hq2:=hcp2 3 (n + 1 - i) (c - i) (by simp only [Nat.min_def]; split <;> omega)
 clear hcp1 hcp2
 go_region
 go_wp2_with (fail)
 go_ret
 exact ⟨_,rfl,HW.out,HGW.out⟩
theorem zeros_length (k : Nat) : (Builtin.zeroCells (Value.agg #[.int .i64 0,.int .i64 0,.int .i64 0]).cells k).size = k * 3:=by
 simp [Builtin.zeroCells,Value.cells]
theorem insert_grow (base g c i : Nat) (cur : Array Value) (M : List Rw) (x : Rw) (w : World) (hb : base ≤ g) (hg : w.heap[g]? = some (.cells cur 81 (0,0))) (hi : i < M.length) (hc : M.length = c) (hsz : cur.size = c * 3) (htk : cur.toList.take (M.length * 3) = rcells M) (hl : M.length ≤ 60) :
  Calls Tryz.prog 77 #[.slice (some ⟨g,0,none⟩) M.length c,.int .i64 i,.slice (some ⟨w.heap.size,0,none⟩) 1 1] (w.alloc (.cells (rc x) 81)) fun e w'=>∃ v',e = .returned v' ∧ Own w' base v' (M.take i ++ x :: M.drop i) ∧ (w.alloc (.cells (rc x) 81)).grownBy w' (some g):=by
 obtain ⟨i0,hi0,hz0,hz1,hz2⟩:=info_parts infoRw
 have hgw : g < w.heap.size:=(Array.getElem?_eq_some_iff.1 hg).1
 have hg1 : (w.alloc (.cells (rc x) 81)).heap[g]? = some (.cells cur 81 (0,0)):=by rw [Below.heap_alloc _ _ _ hgw]; exact hg
 have hS1 : (w.alloc (.cells (rc x) 81)).heap.size = w.heap.size + 1:=by simp
 have hX:=fresh w x 81
 generalize w.alloc (.cells (rc x) 81) = w1 at hg1 hX hS1 ⊢
 generalize hn : M.length = n at *
 subst hc
 have hcur : ∀ j,j < n * 3 → cur[j]? = (rcells M)[j]?:=fun j hj=>by
  rw [← htk,List.getElem?_take,if_pos hj,Array.getElem?_toList]
 have hdl : (rcells (M.drop i)).length = (n - i) * 3:=by rw [rcells_length,List.length_drop,hn]
 have htl : (rcells (M.take i)).length = i * 3:=by rw [rcells_length,List.length_take,hn,Nat.min_eq_left (by omega)]
 have hik : i + (n + 1 - i) = n + 1:=by omega
 have hold : (Builtin.firstCells i0.size i (.slice (some ⟨g,0,none⟩) i n)).run Tryz.prog w1.drew = .ok (rcells (M.take i)).toArray w1.drew:=by
  rw [hz1]
  exact run_firstCells_some w1.drew 3 i ⟨g,0,none⟩ i n (rcells (M.take i)) htl (fun j u hj=>by
   have hlt : j < i * 3:=by
    rcases Nat.lt_or_ge j (i * 3) with h | h
    ·
     exact h
    ·
     rw [List.getElem?_eq_none (by rw [htl]; exact h)] at hj; cases hj
   rw [rcells_take M i (by omega),List.getElem?_take,if_pos hlt] at hj
   rw [Go.WideShapes.add_plain,show w1.drew.cell? ⟨g,0 + j,none⟩ = w1.cell? ⟨g,0 + j,none⟩ from rfl,Nat.zero_add,row_cell hg1,hcur _ (by omega)]
   exact hj)
 have hap : ∀ ty,(Builtin.append_ #[25,3] ty #[.slice (some ⟨g,0,none⟩) i n,.int .i64 ((n + 1 - i : Nat) : Int)]).run Tryz.prog w1 = .ok (.slice (some ⟨w1.heap.size,0,none⟩) (n + 1) (grownCap w1 (n + 1) n 81))
   (w1.drew.alloc (.cells ((rcells (M.take i)).toArray ++ Builtin.zeroCells (Value.agg #[.int .i64 0,.int .i64 0,.int .i64 0]).cells (n + 1 - i) ++ Builtin.zeroCells (Value.agg #[.int .i64 0,.int .i64 0,.int .i64 0]).cells (grownCap w1 (n + 1) n 81 - (n + 1))) 81)):=fun ty=>by
  have h:=Go.Lib.run_append_grow_zeros w1 25 3 ty 81 i0 _ .i64 .i64 Tryz.underlying25 Tryz.underlying3 hi0 hz0 (some ⟨g,0,none⟩) i n (rcells (M.take i)) hold (n + 1 - i) (by omega) (by omega) (by omega) (by omega) (by rw [hz2]; omega) (by rw [hz2,hik]; exact growslice_fits (by omega) (by omega))
  rw [hik] at h
  exact h
 have hGe:=grownCap_ge w1 (n + 1) n 81
 have hGm : grownCap w1 (n + 1) n 81 ≤ maxLen:=grownCap_le_maxLen w1 (n + 1) n 81 (by unfold maxLen; omega)
 generalize grownCap w1 (n + 1) n 81 = G at hap hGe hGm
 generalize hrow : (rcells (M.take i)).toArray ++ Builtin.zeroCells (Value.agg #[.int .i64 0,.int .i64 0,.int .i64 0]).cells (n + 1 - i) ++ Builtin.zeroCells (Value.agg #[.int .i64 0,.int .i64 0,.int .i64 0]).cells (G - (n + 1)) = row at hap
 have hrs : row.size = G * 3:=by
  rw [← hrow,Array.size_append,Array.size_append,zeros_length,zeros_length,List.size_toArray,htl]
  omega
 have hrl : row.toList.length = G * 3:=by rw [Array.length_toList,hrs]
 have hx4 : (rcells [x]).length = 3:=rfl
 have hrt : ∀ j,j < i * 3 → row.toList[j]? = (rcells M)[j]?:=fun j hj=>by
  rw [← hrow,Array.toList_append,Array.toList_append,List.append_assoc,List.getElem?_append_left (by rw [htl]; exact hj),rcells_take M i (by omega),List.getElem?_take,if_pos hj]
 have hb1 : base ≤ w1.heap.size:=by omega
 have hBel : Below w1.heap.size w1 (w1.drew.alloc (.cells row 81)):=(Below.refl _ w1).drew.alloc (Nat.le_refl _) _
 have hg2 : (w1.drew.alloc (.cells row 81)).heap[w1.heap.size]? = some (.cells row 81 (0,0)):=Array.getElem?_push_size ..
 generalize w1.drew.alloc (.cells row 81) = w2 at hap hBel hg2
 have hlt2 : w1.heap.size < w2.heap.size:=(Array.getElem?_eq_some_iff.1 hg2).1
 have hcp1 : ∀ ty dl dc,(1 : Nat).min dl = 1 → (Builtin.copy_ #[25,25] ty #[.slice (some ⟨w1.heap.size,i * 3,none⟩) dl dc,.slice (some ⟨w.heap.size,0,none⟩) 1 1]).run Tryz.prog w2 = .ok (goInt ((1 : Nat) : Int)) (w2.setRow w1.heap.size (over row.toList (i * 3) (rcells [x])).toArray):=fun ty dl dc hmin =>
  run_copy_rows hg2 ty (i * 3) dl dc ⟨w.heap.size,0,none⟩ 1 1 1 (rcells [x]) hmin rfl (fun j u hj=>by
   have hx:=hX j u hj
   rw [Go.WideShapes.add_plain] at hx ⊢
   rw [hBel.cell (by simp; omega)]
   exact hx) (rcells_one _) (by rw [hrs]; omega)
 have hol : (over row.toList (i * 3) (rcells [x])).length = G * 3:=by rw [over_length _ _ _ (by rw [hrl,hx4]; omega),hrl]
 obtain ⟨w3,hw3⟩ : ∃ w3,w3 = w2.setRow w1.heap.size (over row.toList (i * 3) (rcells [x])).toArray:=⟨_,rfl⟩
 rw [← hw3] at hcp1
 have hg3 : w3.heap[w1.heap.size]? = some (.cells (over row.toList (i * 3) (rcells [x])).toArray 81 (0,0)):=by
  rw [hw3]
  exact setRow_heap w2 _ row _ _ _ hg2
 have hcp2 : ∀ ty dl dc sl sc,sl.min dl = n - i → (Builtin.copy_ #[25,25] ty #[.slice (some ⟨w1.heap.size,(i + 1) * 3,none⟩) dl dc,.slice (some ⟨g,i * 3,none⟩) sl sc]).run Tryz.prog w3.drew = .ok (goInt ((n - i : Nat) : Int)) (w3.drew.setRow w1.heap.size (over (over row.toList (i * 3) (rcells [x])) ((i + 1) * 3) (rcells (M.drop i))).toArray):=fun ty dl dc sl sc hmin=>by
  have:=run_copy_rows (w:=w3.drew) hg3 ty ((i + 1) * 3) dl dc ⟨g,i * 3,none⟩ sl sc (n - i) _ hmin hdl (fun j u hj=>by
   rw [rcells_drop M i (by omega),List.getElem?_drop] at hj
   have hlt : i * 3 + j < n * 3:=by
    rcases Nat.lt_or_ge (i * 3 + j) (n * 3) with h | h
    ·
     exact h
    ·
     rw [List.getElem?_eq_none (by rw [rcells_length,hn]; exact h)] at hj; cases hj
   rw [Go.WideShapes.add_plain,show w3.drew.cell? ⟨g,i * 3 + j,none⟩ = w3.cell? ⟨g,i * 3 + j,none⟩ from rfl,hw3,cell_setRow_other _ _ _ _ (by simp; omega),hBel.cell (by simp; omega),row_cell hg1,hcur _ hlt]
   exact hj) (rcells_one _) (by simp only [List.size_toArray,hol]; omega)
  exact this
 have HW : Hid (Own (w3.drew.setRow w1.heap.size (over (over row.toList (i * 3) (rcells [x])) ((i + 1) * 3) (rcells (M.drop i))).toArray) base (.slice (some ⟨w1.heap.size,0,none⟩) (n + 1) G) (M.take i ++ x :: M.drop i)):=hidIt (by
  have e : (M.take i ++ x :: M.drop i).length = n + 1:=by simp; omega
  unfold Own
  rw [e]
  refine ⟨by rw [rcells_length,e],.inr ⟨w1.heap.size,G,_,rfl,hb1,setRow_heap w3.drew _ _ _ _ _ hg3,hGe,hGm,?_,?_⟩⟩
  ·
   rw [List.size_toArray,over_length _ _ _ (by rw [hol,hdl]; omega),hol]
  ·
   rw [← hn]
   refine ins_row (by omega) (fun j hj=>?_) (fun j hj=>?_) (fun j hj=>?_)
   ·
    rw [over_get _ _ _ (by rw [hol,hdl]; omega),if_neg (by omega),over_get _ _ _ (by rw [hrl,hx4]; omega),if_neg (by omega),hrt _ hj]
   ·
    rw [over_get _ _ _ (by rw [hol,hdl]; omega),if_neg (by omega),over_get _ _ _ (by rw [hrl,hx4]; omega),if_pos ⟨by omega,by simp [rcells]; omega⟩]
    congr 1
    omega
   ·
    rw [over_get _ _ _ (by rw [hol,hdl]; omega),if_pos ⟨by omega,by rw [hdl]; omega⟩,rcells_drop M i (by omega),List.getElem?_drop]
    congr 1
    omega)
 have HGW : Hid (w1.grownBy (w3.drew.setRow w1.heap.size (over (over row.toList (i * 3) (rcells [x])) ((i + 1) * 3) (rcells (M.drop i))).toArray) (some g)):=hidIt (by
  rw [hw3]
  exact ⟨hBel.os,hBel.tape,hBel.output,by simp [World.setRow,World.drew]; omega,fun k hk _=>by
   rw [setRow_other _ _ _ _ (by omega)]
   show (w2.setRow w1.heap.size _).heap[k]? = _
   rw [setRow_other _ _ _ _ (by omega)]
   exact hBel.block k hk⟩)
 generalize w3.drew.setRow w1.heap.size (over (over row.toList (i * 3) (rcells [x])) ((i + 1) * 3) (rcells (M.drop i))).toArray = w4 at hcp2 HW HGW
 have hG63 : G ≤ 9223372036854775807:=hGm
 clear hcur hdl htl hol hg2 hg3 hw3 htk hsz hX hg1 hg hS1 hold hrow hrs hrt hBel
 have z1 : ((i : Int) == (n : Int)) = false:=by simp; omega
 have z2 : (n : Int) < (n : Int) + 1:=by omega
 have z3 : IntKind.i64.wrap ((i : Int) + 1) = (i : Int) + 1:=by rw [IntKind.wrap_i64]; omega
 have z4 : (0 : Int) ≤ (i : Int) + 1:=by omega
 have z5 : ((i : Int) + 1).toNat = i + 1:=by omega
 have z6 : (i : Int) + 1 ≤ (n : Int) + 1:=by omega
 have z7 : (i : Int) ≤ (n : Int) + 1:=by omega
 have z8 : (i : Int) ≤ (n : Int):=by omega
 have z9 : ¬ (G = i + 1):=by omega
 have z10 : ¬ (G = i):=by omega
 have z11 : ¬ (n = i):=by omega
 have z12 : (i : Int) ≤ (n : Int):=by omega
 have z13 : (n : Int) + 1 - (i : Int) = ((n + 1 - i : Nat) : Int):=by omega
 have hq0:=hap 25
 have hq1:=hcp1 3 (n + 1 - i) (G - i) (by simp only [Nat.min_def]; split <;> omega)
 have hq2:=hcp2 3 (n - i) (G - (i + 1)) (n - i) (n - i) (by simp only [Nat.min_def]; split <;> omega)
 rw [← z13] at hq0
 clear hcp1 hcp2 hap z13
 go_enter Tryz.func77,Tryz.ntmps77
 go_wp2_with (at_builtin; refine Go.Lib.wpList_append_run _ rfl _ _ _ _ rfl _ _ rfl rfl _ _ hq0 ?_)
 go_region
 go_wp2_with (fail)
 go_ret
 exact ⟨_,rfl,HW.out,HGW.out⟩
theorem insert_any (base : Nat) (v : Value) (M : List Rw) (i : Nat) (x : Rw) (w : World) (hO : Own w base v M) (hi : i ≤ M.length) (hl : M.length ≤ 60) (hb : base ≤ w.heap.size) :
  Calls Tryz.prog 77 #[v,.int .i64 i,.slice (some ⟨w.heap.size,0,none⟩) 1 1] (w.alloc (.cells (rc x) 81)) fun e w'=>∃ v',e = .returned v' ∧ Own w' base v' (M.take i ++ x :: M.drop i) ∧ (w.alloc (.cells (rc x) 81)).grownBy w' v.ownBlock:=by
 rcases Nat.lt_or_ge i M.length with h | h
 ·
  rcases hO.2 with ⟨e,h0⟩ | ⟨g,cap,cur,rfl,hbg,hg,hn,hm,hsz,htk⟩
  ·
   omega
  ·
   by_cases hr : M.length + 1 ≤ cap
   ·
    exact insert_room base g cap i cur M x w hbg hg h hr hm hsz htk hl
   ·
    exact insert_grow base g cap i cur M x w hbg hg h (by omega) hsz htk hl
 ·
  obtain rfl : i = M.length:=by omega
  rw [List.take_length,List.drop_length]
  exact insert_end base v M x w hO hl hb
end Go.Proofs.YtpkkmhpobfjclaaGreat.Mm
namespace Go.Proofs.YtpkkmhpobfjclaaGreat.Mk
abbrev Bytes:=List UInt8
structure En where
 key : Int
 value : Bytes
 time : Int
 node : Int
 gone : Bool
 deriving DecidableEq
def okE (e : En) : Bool:=decide (0 ≤ e.key) && decide (e.key ≤ 7) && decide (0 ≤ e.time) && decide (e.time ≤ 1000000) && decide (0 ≤ e.node) && decide (e.node ≤ 2)
def newB (a b : En) : Bool :=
 if a.time ≠ b.time then decide (b.time < a.time)
 else if a.node ≠ b.node then decide (b.node < a.node)
 else if a.gone ≠ b.gone then a.gone
 else decide (b.value < a.value)
theorem lt_total {a b : Bytes} (h : ¬ a < b) (k : ¬ b < a) : a = b:=List.le_antisymm k h
theorem new_irrefl (a : En) : newB a a = false:=by
 unfold newB
 simp [List.lt_irrefl]
theorem new_asymm {a b : En} (h : newB a b = true) : newB b a = false:=by
 unfold newB at h ⊢
 by_cases h1 : a.time = b.time
 ·
  rw [if_neg (by simp [h1])] at h
  rw [if_neg (by simp [h1])]
  by_cases h2 : a.node = b.node
  ·
   rw [if_neg (by simp [h2])] at h
   rw [if_neg (by simp [h2])]
   by_cases h3 : a.gone = b.gone
   ·
    rw [if_neg (by simp [h3])] at h
    rw [if_neg (by simp [h3])]
    exact decide_eq_false (fun k=>List.lt_irrefl _ (List.lt_trans k (of_decide_eq_true h)))
   ·
    rw [if_pos h3] at h
    rw [if_pos (fun e=>h3 e.symm)]
    cases hb : b.gone
    ·
     rfl
    ·
     rw [h,hb] at h3; exact absurd rfl h3
  ·
   rw [if_pos h2] at h
   rw [if_pos (fun e=>h2 e.symm)]
   have:=of_decide_eq_true h
   exact decide_eq_false (by omega)
 ·
  rw [if_pos h1] at h
  rw [if_pos (fun e=>h1 e.symm)]
  have:=of_decide_eq_true h
  exact decide_eq_false (by omega)
theorem new_total {a b : En} (h : newB a b = false) (k : newB b a = false) : a.time = b.time ∧ a.node = b.node ∧ a.gone = b.gone ∧ a.value = b.value:=by
 unfold newB at h k
 by_cases h1 : a.time = b.time
 ·
  rw [if_neg (by simp [h1])] at h
  rw [if_neg (by simp [h1])] at k
  by_cases h2 : a.node = b.node
  ·
   rw [if_neg (by simp [h2])] at h
   rw [if_neg (by simp [h2])] at k
   by_cases h3 : a.gone = b.gone
   ·
    rw [if_neg (by simp [h3])] at h
    rw [if_neg (by simp [h3])] at k
    exact ⟨h1,h2,h3,lt_total (of_decide_eq_false k) (of_decide_eq_false h)⟩
   ·
    rw [if_pos h3] at h
    rw [if_pos (fun e=>h3 e.symm)] at k
    exact absurd (h.trans k.symm) h3
  ·
   rw [if_pos h2] at h
   rw [if_pos (fun e=>h2 e.symm)] at k
   have h':=of_decide_eq_false h
   have k':=of_decide_eq_false k
   exact absurd (by omega) h2
 ·
  rw [if_pos h1] at h
  rw [if_pos (fun e=>h1 e.symm)] at k
  have h':=of_decide_eq_false h
  have k':=of_decide_eq_false k
  exact absurd (by omega) h1
theorem new_trans {a b c : En} (h : newB a b = true) (k : newB b c = true) : newB a c = true:=by
 unfold newB at h k ⊢
 by_cases t1 : a.time = b.time
 ·
  rw [if_neg (by simp [t1])] at h
  by_cases t2 : b.time = c.time
  ·
   rw [if_neg (by simp [t2])] at k
   rw [if_neg (by simp [t1,t2])]
   by_cases n1 : a.node = b.node
   ·
    rw [if_neg (by simp [n1])] at h
    by_cases n2 : b.node = c.node
    ·
     rw [if_neg (by simp [n2])] at k
     rw [if_neg (by simp [n1,n2])]
     by_cases g1 : a.gone = b.gone
     ·
      rw [if_neg (by simp [g1])] at h
      by_cases g2 : b.gone = c.gone
      ·
       rw [if_neg (by simp [g2])] at k
       rw [if_neg (by simp [g1,g2])]
       exact decide_eq_true (List.lt_trans (of_decide_eq_true k) (of_decide_eq_true h))
      ·
       rw [if_pos g2] at k
       rw [if_pos (by rw [g1]; exact g2),g1]
       exact k
     ·
      rw [if_pos g1] at h
      by_cases g2 : b.gone = c.gone
      ·
       rw [if_pos (by rw [← g2]; exact g1)]
       exact h
      ·
       rw [if_pos g2] at k
       exact absurd (h.trans k.symm) g1
    ·
     rw [if_pos n2] at k
     rw [if_pos (by rw [n1]; exact n2),n1]
     exact k
   ·
    rw [if_pos n1] at h
    have h':=of_decide_eq_true h
    by_cases n2 : b.node = c.node
    ·
     rw [if_pos (by rw [← n2]; exact n1),← n2]
     exact h
    ·
     rw [if_pos n2] at k
     have k':=of_decide_eq_true k
     rw [if_pos (by omega)]
     exact decide_eq_true (by omega)
  ·
   rw [if_pos t2] at k
   rw [if_pos (by rw [t1]; exact t2),t1]
   exact k
 ·
  rw [if_pos t1] at h
  have h':=of_decide_eq_true h
  by_cases t2 : b.time = c.time
  ·
   rw [if_pos (by rw [← t2]; exact t1),← t2]
   exact h
  ·
   rw [if_pos t2] at k
   have k':=of_decide_eq_true k
   rw [if_pos (by omega)]
   exact decide_eq_true (by omega)
theorem en_ext {a b : En} (hk : a.key = b.key) (h : newB a b = false) (k : newB b a = false) : a = b:=by
 obtain ⟨h1,h2,h3,h4⟩:=new_total h k
 cases a
 cases b
 simp_all
def Ris (L : List En) : Prop:=L.Pairwise fun a b=>a.key < b.key
def look (L : List En) (k : Int) : Option En:=L.find? fun e=>decide (e.key = k)
theorem look_nil (k : Int) : look [] k = none:=rfl
theorem look_cons (a : En) (L : List En) (k : Int) : look (a :: L) k = if a.key = k then some a else look L k:=by
 unfold look
 rw [List.find?_cons]
 by_cases h : a.key = k
 ·
  rw [if_pos h]; simp [h]
 ·
  rw [if_neg h]; simp [h]
theorem look_some {L : List En} {k : Int} {e : En} (h : look L k = some e) : e ∈ L ∧ e.key = k:=by
 unfold look at h
 exact ⟨List.mem_of_find?_eq_some h,by simpa using List.find?_some h⟩
theorem look_none_of {L : List En} {k : Int} (h : ∀ e ∈ L,e.key ≠ k) : look L k = none:=by
 unfold look
 exact List.find?_eq_none.2 (fun e he=>by simpa using h e he)
theorem ris_cons {a : En} {L : List En} : Ris (a :: L) ↔ (∀ b ∈ L,a.key < b.key) ∧ Ris L:=List.pairwise_cons
theorem look_mem {L : List En} (h : Ris L) {e : En} (he : e ∈ L) : look L e.key = some e:=by
 induction L with
 | nil=>cases he
 | cons a L ih =>
  obtain ⟨h1,h2⟩:=ris_cons.1 h
  rw [look_cons]
  rcases List.mem_cons.1 he with rfl | he
  ·
   rw [if_pos rfl]
  ·
   rw [if_neg (fun e'=>Int.lt_irrefl _ (by have:=h1 e he; rw [e'] at this; exact this))]
   exact ih h2 he
theorem ris_ext {L M : List En} (hL : Ris L) (hM : Ris M) (h : ∀ k,look L k = look M k) : L = M:=by
 induction L generalizing M with
 | nil =>
  cases M with
  | nil=>rfl
  | cons b M=>have:=h b.key; rw [look_nil,look_cons,if_pos rfl] at this; cases this
 | cons a L ih =>
  cases M with
  | nil=>have:=h a.key; rw [look_nil,look_cons,if_pos rfl] at this; cases this
  | cons b M =>
   obtain ⟨a1,a2⟩:=ris_cons.1 hL
   obtain ⟨b1,b2⟩:=ris_cons.1 hM
   have ea:=h a.key
   have eb:=h b.key
   rw [look_cons,if_pos rfl] at ea
   rw [look_cons b,if_pos rfl] at eb
   have hab : a = b:=by
    obtain ⟨ma,_⟩:=look_some ea.symm
    obtain ⟨mb,_⟩:=look_some eb
    rcases List.mem_cons.1 ma with e | ma
    ·
     exact e
    ·
     rcases List.mem_cons.1 mb with e | mb
     ·
      exact e.symm
     ·
      exact absurd (Int.lt_trans (a1 b mb) (b1 a ma)) (Int.lt_irrefl _)
   subst hab
   rw [ih a2 b2 (fun k=>?_)]
   have hk:=h k
   rw [look_cons,look_cons] at hk
   by_cases e : a.key = k
   ·
    rw [look_none_of (fun x hx=>by intro e'; have:=a1 x hx; rw [e',e] at this; exact Int.lt_irrefl _ this),look_none_of (fun x hx=>by intro e'; have:=b1 x hx; rw [e',e] at this; exact Int.lt_irrefl _ this)]
   ·
    rw [if_neg e,if_neg e] at hk
    exact hk
def pickE : Option En → Option En → Option En
 | none,y=>y
 | some x,none=>some x
 | some x,some y=>some (if newB y x then y else x)
structure IsJoin (A B J : List En) : Prop where
 ris : Ris J
 at' : ∀ k,look J k = pickE (look A k) (look B k)
theorem IsJoin.unique {A B J K : List En} (h : IsJoin A B J) (k : IsJoin A B K) : J = K:=ris_ext h.ris k.ris (fun x=>(h.at' x).trans (k.at' x).symm)
def mergeE : List En → List En → List En
 | [],B=>B
 | a :: A,[]=>a :: A
 | a :: A,b :: B=>if a.key < b.key then a :: mergeE A (b :: B) else if b.key < a.key then b :: mergeE (a :: A) B else (if newB b a then b else a) :: mergeE A B
 termination_by A B=>A.length + B.length
theorem mergeE_nil (B : List En) : mergeE [] B = B:=by unfold mergeE; rfl
theorem mergeE_right (A : List En) : mergeE A [] = A:=by
 cases A with
 | nil=>exact mergeE_nil []
 | cons a A=>unfold mergeE; rfl
theorem mergeE_cons (a b : En) (A B : List En) : mergeE (a :: A) (b :: B) = if a.key < b.key then a :: mergeE A (b :: B) else if b.key < a.key then b :: mergeE (a :: A) B else (if newB b a then b else a) :: mergeE A B:=by
 conv=>lhs; unfold mergeE
theorem pick_none_right (x : Option En) : pickE x none = x:=by cases x <;> rfl
theorem merge_mem : ∀ (A B : List En) {e : En},e ∈ mergeE A B → e ∈ A ∨ e ∈ B
 | [],B,e,h=>by rw [mergeE_nil] at h; exact .inr h
 | a :: A,[],e,h=>by rw [mergeE_right] at h; exact .inl h
 | a :: A,b :: B,e,h=>by
  rw [mergeE_cons] at h
  by_cases h1 : a.key < b.key
  ·
   rw [if_pos h1] at h
   rcases List.mem_cons.1 h with rfl | h
   ·
    exact .inl (List.mem_cons_self ..)
   ·
    rcases merge_mem A (b :: B) h with h | h
    ·
     exact .inl (List.mem_cons_of_mem _ h)
    ·
     exact .inr h
  ·
   rw [if_neg h1] at h
   by_cases h2 : b.key < a.key
   ·
    rw [if_pos h2] at h
    rcases List.mem_cons.1 h with rfl | h
    ·
     exact .inr (List.mem_cons_self ..)
    ·
     rcases merge_mem (a :: A) B h with h | h
     ·
      exact .inl h
     ·
      exact .inr (List.mem_cons_of_mem _ h)
   ·
    rw [if_neg h2] at h
    rcases List.mem_cons.1 h with h | h
    ·
     cases hn : newB b a
     ·
      rw [hn] at h; exact .inl (by rw [h]; exact List.mem_cons_self ..)
     ·
      rw [hn] at h; exact .inr (by rw [h]; exact List.mem_cons_self ..)
    ·
     rcases merge_mem A B h with h | h
     ·
      exact .inl (List.mem_cons_of_mem _ h)
     ·
      exact .inr (List.mem_cons_of_mem _ h)
 termination_by A B=>A.length + B.length
theorem merge_join : ∀ (A B : List En),Ris A → Ris B → IsJoin A B (mergeE A B)
 | [],B,_,hB=>by rw [mergeE_nil]; exact ⟨hB,fun k=>rfl⟩
 | a :: A,[],hA,_=>by rw [mergeE_right]; exact ⟨hA,fun k=>by rw [look_nil,pick_none_right]⟩
 | a :: A,b :: B,hA,hB=>by
  obtain ⟨a1,a2⟩:=ris_cons.1 hA
  obtain ⟨b1,b2⟩:=ris_cons.1 hB
  have noA : ∀ k,a.key = k → look A k = none:=fun k e=>look_none_of (fun x hx e'=>by have:=a1 x hx; rw [e',e] at this; exact Int.lt_irrefl _ this)
  have noB : ∀ k,b.key = k → look B k = none:=fun k e=>look_none_of (fun x hx e'=>by have:=b1 x hx; rw [e',e] at this; exact Int.lt_irrefl _ this)
  rw [mergeE_cons]
  by_cases h1 : a.key < b.key
  ·
   rw [if_pos h1]
   have ih:=merge_join A (b :: B) a2 hB
   refine ⟨ris_cons.2 ⟨fun x hx=>?_,ih.ris⟩,fun k=>?_⟩
   ·
    rcases merge_mem A (b :: B) hx with h | h
    ·
     exact a1 x h
    ·
     rcases List.mem_cons.1 h with rfl | h
     ·
      exact h1
     ·
      exact Int.lt_trans h1 (b1 x h)
   ·
    rw [look_cons,look_cons a,ih.at']
    by_cases e : a.key = k
    ·
     rw [if_pos e,if_pos e,look_none_of (fun x hx e'=>?_),pick_none_right]
     rcases List.mem_cons.1 hx with rfl | h
     ·
      rw [e',e] at h1; exact Int.lt_irrefl _ h1
     ·
      have:=Int.lt_trans h1 (b1 x h); rw [e',e] at this; exact Int.lt_irrefl _ this
    ·
     rw [if_neg e,if_neg e]
  ·
   rw [if_neg h1]
   by_cases h2 : b.key < a.key
   ·
    rw [if_pos h2]
    have ih:=merge_join (a :: A) B hA b2
    refine ⟨ris_cons.2 ⟨fun x hx=>?_,ih.ris⟩,fun k=>?_⟩
    ·
     rcases merge_mem (a :: A) B hx with h | h
     ·
      rcases List.mem_cons.1 h with rfl | h
      ·
       exact h2
      ·
       exact Int.lt_trans h2 (a1 x h)
     ·
      exact b1 x h
    ·
     rw [look_cons,look_cons b B,ih.at']
     by_cases e : b.key = k
     ·
      rw [if_pos e,if_pos e,look_none_of (L:=a :: A) (fun x hx e'=>?_)]
      ·
       rfl
      ·
       rcases List.mem_cons.1 hx with rfl | h
       ·
        rw [e',e] at h2; exact Int.lt_irrefl _ h2
       ·
        have:=Int.lt_trans h2 (a1 x h); rw [e',e] at this; exact Int.lt_irrefl _ this
     ·
      rw [if_neg e,if_neg e]
   ·
    rw [if_neg h2]
    have hk : a.key = b.key:=Int.le_antisymm (Int.not_lt.1 h2) (Int.not_lt.1 h1)
    have ih:=merge_join A B a2 b2
    have kk : (if newB b a = true then b else a).key = a.key:=by split <;> simp [hk]
    refine ⟨ris_cons.2 ⟨fun x hx=>?_,ih.ris⟩,fun k=>?_⟩
    ·
     rw [kk]
     rcases merge_mem A B hx with h | h
     ·
      exact a1 x h
     ·
      rw [hk]; exact b1 x h
    ·
     rw [look_cons,look_cons a A,look_cons b B,ih.at',kk]
     by_cases e : a.key = k
     ·
      rw [if_pos e,if_pos e,if_pos (show b.key = k from hk.symm.trans e)]
      rfl
     ·
      rw [if_neg e,if_neg e,if_neg (fun e'=>e (hk.trans e'))]
 termination_by A B=>A.length + B.length
def KeyAt (k : Int) (o : Option En) : Prop:=∀ e,o = some e → e.key = k
theorem look_at (L : List En) (k : Int) : KeyAt k (look L k):=fun e h=>(look_some h).2
theorem pick_at {k : Int} {x y : Option En} (hx : KeyAt k x) (hy : KeyAt k y) : KeyAt k (pickE x y):=by
 intro e h
 cases x with
 | none=>exact hy e h
 | some a =>
  cases y with
  | none=>exact hx e h
  | some b =>
   have h':=Option.some.inj h
   cases hn : newB b a with
   | true=>rw [hn,if_pos rfl] at h'; rw [← h']; exact hy b rfl
   | false=>rw [hn,if_neg (by decide)] at h'; rw [← h']; exact hx a rfl
theorem pick_comm {k : Int} {x y : Option En} (hx : KeyAt k x) (hy : KeyAt k y) : pickE x y = pickE y x:=by
 cases x with
 | none=>rw [pick_none_right]; rfl
 | some a =>
  cases y with
  | none=>rfl
  | some b =>
   show some _ = some _
   cases h1 : newB b a with
   | true=>rw [new_asymm h1]; simp
   | false =>
    cases h2 : newB a b with
    | true=>simp
    | false=>simp [en_ext ((hx a rfl).trans (hy b rfl).symm) h2 h1]
theorem pick_self (x : Option En) : pickE x x = x:=by
 cases x with
 | none=>rfl
 | some a=>show some _ = some _; rw [new_irrefl]; simp
theorem not_new_trans {a b c : En} (hk : a.key = b.key) (h : newB a b = false) (k : newB b c = false) : newB a c = false:=by
 cases hac : newB a c with
 | false=>rfl
 | true =>
  cases hba : newB b a with
  | true=>exact absurd (new_trans hba hac) (by rw [k]; decide)
  | false=>rw [en_ext hk h hba] at hac; rw [hac] at k; cases k
theorem pick_assoc {k : Int} {x y z : Option En} (hx : KeyAt k x) (hy : KeyAt k y) (hz : KeyAt k z) : pickE (pickE x y) z = pickE x (pickE y z):=by
 cases x with
 | none=>rfl
 | some a =>
  cases y with
  | none=>rfl
  | some b =>
   cases z with
   | none=>rfl
   | some c =>
    have ka:=hx a rfl
    have kb:=hy b rfl
    have kc:=hz c rfl
    cases h1 : newB b a with
    | true =>
     cases h2 : newB c b with
     | true=>simp [pickE,h1,h2,new_trans h2 h1]
     | false=>simp [pickE,h1,h2]
    | false =>
     cases h2 : newB c b with
     | true=>simp [pickE,h1,h2]
     | false=>simp [pickE,h1,h2,not_new_trans (kc.trans kb.symm) h2 h1]
theorem IsJoin.mem {A B J : List En} (h : IsJoin A B J) {e : En} (he : e ∈ J) : e ∈ A ∨ e ∈ B:=by
 have hl:=(look_mem h.ris he).symm.trans (h.at' e.key)
 cases hA : look A e.key with
 | none=>rw [hA] at hl; exact .inr (look_some (k:=e.key) hl.symm).1
 | some a =>
  cases hB : look B e.key with
  | none=>rw [hA,hB] at hl; exact .inl (by rw [Option.some.inj hl]; exact (look_some hA).1)
  | some b =>
   rw [hA,hB] at hl
   have h':=Option.some.inj hl
   cases hn : newB b a with
   | true=>rw [hn,if_pos rfl] at h'; rw [h']; exact .inr (look_some hB).1
   | false=>rw [hn,if_neg (by decide)] at h'; rw [h']; exact .inl (look_some hA).1
def risB : List En → Bool
 | []=>true
 | [_]=>true
 | a :: b :: L=>decide (a.key < b.key) && risB (b :: L)
theorem risB_iff : ∀ L : List En,risB L = true ↔ Ris L
 | []=>by simp [risB,Ris]
 | [a]=>by simp [risB,Ris]
 | a :: b :: L=>by
  unfold risB
  rw [Bool.and_eq_true,decide_eq_true_eq,risB_iff (b :: L),ris_cons (a:=a)]
  refine ⟨fun ⟨h1,h2⟩=>⟨fun x hx=>?_,h2⟩,fun ⟨h1,h2⟩=>⟨h1 b (List.mem_cons_self ..),h2⟩⟩
  rcases List.mem_cons.1 hx with rfl | hx
  ·
   exact h1
  ·
   exact Int.lt_trans h1 ((ris_cons.1 h2).1 x hx)
def okBk (L : List En) : Bool:=decide (L.length ≤ 8) && L.all okE && risB L
theorem ok_ris {L : List En} (h : okBk L = true) : Ris L:=by
 unfold okBk at h
 simp only [Bool.and_eq_true] at h
 exact (risB_iff L).1 h.2
theorem ok_len {L : List En} (h : okBk L = true) : L.length ≤ 8:=by
 unfold okBk at h
 simp only [Bool.and_eq_true,decide_eq_true_eq] at h
 exact h.1.1
theorem ok_all {L : List En} (h : okBk L = true) {e : En} (he : e ∈ L) : okE e = true:=by
 unfold okBk at h
 simp only [Bool.and_eq_true,List.all_eq_true] at h
 exact h.1.2 e he
theorem ok_mk {L : List En} (h1 : L.length ≤ 8) (h2 : ∀ e ∈ L,okE e = true) (h3 : Ris L) : okBk L = true:=by
 unfold okBk
 simp only [Bool.and_eq_true,decide_eq_true_eq,List.all_eq_true]
 exact ⟨⟨h1,h2⟩,(risB_iff L).2 h3⟩
end Go.Proofs.YtpkkmhpobfjclaaGreat.Mk
namespace Go.Proofs.YtpkkmhpobfjclaaGreat.Mm
open Go.ChangeShapes Go.WideShapes Go.ChangeAt Go.RowKit
open Rc (BelowBy BelowBy.one wp_region_below calls_below calls_same)
open Mk (okE newB okBk look Ris)
def toE (x : Rw) : Mk.En:=⟨x.1,[],x.2.1,x.2.2,false⟩
theorem toE_inj {x y : Rw} (h : toE x = toE y) : x = y:=by
 obtain ⟨a,b,c⟩:=x
 obtain ⟨a',b',c'⟩:=y
 simp only [toE,Mk.En.mk.injEq] at h
 obtain ⟨rfl,_,rfl,rfl,_⟩:=h
 rfl
abbrev toB (L : List Rw) : List Mk.En:=L.map toE
theorem toB_inj {L M : List Rw} (h : toB L = toB M) : L = M:=by
 induction L generalizing M with
 | nil=>cases M with
  | nil=>rfl
  | cons y M=>cases h
 | cons x L ih=>cases M with
  | nil=>cases h
  | cons y M =>
   simp only [toB,List.map_cons,List.cons.injEq] at h
   rw [toE_inj h.1,ih h.2]
abbrev kat (L : List Rw) (i : Nat) : Int:=(rat L i).1
theorem new_str (x y : Rw) : newB (toE x) (toE y) = (decide (y.2.1 < x.2.1) || (decide (x.2.1 = y.2.1) && decide (y.2.2 < x.2.2))):=by
 obtain ⟨a,b,c⟩:=x
 obtain ⟨a',b',c'⟩:=y
 unfold newB toE
 simp only
 by_cases h : b = b'
 ·
  subst h
  rw [if_neg (by simp)]
  by_cases k : c = c'
  ·
   subst k; simp
  ·
   rw [if_pos k]; simp
 ·
  rw [if_pos h]
  simp [h]
theorem ris_of {L : List Rw} (h : ∀ i,i + 1 < L.length → kat L i < kat L (i + 1)) : Ris (toB L):=by
 unfold Ris
 rw [List.pairwise_iff_getElem]
 have far : ∀ d i,i + d + 1 < L.length → kat L i < kat L (i + d + 1):=by
  intro d
  induction d with
  | zero=>intro i hi; exact h i hi
  | succ d ih=>intro i hi; exact Int.lt_trans (ih i (by omega)) (h (i + d + 1) hi)
 intro i j hi hj hij
 rw [List.length_map] at hi hj
 have:=far (j - i - 1) i (by omega)
 rw [show i + (j - i - 1) + 1 = j by omega] at this
 unfold kat at this
 rw [rat_at hi,rat_at hj] at this
 rw [List.getElem_map,List.getElem_map]
 exact this
theorem ris_to {L : List Rw} (h : Ris (toB L)) (i : Nat) (hi : i + 1 < L.length) : kat L i < kat L (i + 1):=by
 unfold Ris at h
 rw [List.pairwise_iff_getElem] at h
 have:=h i (i + 1) (by rw [List.length_map]; omega) (by rw [List.length_map]; exact hi) (by omega)
 rw [List.getElem_map,List.getElem_map] at this
 unfold kat
 rw [rat_at (by omega),rat_at hi]
 exact this
theorem book_yes {L : List Rw} (h1 : L.length ≤ 8) (h2 : ∀ i,i < L.length → okE (toE (rat L i)) = true) (h3 : ∀ i,i + 1 < L.length → kat L i < kat L (i + 1)) : okBk (toB L) = true:=by
 refine Mk.ok_mk (by rw [List.length_map]; exact h1) (fun e he=>?_) (ris_of h3)
 obtain ⟨x,hx,rfl⟩:=List.mem_map.1 he
 obtain ⟨i,hi,rfl⟩:=List.mem_iff_getElem.1 hx
 have:=h2 i hi
 rwa [rat_at hi] at this
theorem book_no1 {L : List Rw} (h : ¬ L.length ≤ 8) : okBk (toB L) = false:=by
 cases e : okBk (toB L) with
 | false=>rfl
 | true=>exact absurd (by have:=Mk.ok_len e; rwa [List.length_map] at this) h
theorem book_no2 {L : List Rw} {i : Nat} (hi : i < L.length) (h : okE (toE (rat L i)) = false) : okBk (toB L) = false:=by
 cases e : okBk (toB L) with
 | false=>rfl
 | true =>
  have:=Mk.ok_all e (List.mem_map.2 ⟨_,rat_mem hi,rfl⟩)
  rw [h] at this
  cases this
theorem book_no3 {L : List Rw} {i : Nat} (hi : i + 1 < L.length) (h : ¬ kat L i < kat L (i + 1)) : okBk (toB L) = false:=by
 cases e : okBk (toB L) with
 | false=>rfl
 | true=>exact absurd (ris_to (Mk.ok_ris e) i hi) h
theorem spec_Stronger (x y : Rw) (w : World) : Calls Tryz.prog 49 #[rv x,rv y] w fun e w'=>e = .returned (.bool (newB (toE x) (toE y))) ∧ Below w.heap.size w w':=by
 rw [new_str]
 obtain ⟨a,b,c⟩:=x
 obtain ⟨a',b',c'⟩:=y
 simp only
 by_cases h1 : b' < b
 ·
  rw [decide_eq_true h1,Bool.true_or]
  go_enter Tryz.func49,Tryz.ntmps49
  go_wp2
  go_ret
  exact ⟨rfl,by go_grown⟩
 ·
  rw [decide_eq_false h1,Bool.false_or]
  by_cases h2 : b = b'
  ·
   subst h2
   have e2 : (b == b) = true:=by simp
   rw [decide_eq_true rfl,Bool.true_and]
   go_enter Tryz.func49,Tryz.ntmps49
   go_wp2
   go_ret
   exact ⟨rfl,by go_grown⟩
  ·
   have e2 : (b == b') = false:=by simpa using h2
   rw [decide_eq_false h2,Bool.false_and]
   go_enter Tryz.func49,Tryz.ntmps49
   go_wp2
   go_ret
   exact ⟨rfl,by go_grown⟩
end Go.Proofs.YtpkkmhpobfjclaaGreat.Mm
namespace Go.Proofs.YtpkkmhpobfjclaaGreat.Mk
theorem look_append (X Y : List En) (k : Int) : look (X ++ Y) k = (look X k).or (look Y k):=by
 unfold look
 rw [List.find?_append]
theorem join_more {A B J J' : List En} {b : En} (h : IsJoin A B J) (hb : look B b.key = none) (r : Ris J') (e : ∀ x,look J' x = if x = b.key then pickE (look J x) (some b) else look J x) : IsJoin A (B ++ [b]) J':=by
 refine ⟨r,fun x=>?_⟩
 rw [e x,h.at',look_append,look_cons,look_nil]
 by_cases hx : x = b.key
 ·
  subst hx
  rw [if_pos rfl,if_pos rfl,hb,pick_none_right]
  rfl
 ·
  rw [if_neg hx,if_neg (fun e=>hx e.symm)]
  cases look B x <;> rfl
theorem set_ris {X Y : List En} {c b : En} (h : Ris (X ++ c :: Y)) (hk : c.key = b.key) : Ris (X ++ b :: Y):=by
 unfold Ris at h ⊢
 rw [List.pairwise_append,List.pairwise_cons] at h ⊢
 refine ⟨h.1,⟨fun y hy=>hk ▸ h.2.1.1 y hy,h.2.1.2⟩,fun x hx y hy=>?_⟩
 rcases List.mem_cons.1 hy with rfl | hy
 ·
  rw [← hk]; exact h.2.2 x hx c (List.mem_cons_self ..)
 ·
  exact h.2.2 x hx y (List.mem_cons_of_mem _ hy)
theorem mid_look {X Y : List En} {c : En} (h : Ris (X ++ c :: Y)) (x : Int) : look (X ++ c :: Y) x = if x = c.key then some c else look (X ++ Y) x:=by
 unfold Ris at h
 rw [List.pairwise_append,List.pairwise_cons] at h
 rw [look_append,look_append,look_cons]
 by_cases hx : x = c.key
 ·
  subst hx
  rw [if_pos rfl,if_pos rfl,look_none_of (fun e he e'=>by have:=h.2.2 e he c (List.mem_cons_self ..); rw [e'] at this; exact Int.lt_irrefl _ this)]
  rfl
 ·
  rw [if_neg hx,if_neg (fun e=>hx e.symm)]
theorem mid_none {X Y : List En} {c : En} (h : Ris (X ++ c :: Y)) : look (X ++ Y) c.key = none:=by
 unfold Ris at h
 rw [List.pairwise_append,List.pairwise_cons] at h
 refine look_none_of (fun e he e'=>?_)
 rcases List.mem_append.1 he with he | he
 ·
  have:=h.2.2 e he c (List.mem_cons_self ..); rw [e'] at this; exact Int.lt_irrefl _ this
 ·
  have:=h.2.1.1 e he; rw [e'] at this; exact Int.lt_irrefl _ this
theorem join_set {A B X Y : List En} {c b : En} (h : IsJoin A B (X ++ c :: Y)) (hb : look B b.key = none) (hk : c.key = b.key) (hn : newB b c = true) : IsJoin A (B ++ [b]) (X ++ b :: Y):=by
 have r:=set_ris h.ris hk
 refine join_more h hb r (fun x=>?_)
 rw [mid_look r,mid_look h.ris]
 by_cases hx : x = b.key
 ·
  rw [if_pos hx,if_pos hx,if_pos (hx.trans hk.symm)]
  show _ = some (if newB b c = true then b else c)
  rw [if_pos hn]
 ·
  rw [if_neg hx,if_neg hx,if_neg (fun e=>hx (e.trans hk))]
theorem join_keep {A B X Y : List En} {c b : En} (h : IsJoin A B (X ++ c :: Y)) (hb : look B b.key = none) (hk : c.key = b.key) (hn : newB b c = false) : IsJoin A (B ++ [b]) (X ++ c :: Y):=by
 refine join_more h hb h.ris (fun x=>?_)
 rw [mid_look h.ris]
 by_cases hx : x = b.key
 ·
  rw [if_pos (hx.trans hk.symm),if_pos hx]
  show _ = some (if newB b c = true then b else c)
  rw [hn,if_neg (by decide)]
 ·
  rw [if_neg (fun e=>hx (e.trans hk)),if_neg hx]
theorem join_ins {A B X Y : List En} {b : En} (h : IsJoin A B (X ++ Y)) (hb : look B b.key = none) (hX : ∀ e ∈ X,e.key < b.key) (hY : ∀ e ∈ Y,b.key < e.key) : IsJoin A (B ++ [b]) (X ++ b :: Y):=by
 have r : Ris (X ++ b :: Y):=by
  have:=h.ris
  unfold Ris at this ⊢
  rw [List.pairwise_append] at this ⊢
  refine ⟨this.1,List.pairwise_cons.2 ⟨hY,this.2.1⟩,fun x hx y hy=>?_⟩
  rcases List.mem_cons.1 hy with rfl | hy
  ·
   exact hX x hx
  ·
   exact this.2.2 x hx y hy
 refine join_more h hb r (fun x=>?_)
 rw [mid_look r]
 by_cases hx : x = b.key
 ·
  subst hx
  rw [if_pos rfl,if_pos rfl,mid_none r]
  rfl
 ·
  rw [if_neg hx,if_neg hx]
theorem take_none {B : List En} (h : Ris B) {i : Nat} (hi : i < B.length) : look (B.take i) (B[i]).key = none:=by
 refine look_none_of (fun e he e'=>?_)
 obtain ⟨j,hj,rfl⟩:=List.mem_iff_getElem.1 he
 rw [List.length_take] at hj
 unfold Ris at h
 rw [List.pairwise_iff_getElem] at h
 have:=h j i (by omega) hi (by omega)
 rw [List.getElem_take] at e'
 rw [e'] at this
 exact Int.lt_irrefl _ this
theorem join_start {A : List En} (h : Ris A) : IsJoin A [] A:=⟨h,fun k=>by rw [look_nil,pick_none_right]⟩
end Go.Proofs.YtpkkmhpobfjclaaGreat.Mk
namespace Go.Proofs.YtpkkmhpobfjclaaGreat.Mm
open Mk (okE newB okBk look Ris IsJoin)
theorem toB_length (L : List Rw) : (toB L).length = L.length:=List.length_map ..
theorem toB_at {L : List Rw} {i : Nat} (h : i < L.length) : (toB L)[i]'(by rw [toB_length]; exact h) = toE (rat L i):=by rw [rat_at h]; exact List.getElem_map ..
theorem split_at {M : List Rw} {k : Nat} (h : k < M.length) : M = M.take k ++ rat M k :: M.drop (k + 1):=by
 rw [rat_at h,List.getElem_cons_drop,List.take_append_drop]
theorem join_step {A B M : List Rw} {i k : Nat} (hB : Ris (toB B)) (hi : i < B.length) (h : IsJoin (toB A) ((toB B).take i) (toB M)) (hk : k ≤ M.length) (h1 : ∀ j,j < k → kat M j < kat B i) (h2 : k < M.length → ¬ kat M k < kat B i) :
  (∀ hk' : k < M.length,kat M k = kat B i → newB (toE (rat B i)) (toE (rat M k)) = true → IsJoin (toB A) ((toB B).take (i + 1)) (toB (M.set k (rat B i)))) ∧
  (∀ hk' : k < M.length,kat M k = kat B i → newB (toE (rat B i)) (toE (rat M k)) = false → IsJoin (toB A) ((toB B).take (i + 1)) (toB M)) ∧
  ((k < M.length → kat M k ≠ kat B i) → IsJoin (toB A) ((toB B).take (i + 1)) (toB (M.take k ++ rat B i :: M.drop k))):=by
 have hi' : i < (toB B).length:=by rw [toB_length]; exact hi
 have hn:=Mk.take_none hB hi'
 have et : (toB B).take (i + 1) = (toB B).take i ++ [toE (rat B i)]:=by rw [List.take_add_one,List.getElem?_eq_getElem hi',toB_at hi]; rfl
 rw [toB_at hi] at hn
 rw [et]
 refine ⟨fun hk' e hnew=>?_,fun hk' e hnew=>?_,fun e=>?_⟩
 ·
  rw [split_at hk'] at h
  simp only [toB,List.map_append,List.map_cons] at h ⊢
  rw [List.set_eq_take_append_cons_drop,if_pos hk']
  simp only [List.map_append,List.map_cons]
  exact Mk.join_set h hn e hnew
 ·
  have h':=h
  rw [split_at hk'] at h'
  simp only [toB,List.map_append,List.map_cons] at h'
  have:=Mk.join_keep h' hn e hnew
  rw [split_at hk']
  simp only [toB,List.map_append,List.map_cons]
  exact this
 ·
  simp only [toB,List.map_append,List.map_cons]
  have hj : IsJoin (toB A) ((toB B).take i) ((M.take k).map toE ++ (M.drop k).map toE):=by rw [← List.map_append,List.take_append_drop]; exact h
  refine Mk.join_ins hj hn (fun x hx=>?_) (fun x hx=>?_)
  ·
   obtain ⟨y,hy,rfl⟩:=List.mem_map.1 hx
   obtain ⟨j,hj,rfl⟩:=List.mem_iff_getElem.1 hy
   rw [List.length_take] at hj
   have:=h1 j (by omega)
   unfold kat at this
   rw [rat_at (by omega)] at this
   rw [List.getElem_take]
   exact this
  ·
   obtain ⟨y,hy,rfl⟩:=List.mem_map.1 hx
   obtain ⟨j,hj',rfl⟩:=List.mem_iff_getElem.1 hy
   rw [List.length_drop] at hj'
   have hk' : k < M.length:=by omega
   have hlt : kat B i < kat M k:=by
    rcases Classical.em (kat B i < kat M k) with h | h
    ·
     exact h
    ·
     exact absurd (Int.le_antisymm (Int.not_lt.1 h) (Int.not_lt.1 (h2 hk'))) (e hk')
   rw [List.getElem_drop]
   rcases Nat.eq_zero_or_pos j with hz | hp
   ·
    subst hz
    unfold kat at hlt
    rw [rat_at hk'] at hlt
    exact hlt
   ·
    have r:=h.ris
    unfold Ris at r
    rw [List.pairwise_iff_getElem] at r
    have:=r k (k + j) (by rw [toB_length]; exact hk') (by rw [toB_length]; omega) (by omega)
    rw [List.getElem_map,List.getElem_map] at this
    unfold kat at hlt
    rw [rat_at hk'] at hlt
    exact Int.lt_trans hlt this
end Go.Proofs.YtpkkmhpobfjclaaGreat.Mm
