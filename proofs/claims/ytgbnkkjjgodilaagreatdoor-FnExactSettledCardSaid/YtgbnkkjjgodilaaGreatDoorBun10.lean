/- Marks of rows of int64: markInt64S and heldInt64S of the laws. -/
import Derived.Test.YtgbnkkjjgodilaaGreatDoorBun9
import Derived.Test.YtgbnkkjjgodilaaGreatDoorNameQ
import Derived.OpenShut
import Derived.Laws.OwnMore
import Derived.Deep.OwnRows
import Derived.OwnWalk
import Derived.Laws.AppendOwn
import Derived.Lib.SmallJoins
import Derived.Deep.Strs
import Derived.Test.YtgbnkkjjgodilaaGreatDoorMem2M
import Derived.Shelf.Spec.SlicesInsert
import Derived.Lib.AppendZerosOnto
import Derived.Laws.CopyRow
import Derived.Deep.RegionLaw
import Derived.WalkKit
set_option maxRecDepth 100000
set_option maxHeartbeats 32000000
set_option linter.unusedVariables false
namespace Go.Proofs.YtgbnkkjjgodilaaGreatDoor.Iv
open Go.ChangeShapes Go.WideShapes Go.ChangeAt Go.RowKit
def markI (k n : Nat) : List Int:=(List.range n).map fun j=>((k + j : Nat) : Int)
theorem markI_length (k n : Nat) : (markI k n).length = n:=by simp [markI]
theorem iat_markI (k n j : Nat) (h : j < n) : iat (markI k n) j = ((k + j : Nat) : Int):=by
 rw [iat_at (by rw [markI_length]; exact h)]
 simp [markI]
theorem Rd.none_nil {w : World} {L : List Int} (h : Rd w none L) : L = []:=by
 cases L with
 | nil=>rfl
 | cons x r =>
  obtain ⟨b,o,e,_⟩:=h.cell 0 (by simp)
  cases e
def ob (w : World) (v : Value) : Nat:=v.ownBlock.getD w.heap.size
theorem markInt64S_any (base : Nat) (v : Value) (L : List Int) (k : Nat) (w : World) (h : Own w base v L) (h1 : 1 ≤ k) (h2 : k + L.length ≤ 1099511627776) :
  Calls Tryz.prog 33 #[v,.int .i64 k] w fun e w'=>e = .returned (.int .i64 ((k + L.length : Nat) : Int)) ∧ Own w' base v (markI k L.length) ∧ Only (ob w v) w w':=by
 obtain ⟨a,cap,rfl,hcap,hcm,hR,hna,hsome⟩:=h.form
 cases a with
 | none =>
  have e:=hR.none_nil
  subst e
  have e:=hna rfl
  subst e
  clear hsome hna
  go_enter Tryz.func33,Tryz.ntmps33
  go_wp2_with (fail)
  refine wp_loop_rounds 1 ?_
  rw [rounds_succ]
  go_wp2_with (fail)
  go_ret
  exact ⟨by simp,h,Only.refl _ _⟩
 | some x =>
  obtain ⟨g,rfl,hbg,hgl⟩:=hsome x rfl
  have eo : ob w (.slice (some ⟨g,0,none⟩) L.length cap) = g:=rfl
  rw [eo]
  have HO:=hidIt h
  generalize hn : L.length = n at *
  have HN:=hidIt hn
  clear h hR hna hsome hn eo hcm
  go_enter Tryz.func33,Tryz.ntmps33
  go_wp2_with (fail)
  go_loopw [1,5] (fun z y wx=>∃ (i : Nat) (M : List Int),y = .int .i64 i ∧ z = .int .i64 ((k + i : Nat) : Int) ∧ i ≤ n ∧ M.length = n ∧ Hid (∀ j,j < i → iat M j = ((k + j : Nat) : Int)) ∧ Hid (Own wx base (.slice (some ⟨g,0,none⟩) n cap) M) ∧ Hid (Only g w wx)) (fun _ y _=>(n - intOf y).toNat)
  case atStart=>exact ⟨0,L,rfl,rfl,by omega,HN.out,hidIt (fun j hj=>by omega),HO,hidIt (Only.refl _ _)⟩
  case round =>
   obtain ⟨i,M,rfl,rfl,hi,hM,hE,HOx,HY⟩:=hrel
   have HM:=hidIt hM
   clear hM HO
   by_cases hin : i < n
   ·
    have hin' : (i : Int) < (n : Int):=by omega
    have hiM : i < M.length:=by rw [HM.out]; exact hin
    generalize hk : k + i = q
    have HK:=hidIt hk
    clear hk
    have q1 : q + 1 ≤ 1099511627776:=by have:=HK.out; omega
    obtain ⟨c0,f0⟩:=HOx.out.at hiM
    have HL:=hidIt (HOx.out.set (i:=i) ((q : Nat) : Int))
    have HY1:=hidIt (HY.out.setCell i (.int .i64 ((q : Nat) : Int)))
    have HMi:=hidIt hiM
    clear HOx HY hiM
    go_wp2_with (fail)
    refine ⟨⟨i + 1,_,by simp,?_,by omega,by rw [List.length_set]; exact HM.out,hidIt (fun j hj=>?_),HL,HY1⟩,by simp [intOf]; omega⟩
    ·
     have:=HK.out
     congr 1
     omega
    ·
     rw [iat_set HMi.out]
     split
     ·
      next e =>
      subst e
      rw [HK.out]
     ·
      exact hE.out j (by omega)
   ·
    have hin' : ¬ (i : Int) < (n : Int):=by omega
    have ei : i = n:=by omega
    subst ei
    have e : M = markI k i:=ext_iat (by rw [HM.out,markI_length]) (fun j hj=>by rw [HM.out] at hj; rw [hE.out j hj,iat_markI _ _ _ hj])
    subst e
    generalize hk : k + i = q
    go_wp2_with (fail)
    go_ret
    exact ⟨rfl,HOx.out,HY.out⟩
theorem heldInt64S_any (a : Option Addr) (cap n k : Nat) (w : World) (h : Rd w a (markI k n)) (h1 : 1 ≤ k) (h2 : k + n ≤ 1099511627776) :
  Calls Tryz.prog 35 #[.slice a n cap,.int .i64 k] w fun e w'=>e = .returned (.int .i64 ((k + n : Nat) : Int)) ∧ Below w.heap.size w w':=by
 have HR:=hidIt h
 clear h
 go_enter Tryz.func35,Tryz.ntmps35
 go_wp2_with (fail)
 go_loopw [1,5] (fun z y wx=>∃ i : Nat,y = .int .i64 i ∧ z = .int .i64 ((k + i : Nat) : Int) ∧ i ≤ n ∧ Hid (Below w.heap.size w wx)) (fun _ y _=>(n - intOf y).toNat)
 case atStart=>exact ⟨0,rfl,rfl,by omega,hidIt (Below.refl _ _)⟩
 case round =>
  obtain ⟨i,rfl,rfl,hi,HB⟩:=hrel
  by_cases hin : i < n
  ·
   have hin' : (i : Int) < (n : Int):=by omega
   obtain ⟨b,off,rfl,c0⟩:=(HR.out.kept HB.out).cell i (by rw [markI_length]; exact hin)
   rw [iat_markI _ _ _ hin] at c0
   have q1 : k + i + 1 ≤ 1099511627776:=by omega
   have q3 : Hid (k + (i + 1) = k + i + 1):=hidIt (by omega)
   generalize k + i = q at c0 q1 q3
   have hqq : ((q : Int) != (q : Int)) = false:=by simp
   clear HR
   go_wp2_with (fail)
   refine ⟨⟨i + 1,by simp,?_,by omega,HB⟩,by simp [intOf]; omega⟩
   rw [q3.out]
   congr 1
  ·
   have hin' : ¬ (i : Int) < (n : Int):=by omega
   have ei : i = n:=by omega
   subst ei
   generalize hk : k + i = q
   go_wp2_with (fail)
   go_ret
   exact ⟨rfl,HB.out⟩
end Go.Proofs.YtgbnkkjjgodilaaGreatDoor.Iv
namespace Go.Proofs.YtgbnkkjjgodilaaGreatDoor.Iv
open Go.ChangeShapes Go.WideShapes Go.ChangeAt Go.RowKit
theorem szInt64S_any (a : Option Addr) (cap n : Nat) (l : Int) (w : World) (hl : n ≤ 9223372036854775807) (h0 : 0 ≤ l) (h1 : l ≤ 1048576) :
  Calls Tryz.prog 15 #[.slice a n cap,.int .i64 l] w fun e w'=>∃ r : Int,e = .returned (.int .i64 r) ∧ r ≤ l ∧ -1 ≤ r ∧ (0 ≤ r → n ≤ 1048576) ∧ w' = w:=by
 have h2 : -9223372036854775808 ≤ l - (n : Int):=by omega
 have h3 : l - (n : Int) ≤ 9223372036854775807:=by omega
 by_cases hs2 : l - (n : Int) < 0
 ·
  go_enter Tryz.func15,Tryz.ntmps15
  go_wp2
  go_ret
  exact ⟨-1,rfl,by omega,by omega,fun h=>by omega,rfl⟩
 ·
  have hn2 : n ≤ 1048576:=by omega
  go_enter Tryz.func15,Tryz.ntmps15
  go_wp2
  go_ret
  first | exact ⟨_,rfl,by omega,by omega,fun _=>hn2,rfl⟩ | exact ⟨_,rfl,by omega,by omega,rfl⟩ | exact ⟨_,rfl,by omega,rfl⟩
theorem infoI : (Tryz.prog.info? 2).map (fun i=>(i.zero,i.size,i.bytes)) = some (some (.int .i64 0),1,8):=by kernel_rfl
theorem icells_zero (n : Nat) : icells (List.replicate n 0) = (madeCells #[.int .i64 0] n).toList:=by rw [toList_madeCells_one,icells,List.map_replicate]
theorem toInt64S_any (a : Option Addr) (cap : Nat) (L : List Int) (w : World) (h : Rd w a L) (hl : L.length ≤ 1048576) :
  Calls Tryz.prog 21 #[.slice a L.length cap] w fun e w'=>∃ v,e = .returned v ∧ Own w' w.heap.size v L ∧ Below w.heap.size w w':=by
 generalize hn : L.length = n at *
 obtain ⟨i0,hi,hz0,hz1,hz2⟩:=info_parts infoI
 have HR:=hidIt h
 have HN:=hidIt hn
 clear h hn
 go_enter Tryz.func21,Tryz.ntmps21
 go_wp2_with (first
  | (at_make; refine wpList_make_full _ rfl _ _ 23 rfl w.heap.size 2 i0 (.int .i64 0) 1 Tryz.underlying23 hi hz0 hz1 _ _ _ _ n rfl rfl (by omega) (by omega) (by rw [hz2]; omega) (by unfold maxLen; omega) (Nat.le_refl _) ?_)
  | fail)
 intro w1 hown hgrow
 have HO : Hid (Own w1 w.heap.size (.slice (some ⟨w.heap.size,0,none⟩) n n) (List.replicate n 0)):=by
  refine hidIt ?_
  unfold Own
  rw [List.length_replicate,icells_zero]
  exact hown
 have HB:=hidIt ((Below.refl w.heap.size w).grown hgrow (Nat.le_refl _) (fun k hk=>by cases hk))
 clear hown hgrow
 go_wp2_with (fail)
 go_loopw [4] (fun y wx=>∃ (i : Nat) (M : List Int),y = .int .i64 i ∧ i ≤ n ∧ M.length = n ∧ Hid (∀ j,j < i → iat M j = iat L j) ∧ Own wx w.heap.size (.slice (some ⟨w.heap.size,0,none⟩) n n) M ∧ Below w.heap.size w wx) (fun y _=>(n - intOf y).toNat)
 case atStart=>exact ⟨0,_,rfl,by omega,by simp,hidIt (fun j hj=>by omega),HO.out,HB.out⟩
 case round =>
  obtain ⟨i,M,rfl,hin0,hM,hE,hO,hB⟩:=hrel
  have HRx:=hidIt (HR.out.kept hB)
  have HBx:=hidIt hB
  have HOx:=hidIt hO
  have HM:=hidIt hM
  clear hB hO HO HB hM
  by_cases hin : i < n
  ·
   have hin' : (i : Int) < (n : Int):=by omega
   obtain ⟨b,off,rfl,c0⟩:=HRx.out.cell i (by rw [HN.out]; exact hin)
   generalize hx : iat L i = s at c0
   have HX:=hidIt hx
   clear hx
   have hiM : i < M.length:=by rw [HM.out]; exact hin
   have HO3:=hidIt (HOx.out.set (i:=i) s)
   obtain ⟨c2,f0⟩:=HOx.out.at hiM
   clear HRx HOx
   have HMi:=hidIt hiM
   clear hiM
   go_wp2_with (fail)
   refine ⟨⟨i + 1,_,by simp,by omega,by rw [List.length_set]; exact HM.out,hidIt (fun j hj=>?_),HO3.out,HBx.out.setCell (by simp) _⟩,by simp [intOf]; omega⟩
   rw [iat_set HMi.out]
   split
   ·
    next e=>subst e; exact HX.out.symm
   ·
    exact hE.out j (by omega)
  ·
   have hin' : ¬ (i : Int) < (n : Int):=by omega
   have e : M = L:=ext_iat (by rw [HM.out,HN.out]) (fun j hj=>hE.out j (by rw [HM.out] at hj; omega))
   subst e
   go_wp2_with (fail)
   go_ret
   exact ⟨_,rfl,HOx.out,HBx.out⟩
theorem eqInt64S_any (a b : Option Addr) (ca cb : Nat) (L : List Int) (w : World) (ha : Rd w a L) (hb : Rd w b L) (hl : L.length ≤ 9223372036854775806) :
  Calls Tryz.prog 26 #[.slice a L.length ca,.slice b L.length cb] w fun e w'=>e = .returned (.bool true) ∧ Below w.heap.size w w':=by
 generalize hn : L.length = n at *
 have HA:=hidIt ha
 have HB:=hidIt hb
 have HN:=hidIt hn
 clear ha hb hn
 have hnn : ((n : Int) != (n : Int)) = false:=by simp
 go_enter Tryz.func26,Tryz.ntmps26
 go_wp2_with (fail)
 go_loopw [5] (fun y wx=>∃ i : Nat,y = .int .i64 i ∧ i ≤ n ∧ Below w.heap.size w wx) (fun y _=>(n - intOf y).toNat)
 case atStart=>exact ⟨0,rfl,by omega,Below.refl _ _⟩
 case round =>
  obtain ⟨i,rfl,hi,hB⟩:=hrel
  have RA:=hidIt (HA.out.kept hB)
  have RB:=hidIt (HB.out.kept hB)
  have KX:=hidIt hB
  clear hB
  by_cases hin : i < n
  ·
   have hin' : (i : Int) < (n : Int):=by omega
   obtain ⟨b1,o1,rfl,c0⟩:=RA.out.cell i (by rw [HN.out]; omega)
   obtain ⟨b2,o2,rfl,d0⟩:=RB.out.cell i (by rw [HN.out]; omega)
   generalize iat L i = s at c0 d0
   clear RA RB HA HB
   go_wp2_with (fail)
   go_quiet (fail)
   go_wp2_with (fail)
   exact ⟨⟨i + 1,by simp,by omega,Go.Proofs.YtgbnkkjjgodilaaGreatDoor.Below.drewN KX.out _⟩,by simp [intOf]; omega⟩
  ·
   have hin' : ¬ (i : Int) < (n : Int):=by omega
   go_wp2_with (fail)
   go_ret
   exact ⟨rfl,KX.out⟩
end Go.Proofs.YtgbnkkjjgodilaaGreatDoor.Iv
namespace Go.Proofs.YtgbnkkjjgodilaaGreatDoor.Zn
open Go.ChangeShapes Go.WideShapes Go.ChangeAt Go.RowKit
open Iv (iat iat_at iat_take szInt64S_any toInt64S_any eqInt64S_any)
open Nm (hidIt)
theorem open_ints_in {H : Type} {P : Program} {enc : TypeId × Value → H} {w : World} {base : Nat} {spare : Nat → Bool} {held : Bool} {t e : TypeId} {fuel : Nat} {v : Value} {x : DataW H × List MemPlace}
  (ht : P.underlying t = some (.slice e)) (he : P.underlying e = some (.int .i64)) (hc : P.cellsOf e = 1) (h : DataW.trod enc P w base spare held fuel t [v] = some x) :
  ∃ (a : Option Addr) (cap : Nat) (L : List Int),v = .slice a L.length cap ∧ Iv.In w a cap L:=by
 rcases open_ints ht he hc h with ⟨hcs,_⟩ | ⟨a,len,cap,zs,hcs,_,hl,hm,hz,_,hcell,_⟩
 ·
  simp at hcs
  subst hcs
  exact ⟨none,0,[],rfl,Iv.Rd.nil _ _,Nat.zero_le _,by decide⟩
 ·
  simp at hcs
  subst hcs
  have hlz : len ≤ zs.length:=by rw [hz]; split <;> omega
  have hll : (zs.take len).length = len:=by rw [List.length_take]; omega
  refine ⟨some a,cap,zs.take len,by rw [hll],⟨fun i hi=>?_⟩,by rw [hll]; exact hl,hm⟩
  rw [hll] at hi
  have z0:=hcell 0 (by omega)
  have zi:=hcell i (by omega)
  obtain ⟨b,off,spot⟩:=a
  have hspot : spot = none:=by simpa [Addr.add] using World.cell?_spot z0
  subst hspot
  refine ⟨b,off,rfl,?_⟩
  rw [iat_take hi,← Go.WideShapes.add_plain]
  exact zi
end Go.Proofs.YtgbnkkjjgodilaaGreatDoor.Zn
namespace Go.Proofs.YtgbnkkjjgodilaaGreatDoor.Mm
open Go.ChangeShapes Go.WideShapes Go.ChangeAt Go.RowKit
def over (l : List Value) (o : Nat) (cs : List Value) : List Value:=l.take o ++ cs ++ l.drop (o + cs.length)
theorem over_length (l cs : List Value) (o : Nat) (h : o + cs.length ≤ l.length) : (over l o cs).length = l.length:=by
 unfold over
 simp
 omega
theorem over_get (l cs : List Value) (o : Nat) (h : o + cs.length ≤ l.length) (j : Nat) : (over l o cs)[j]? = if o ≤ j ∧ j < o + cs.length then cs[j - o]? else l[j]?:=by
 unfold over
 by_cases h1 : j < o
 ·
  rw [if_neg (by omega),List.append_assoc,List.getElem?_append_left (by simp; omega),List.getElem?_take,if_pos h1]
 ·
  by_cases h2 : j < o + cs.length
  ·
   rw [if_pos ⟨by omega,h2⟩,List.append_assoc,List.getElem?_append_right (by simp; omega),List.length_take,Nat.min_eq_left (by omega),List.getElem?_append_left (by omega)]
  ·
   rw [if_neg (by omega),List.getElem?_append_right (by simp; omega),List.getElem?_drop]
   congr 1
   simp
   omega
theorem run_copy_rows {w : World} {g : Nat} {cur : Array Value} (hg : w.heap[g]? = some (.cells cur 100 (0,0))) (ty : TypeId) (o dl dc : Nat) (x : Addr) (sl sc n : Nat) (cs : List Value) (hn : sl.min dl = n) (hlen : cs.length = n * 3)
  (hsrc : ∀ j u,cs[j]? = some u → w.cell? (x.add j) = some u) (h1 : ∀ u ∈ cs,u.oneCell' = true) (hfit : o + n * 3 ≤ cur.size) :
  (Builtin.copy_ #[41,41] ty #[.slice (some ⟨g,o,none⟩) dl dc,.slice (some x) sl sc]).run Tryz.prog w = .ok (goInt n) (w.setRow g (over cur.toList o cs).toArray):=by
 obtain ⟨i0,hi,hz0,hz1,hz2⟩:=info_parts infoRw
 have hl:=run_firstCells_some (P:=Tryz.prog) w 3 n x sl sc cs hlen hsrc
 have hst:=run_storeCells_at Tryz.prog g o 100 cs 0 cur w hg (by rw [hlen]; omega) h1
 simp only [Nat.add_zero] at hst
 simp [Builtin.copy_,run_underlying Tryz.underlying41,Builtin.lenOf,sizeOf,typeInfo,hi,hz1,hn,hl,hst,over]
theorem take_eq_of {l m : List Value} {n : Nat} (hm : m.length = n) (h : ∀ j,j < n → l[j]? = m[j]?) : l.take n = m:=by
 apply List.ext_getElem?
 intro j
 rw [List.getElem?_take]
 by_cases hj : j < n
 ·
  rw [if_pos hj,h j hj]
 ·
  rw [if_neg hj,List.getElem?_eq_none (by omega)]
theorem ins_row {l : List Value} {M : List Rw} {i : Nat} {x : Rw} (hi : i ≤ M.length) (h1 : ∀ j,j < i * 3 → l[j]? = (rcells M)[j]?) (h2 : ∀ j,j < 3 → l[i * 3 + j]? = (rcells [x])[j]?) (h3 : ∀ j,j < (M.length - i) * 3 → l[(i + 1) * 3 + j]? = (rcells M)[i * 3 + j]?) :
  l.take ((M.length + 1) * 3) = rcells (M.take i ++ x :: M.drop i):=by
 refine take_eq_of (by rw [rcells_length]; simp; omega) (fun j hj=>?_)
 rw [rcells_append,show x :: M.drop i = [x] ++ M.drop i from rfl,rcells_append]
 by_cases c1 : j < i * 3
 ·
  rw [h1 j c1,List.getElem?_append_left (by rw [rcells_length,List.length_take]; omega),rcells_take M i hi,List.getElem?_take,if_pos c1]
 ·
  rw [List.getElem?_append_right (by rw [rcells_length,List.length_take]; omega),rcells_length,List.length_take,Nat.min_eq_left hi]
  by_cases c2 : j < i * 3 + 3
  ·
   have:=h2 (j - i * 3) (by omega)
   rw [show i * 3 + (j - i * 3) = j by omega] at this
   rw [this,List.getElem?_append_left (by rw [rcells_length]; simp; omega)]
  ·
   have:=h3 (j - i * 3 - 3) (by omega)
   rw [show (i + 1) * 3 + (j - i * 3 - 3) = j by omega] at this
   rw [this,List.getElem?_append_right (by rw [rcells_length]; simp; omega),rcells_length,rcells_drop M i hi,List.getElem?_drop]
   congr 1
theorem overlaps_apart (w : World) (vb g o lb cb : Nat) (hne : vb ≠ g) (cur : Array Value) (T : TypeId) (x : Rw) (hv : w.heap[vb]? = some (.cells (rc x) T (0,0))) (hg : w.heap[g]? = some (.cells cur T (0,0))) (hc : cur.size ≠ 0) :
  (callFunc 157 #[.slice (some ⟨vb,0,none⟩) 1 1,.slice (some ⟨g,o,none⟩) lb cb]).run Tryz.prog w = .ok (.value (.bool false)) w:=by
 rw [run_callFunc_extern Tryz.func157 (by kernel_rfl) (by kernel_rfl) (by kernel_rfl) (e:=Extern.SlicesOverlaps.overlaps #[41,41] #[4]) (by kernel_rfl),
  Go.Lib.run_overlaps_apart w 41 4 100 Tryz.underlying41 3 Tryz.sizeOf100 ⟨vb,0,none⟩ ⟨g,o,none⟩ 1 1 lb cb hne T T 3 cur.size (by simp [World.shape?,hv]) (by simp [World.shape?,hg]) hc (by simp [World.frozen?,hv]) (by simp [World.frozen?,hv])]
 rfl
theorem insert_end (base : Nat) (v : Value) (M : List Rw) (x : Rw) (w : World) (hO : Own w base v M) (hl : M.length ≤ 60) (hb : base ≤ w.heap.size) :
  Calls Tryz.prog 140 #[v,.int .i64 M.length,.slice (some ⟨w.heap.size,0,none⟩) 1 1] (w.alloc (.cells (rc x) 100)) fun e w'=>∃ v',e = .returned v' ∧ Own w' base v' (M ++ [x]) ∧ (w.alloc (.cells (rc x) 100)).grownBy w' v.ownBlock:=by
 obtain ⟨i0,hi0,hz0,hz1,hz2⟩:=info_parts infoRw
 have HO:=hidIt hO
 obtain ⟨a,cap,rfl,hcap,hcm,hR,hna,hsome⟩:=hO.form
 obtain ⟨x0,x1,x2⟩:=x
 generalize hn : M.length = n at *
 have HN:=hidIt hn
 have h1 : (n : Int) ≤ (cap : Int):=by omega
 clear hR hsome hO hn
 cases a with
 | none =>
  have e:=hna rfl
  subst e
  have e : n = 0:=by omega
  subst e
  go_enter Tryz.func140,Tryz.ntmps140
  go_wp2_with (at_builtin; refine wpList_append_own _ rfl _ _ 41 rfl base 100 i0 (.agg #[.int .i64 0,.int .i64 0,.int .i64 0]) 3 24 Tryz.underlying41 hi0 hz0 hz1 hz2 rfl (by decide) _ _ _ rfl (World.ownsRow.alloc HO.out _) ⟨w.heap.size,0,none⟩ 1 1 [.int .i64 x0,.int .i64 x1,.int .i64 x2] rfl rfl (fresh w (x0,x1,x2) 100) (rcells_one [(x0,x1,x2)]) ?c3 ?c4 ?c5 ?_)
  case c3=>rw [HN.out]; decide
  case c4=>rw [HN.out]; decide
  case c5=>exact Nat.le_trans hb (by first | exact Nat.le_refl _ | simp)
  intro v' w3 hown hgrow _
  have HO3:=hidIt (Own.more (M:=[(x0,x1,x2)]) hown)
  have HG:=hidIt hgrow
  clear hown hgrow
  go_wp2_with (fail)
  go_ret
  exact ⟨_,rfl,HO3.out,HG.out⟩
 | some y =>
  obtain ⟨yb,yo,ys⟩:=y
  clear hna
  go_enter Tryz.func140,Tryz.ntmps140
  go_wp2_with (at_builtin; refine wpList_append_own _ rfl _ _ 41 rfl base 100 i0 (.agg #[.int .i64 0,.int .i64 0,.int .i64 0]) 3 24 Tryz.underlying41 hi0 hz0 hz1 hz2 rfl (by decide) _ _ _ rfl (World.ownsRow.alloc HO.out _) ⟨w.heap.size,0,none⟩ 1 1 [.int .i64 x0,.int .i64 x1,.int .i64 x2] rfl rfl (fresh w (x0,x1,x2) 100) (rcells_one [(x0,x1,x2)]) ?c3 ?c4 ?c5 ?_)
  all_goals try (case c3=>rw [HN.out]; unfold maxLen; omega)
  all_goals try (case c4=>rw [HN.out]; omega)
  all_goals try (case c5=>exact Nat.le_trans hb (by first | exact Nat.le_refl _ | simp))
  all_goals
   intro v' w3 hown hgrow _
   have HO3:=hidIt (Own.more (M:=[(x0,x1,x2)]) hown)
   have HG:=hidIt hgrow
   clear hown hgrow
   go_wp2_with (fail)
   go_ret
   exact ⟨_,rfl,HO3.out,HG.out⟩
theorem insert_room (base g c i : Nat) (cur : Array Value) (M : List Rw) (x : Rw) (w : World) (hb : base ≤ g) (hg : w.heap[g]? = some (.cells cur 100 (0,0))) (hi : i < M.length) (hc : M.length + 1 ≤ c) (hcm : c ≤ maxLen) (hsz : cur.size = c * 3) (htk : cur.toList.take (M.length * 3) = rcells M) (hl : M.length ≤ 60) :
  Calls Tryz.prog 140 #[.slice (some ⟨g,0,none⟩) M.length c,.int .i64 i,.slice (some ⟨w.heap.size,0,none⟩) 1 1] (w.alloc (.cells (rc x) 100)) fun e w'=>∃ v',e = .returned v' ∧ Own w' base v' (M.take i ++ x :: M.drop i) ∧ (w.alloc (.cells (rc x) 100)).grownBy w' (some g):=by
 have hgw : g < w.heap.size:=(Array.getElem?_eq_some_iff.1 hg).1
 have hcm' : c ≤ 9223372036854775807:=hcm
 have hg1 : (w.alloc (.cells (rc x) 100)).heap[g]? = some (.cells cur 100 (0,0)):=by rw [Below.heap_alloc _ _ _ hgw]; exact hg
 have hv1 : (w.alloc (.cells (rc x) 100)).heap[w.heap.size]? = some (.cells (rc x) 100 (0,0)):=Array.getElem?_push_size ..
 have hS1 : (w.alloc (.cells (rc x) 100)).heap.size = w.heap.size + 1:=by simp
 have hX:=fresh w x 100
 have HGR : Hid (∀ W cs,(w.alloc (.cells (rc x) 100)).drew.setRow g cs = W → ∀ cs',(w.alloc (.cells (rc x) 100)).grownBy (W.setRow g cs') (some g)):=hidIt (fun W cs e cs'=>by
  subst e
  exact ⟨rfl,rfl,rfl,by simp [World.setRow,World.drew],fun k _ hk=>by
   rw [setRow_other _ _ _ _ (fun z=>hk (by rw [z])),setRow_other _ _ _ _ (fun z=>hk (by rw [z]))]; rfl⟩)
 generalize w.alloc (.cells (rc x) 100) = w1 at hg1 hv1 hX HGR hS1 ⊢
 generalize hn : M.length = n at *
 have hcur : ∀ j,j < n * 3 → cur[j]? = (rcells M)[j]?:=fun j hj=>by
  rw [← htk,List.getElem?_take,if_pos hj,Array.getElem?_toList]
 have hov:=fun lb cb=>overlaps_apart w1 w.heap.size g ((i + 1) * 3) lb cb (by omega) cur 100 x hv1 hg1 (by omega)
 have hdl : (rcells (M.drop i)).length = (n - i) * 3:=by rw [rcells_length,List.length_drop,hn]
 have hcp1 : ∀ ty dl dc sl sc,sl.min dl = n - i → (Builtin.copy_ #[41,41] ty #[.slice (some ⟨g,(i + 1) * 3,none⟩) dl dc,.slice (some ⟨g,i * 3,none⟩) sl sc]).run Tryz.prog w1.drew = .ok (goInt ((n - i : Nat) : Int)) (w1.drew.setRow g (over cur.toList ((i + 1) * 3) (rcells (M.drop i))).toArray):=fun ty dl dc sl sc hmin =>
  run_copy_rows (w:=w1.drew) hg1 ty ((i + 1) * 3) _ _ ⟨g,i * 3,none⟩ _ _ (n - i) _ hmin hdl (fun j u hj=>by
   rw [rcells_drop M i (by omega),List.getElem?_drop] at hj
   have hlt : i * 3 + j < n * 3:=by
    rcases Nat.lt_or_ge (i * 3 + j) (n * 3) with h | h
    ·
     exact h
    ·
     rw [List.getElem?_eq_none (by rw [rcells_length,hn]; exact h)] at hj; cases hj
   rw [Go.WideShapes.add_plain,show w1.drew.cell? ⟨g,i * 3 + j,none⟩ = w1.cell? ⟨g,i * 3 + j,none⟩ from rfl,row_cell hg1,hcur _ hlt]
   exact hj) (rcells_one _) (by rw [hsz]; omega)
 obtain ⟨w2,hw2⟩ : ∃ w2,w2 = w1.drew.setRow g (over cur.toList ((i + 1) * 3) (rcells (M.drop i))).toArray:=⟨_,rfl⟩
 rw [← hw2] at hcp1
 have hg2 : w2.heap[g]? = some (.cells (over cur.toList ((i + 1) * 3) (rcells (M.drop i))).toArray 100 (0,0)):=by
  rw [hw2]
  exact setRow_heap w1.drew g cur _ _ _ hg1
 have hol : (over cur.toList ((i + 1) * 3) (rcells (M.drop i))).length = c * 3:=by rw [over_length _ _ _ (by rw [hdl,Array.length_toList,hsz]; omega),Array.length_toList,hsz]
 have hcp2 : ∀ ty dl dc,(1 : Nat).min dl = 1 → (Builtin.copy_ #[41,41] ty #[.slice (some ⟨g,i * 3,none⟩) dl dc,.slice (some ⟨w.heap.size,0,none⟩) 1 1]).run Tryz.prog w2 = .ok (goInt ((1 : Nat) : Int)) (w2.setRow g (over (over cur.toList ((i + 1) * 3) (rcells (M.drop i))) (i * 3) (rcells [x])).toArray):=fun ty dl dc hmin=>by
  have:=run_copy_rows hg2 ty (i * 3) dl dc ⟨w.heap.size,0,none⟩ 1 1 1 (rcells [x]) hmin rfl (fun j u hj=>by
   have hx:=hX j u hj
   rw [Go.WideShapes.add_plain] at hx ⊢
   rw [hw2,cell_setRow_other _ _ _ _ (by simp; omega)]
   exact hx) (rcells_one _) (by simp only [List.size_toArray,hol]; omega)
  exact this
 have HW : Hid (Own (w2.setRow g (over (over cur.toList ((i + 1) * 3) (rcells (M.drop i))) (i * 3) (rcells [x])).toArray) base (.slice (some ⟨g,0,none⟩) (n + 1) c) (M.take i ++ x :: M.drop i)):=hidIt (by
  have e : (M.take i ++ x :: M.drop i).length = n + 1:=by simp; omega
  unfold Own
  rw [e]
  refine ⟨by rw [rcells_length,e],.inr ⟨g,c,_,rfl,hb,setRow_heap _ _ _ _ _ _ hg2,hc,hcm,?_,?_⟩⟩
  ·
   rw [List.size_toArray,over_length _ _ _ (by rw [hol]; simp [rcells]; omega),hol]
  ·
   rw [← hn]
   refine ins_row (by omega) (fun j hj=>?_) (fun j hj=>?_) (fun j hj=>?_)
   ·
    rw [over_get _ _ _ (by rw [hol]; simp [rcells]; omega),if_neg (by omega),over_get _ _ _ (by rw [hdl,Array.length_toList,hsz]; omega),if_neg (by omega),Array.getElem?_toList,hcur _ (by omega)]
   ·
    rw [over_get _ _ _ (by rw [hol]; simp [rcells]; omega),if_pos ⟨by omega,by simp [rcells]; omega⟩]
    congr 1
    omega
   ·
    rw [over_get _ _ _ (by rw [hol]; simp [rcells]; omega),if_neg (by simp [rcells]; omega),over_get _ _ _ (by rw [hdl,Array.length_toList,hsz]; omega),if_pos ⟨by omega,by rw [hdl]; omega⟩,rcells_drop M i (by omega),List.getElem?_drop]
    congr 1
    omega)
 have HGW:=hidIt (HGR.out w2 _ hw2.symm (over (over cur.toList ((i + 1) * 3) (rcells (M.drop i))) (i * 3) (rcells [x])).toArray)
 generalize w2.setRow g (over (over cur.toList ((i + 1) * 3) (rcells (M.drop i))) (i * 3) (rcells [x])).toArray = w3 at hcp2 HW HGW
 clear hcur hdl hol hg2 hw2 HGR htk hsz hX hg1 hv1 hg hS1
 have z1 : ((i : Int) == (n : Int)) = false:=by simp; omega
 have z2 : ¬ (c : Int) < (n : Int) + 1:=by omega
 have z3 : IntKind.i64.wrap ((i : Int) + 1) = (i : Int) + 1:=by rw [IntKind.wrap_i64]; omega
 have z4 : (0 : Int) ≤ (i : Int) + 1:=by omega
 have z5 : ((i : Int) + 1).toNat = i + 1:=by omega
 have z6 : (i : Int) + 1 ≤ (n : Int) + 1:=by omega
 have z7 : (i : Int) ≤ (n : Int) + 1:=by omega
 have z8 : (i : Int) ≤ (n : Int):=by omega
 have z9 : ¬ (c = i + 1):=by omega
 have z10 : ¬ (c = i):=by omega
 have z11 : (n : Int) + 1 ≤ (c : Int):=by omega
 go_enter Tryz.func140,Tryz.ntmps140
 go_wp2_with (simp only [hov])
 have hq1:=hcp1 3 (n - i) (c - (i + 1)) (n + 1 - i) (c - i) (by simp only [Nat.min_def]; split <;> omega)
 have hq2:=hcp2 3 (n + 1 - i) (c - i) (by simp only [Nat.min_def]; split <;> omega)
 clear hcp1 hcp2
 go_region
 go_wp2_with (fail)
 go_ret
 exact ⟨_,rfl,HW.out,HGW.out⟩
theorem zeros_length (k : Nat) : (Builtin.zeroCells (Value.agg #[.int .i64 0,.int .i64 0,.int .i64 0]).cells k).size = k * 3:=by
 simp [Builtin.zeroCells,Value.cells]
theorem insert_grow (base g c i : Nat) (cur : Array Value) (M : List Rw) (x : Rw) (w : World) (hb : base ≤ g) (hg : w.heap[g]? = some (.cells cur 100 (0,0))) (hi : i < M.length) (hc : M.length = c) (hsz : cur.size = c * 3) (htk : cur.toList.take (M.length * 3) = rcells M) (hl : M.length ≤ 60) :
  Calls Tryz.prog 140 #[.slice (some ⟨g,0,none⟩) M.length c,.int .i64 i,.slice (some ⟨w.heap.size,0,none⟩) 1 1] (w.alloc (.cells (rc x) 100)) fun e w'=>∃ v',e = .returned v' ∧ Own w' base v' (M.take i ++ x :: M.drop i) ∧ (w.alloc (.cells (rc x) 100)).grownBy w' (some g):=by
 obtain ⟨i0,hi0,hz0,hz1,hz2⟩:=info_parts infoRw
 have hgw : g < w.heap.size:=(Array.getElem?_eq_some_iff.1 hg).1
 have hg1 : (w.alloc (.cells (rc x) 100)).heap[g]? = some (.cells cur 100 (0,0)):=by rw [Below.heap_alloc _ _ _ hgw]; exact hg
 have hS1 : (w.alloc (.cells (rc x) 100)).heap.size = w.heap.size + 1:=by simp
 have hX:=fresh w x 100
 generalize w.alloc (.cells (rc x) 100) = w1 at hg1 hX hS1 ⊢
 generalize hn : M.length = n at *
 subst hc
 have hcur : ∀ j,j < n * 3 → cur[j]? = (rcells M)[j]?:=fun j hj=>by
  rw [← htk,List.getElem?_take,if_pos hj,Array.getElem?_toList]
 have hdl : (rcells (M.drop i)).length = (n - i) * 3:=by rw [rcells_length,List.length_drop,hn]
 have htl : (rcells (M.take i)).length = i * 3:=by rw [rcells_length,List.length_take,hn,Nat.min_eq_left (by omega)]
 have hik : i + (n + 1 - i) = n + 1:=by omega
 have hold : (Builtin.firstCells i0.size i (.slice (some ⟨g,0,none⟩) i n)).run Tryz.prog w1.drew = .ok (rcells (M.take i)).toArray w1.drew:=by
  rw [hz1]
  exact run_firstCells_some w1.drew 3 i ⟨g,0,none⟩ i n (rcells (M.take i)) htl (fun j u hj=>by
   have hlt : j < i * 3:=by
    rcases Nat.lt_or_ge j (i * 3) with h | h
    ·
     exact h
    ·
     rw [List.getElem?_eq_none (by rw [htl]; exact h)] at hj; cases hj
   rw [rcells_take M i (by omega),List.getElem?_take,if_pos hlt] at hj
   rw [Go.WideShapes.add_plain,show w1.drew.cell? ⟨g,0 + j,none⟩ = w1.cell? ⟨g,0 + j,none⟩ from rfl,Nat.zero_add,row_cell hg1,hcur _ (by omega)]
   exact hj)
 have hap : ∀ ty,(Builtin.append_ #[41,3] ty #[.slice (some ⟨g,0,none⟩) i n,.int .i64 ((n + 1 - i : Nat) : Int)]).run Tryz.prog w1 = .ok (.slice (some ⟨w1.heap.size,0,none⟩) (n + 1) (grownCap w1 (n + 1) n 100))
   (w1.drew.alloc (.cells ((rcells (M.take i)).toArray ++ Builtin.zeroCells (Value.agg #[.int .i64 0,.int .i64 0,.int .i64 0]).cells (n + 1 - i) ++ Builtin.zeroCells (Value.agg #[.int .i64 0,.int .i64 0,.int .i64 0]).cells (grownCap w1 (n + 1) n 100 - (n + 1))) 100)):=fun ty=>by
  have h:=Go.Lib.run_append_grow_zeros w1 41 3 ty 100 i0 _ .i64 .i64 Tryz.underlying41 Tryz.underlying3 hi0 hz0 (some ⟨g,0,none⟩) i n (rcells (M.take i)) hold (n + 1 - i) (by omega) (by omega) (by omega) (by omega) (by rw [hz2]; omega) (by rw [hz2,hik]; exact growslice_fits (by omega) (by omega))
  rw [hik] at h
  exact h
 have hGe:=grownCap_ge w1 (n + 1) n 100
 have hGm : grownCap w1 (n + 1) n 100 ≤ maxLen:=grownCap_le_maxLen w1 (n + 1) n 100 (by unfold maxLen; omega)
 generalize grownCap w1 (n + 1) n 100 = G at hap hGe hGm
 generalize hrow : (rcells (M.take i)).toArray ++ Builtin.zeroCells (Value.agg #[.int .i64 0,.int .i64 0,.int .i64 0]).cells (n + 1 - i) ++ Builtin.zeroCells (Value.agg #[.int .i64 0,.int .i64 0,.int .i64 0]).cells (G - (n + 1)) = row at hap
 have hrs : row.size = G * 3:=by
  rw [← hrow,Array.size_append,Array.size_append,zeros_length,zeros_length,List.size_toArray,htl]
  omega
 have hrl : row.toList.length = G * 3:=by rw [Array.length_toList,hrs]
 have hx4 : (rcells [x]).length = 3:=rfl
 have hrt : ∀ j,j < i * 3 → row.toList[j]? = (rcells M)[j]?:=fun j hj=>by
  rw [← hrow,Array.toList_append,Array.toList_append,List.append_assoc,List.getElem?_append_left (by rw [htl]; exact hj),rcells_take M i (by omega),List.getElem?_take,if_pos hj]
 have hb1 : base ≤ w1.heap.size:=by omega
 have hBel : Below w1.heap.size w1 (w1.drew.alloc (.cells row 100)):=(Below.refl _ w1).drew.alloc (Nat.le_refl _) _
 have hg2 : (w1.drew.alloc (.cells row 100)).heap[w1.heap.size]? = some (.cells row 100 (0,0)):=Array.getElem?_push_size ..
 generalize w1.drew.alloc (.cells row 100) = w2 at hap hBel hg2
 have hlt2 : w1.heap.size < w2.heap.size:=(Array.getElem?_eq_some_iff.1 hg2).1
 have hcp1 : ∀ ty dl dc,(1 : Nat).min dl = 1 → (Builtin.copy_ #[41,41] ty #[.slice (some ⟨w1.heap.size,i * 3,none⟩) dl dc,.slice (some ⟨w.heap.size,0,none⟩) 1 1]).run Tryz.prog w2 = .ok (goInt ((1 : Nat) : Int)) (w2.setRow w1.heap.size (over row.toList (i * 3) (rcells [x])).toArray):=fun ty dl dc hmin =>
  run_copy_rows hg2 ty (i * 3) dl dc ⟨w.heap.size,0,none⟩ 1 1 1 (rcells [x]) hmin rfl (fun j u hj=>by
   have hx:=hX j u hj
   rw [Go.WideShapes.add_plain] at hx ⊢
   rw [hBel.cell (by simp; omega)]
   exact hx) (rcells_one _) (by rw [hrs]; omega)
 have hol : (over row.toList (i * 3) (rcells [x])).length = G * 3:=by rw [over_length _ _ _ (by rw [hrl,hx4]; omega),hrl]
 obtain ⟨w3,hw3⟩ : ∃ w3,w3 = w2.setRow w1.heap.size (over row.toList (i * 3) (rcells [x])).toArray:=⟨_,rfl⟩
 rw [← hw3] at hcp1
 have hg3 : w3.heap[w1.heap.size]? = some (.cells (over row.toList (i * 3) (rcells [x])).toArray 100 (0,0)):=by
  rw [hw3]
  exact setRow_heap w2 _ row _ _ _ hg2
 have hcp2 : ∀ ty dl dc sl sc,sl.min dl = n - i → (Builtin.copy_ #[41,41] ty #[.slice (some ⟨w1.heap.size,(i + 1) * 3,none⟩) dl dc,.slice (some ⟨g,i * 3,none⟩) sl sc]).run Tryz.prog w3.drew = .ok (goInt ((n - i : Nat) : Int)) (w3.drew.setRow w1.heap.size (over (over row.toList (i * 3) (rcells [x])) ((i + 1) * 3) (rcells (M.drop i))).toArray):=fun ty dl dc sl sc hmin=>by
  have:=run_copy_rows (w:=w3.drew) hg3 ty ((i + 1) * 3) dl dc ⟨g,i * 3,none⟩ sl sc (n - i) _ hmin hdl (fun j u hj=>by
   rw [rcells_drop M i (by omega),List.getElem?_drop] at hj
   have hlt : i * 3 + j < n * 3:=by
    rcases Nat.lt_or_ge (i * 3 + j) (n * 3) with h | h
    ·
     exact h
    ·
     rw [List.getElem?_eq_none (by rw [rcells_length,hn]; exact h)] at hj; cases hj
   rw [Go.WideShapes.add_plain,show w3.drew.cell? ⟨g,i * 3 + j,none⟩ = w3.cell? ⟨g,i * 3 + j,none⟩ from rfl,hw3,cell_setRow_other _ _ _ _ (by simp; omega),hBel.cell (by simp; omega),row_cell hg1,hcur _ hlt]
   exact hj) (rcells_one _) (by simp only [List.size_toArray,hol]; omega)
  exact this
 have HW : Hid (Own (w3.drew.setRow w1.heap.size (over (over row.toList (i * 3) (rcells [x])) ((i + 1) * 3) (rcells (M.drop i))).toArray) base (.slice (some ⟨w1.heap.size,0,none⟩) (n + 1) G) (M.take i ++ x :: M.drop i)):=hidIt (by
  have e : (M.take i ++ x :: M.drop i).length = n + 1:=by simp; omega
  unfold Own
  rw [e]
  refine ⟨by rw [rcells_length,e],.inr ⟨w1.heap.size,G,_,rfl,hb1,setRow_heap w3.drew _ _ _ _ _ hg3,hGe,hGm,?_,?_⟩⟩
  ·
   rw [List.size_toArray,over_length _ _ _ (by rw [hol,hdl]; omega),hol]
  ·
   rw [← hn]
   refine ins_row (by omega) (fun j hj=>?_) (fun j hj=>?_) (fun j hj=>?_)
   ·
    rw [over_get _ _ _ (by rw [hol,hdl]; omega),if_neg (by omega),over_get _ _ _ (by rw [hrl,hx4]; omega),if_neg (by omega),hrt _ hj]
   ·
    rw [over_get _ _ _ (by rw [hol,hdl]; omega),if_neg (by omega),over_get _ _ _ (by rw [hrl,hx4]; omega),if_pos ⟨by omega,by simp [rcells]; omega⟩]
    congr 1
    omega
   ·
    rw [over_get _ _ _ (by rw [hol,hdl]; omega),if_pos ⟨by omega,by rw [hdl]; omega⟩,rcells_drop M i (by omega),List.getElem?_drop]
    congr 1
    omega)
 have HGW : Hid (w1.grownBy (w3.drew.setRow w1.heap.size (over (over row.toList (i * 3) (rcells [x])) ((i + 1) * 3) (rcells (M.drop i))).toArray) (some g)):=hidIt (by
  rw [hw3]
  exact ⟨hBel.os,hBel.tape,hBel.output,by simp [World.setRow,World.drew]; omega,fun k hk _=>by
   rw [setRow_other _ _ _ _ (by omega)]
   show (w2.setRow w1.heap.size _).heap[k]? = _
   rw [setRow_other _ _ _ _ (by omega)]
   exact hBel.block k hk⟩)
 generalize w3.drew.setRow w1.heap.size (over (over row.toList (i * 3) (rcells [x])) ((i + 1) * 3) (rcells (M.drop i))).toArray = w4 at hcp2 HW HGW
 have hG63 : G ≤ 9223372036854775807:=hGm
 clear hcur hdl htl hol hg2 hg3 hw3 htk hsz hX hg1 hg hS1 hold hrow hrs hrt hBel
 have z1 : ((i : Int) == (n : Int)) = false:=by simp; omega
 have z2 : (n : Int) < (n : Int) + 1:=by omega
 have z3 : IntKind.i64.wrap ((i : Int) + 1) = (i : Int) + 1:=by rw [IntKind.wrap_i64]; omega
 have z4 : (0 : Int) ≤ (i : Int) + 1:=by omega
 have z5 : ((i : Int) + 1).toNat = i + 1:=by omega
 have z6 : (i : Int) + 1 ≤ (n : Int) + 1:=by omega
 have z7 : (i : Int) ≤ (n : Int) + 1:=by omega
 have z8 : (i : Int) ≤ (n : Int):=by omega
 have z9 : ¬ (G = i + 1):=by omega
 have z10 : ¬ (G = i):=by omega
 have z11 : ¬ (n = i):=by omega
 have z12 : (i : Int) ≤ (n : Int):=by omega
 have z13 : (n : Int) + 1 - (i : Int) = ((n + 1 - i : Nat) : Int):=by omega
 have hq0:=hap 41
 have hq1:=hcp1 3 (n + 1 - i) (G - i) (by simp only [Nat.min_def]; split <;> omega)
 have hq2:=hcp2 3 (n - i) (G - (i + 1)) (n - i) (n - i) (by simp only [Nat.min_def]; split <;> omega)
 rw [← z13] at hq0
 clear hcp1 hcp2 hap z13
 go_enter Tryz.func140,Tryz.ntmps140
 go_wp2_with (at_builtin; refine Go.Lib.wpList_append_run _ rfl _ _ _ _ rfl _ _ rfl rfl _ _ hq0 ?_)
 go_region
 go_wp2_with (fail)
 go_ret
 exact ⟨_,rfl,HW.out,HGW.out⟩
theorem insert_any (base : Nat) (v : Value) (M : List Rw) (i : Nat) (x : Rw) (w : World) (hO : Own w base v M) (hi : i ≤ M.length) (hl : M.length ≤ 60) (hb : base ≤ w.heap.size) :
  Calls Tryz.prog 140 #[v,.int .i64 i,.slice (some ⟨w.heap.size,0,none⟩) 1 1] (w.alloc (.cells (rc x) 100)) fun e w'=>∃ v',e = .returned v' ∧ Own w' base v' (M.take i ++ x :: M.drop i) ∧ (w.alloc (.cells (rc x) 100)).grownBy w' v.ownBlock:=by
 rcases Nat.lt_or_ge i M.length with h | h
 ·
  rcases hO.2 with ⟨e,h0⟩ | ⟨g,cap,cur,rfl,hbg,hg,hn,hm,hsz,htk⟩
  ·
   omega
  ·
   by_cases hr : M.length + 1 ≤ cap
   ·
    exact insert_room base g cap i cur M x w hbg hg h hr hm hsz htk hl
   ·
    exact insert_grow base g cap i cur M x w hbg hg h (by omega) hsz htk hl
 ·
  obtain rfl : i = M.length:=by omega
  rw [List.take_length,List.drop_length]
  exact insert_end base v M x w hO hl hb
end Go.Proofs.YtgbnkkjjgodilaaGreatDoor.Mm
namespace Go.Proofs.YtgbnkkjjgodilaaGreatDoor.Mk
abbrev Bytes:=List UInt8
structure En where
 key : Int
 value : Bytes
 time : Int
 node : Int
 gone : Bool
 deriving DecidableEq
def okE (e : En) : Bool:=decide (0 ≤ e.key) && decide (e.key ≤ 7) && decide (0 ≤ e.time) && decide (e.time ≤ 1000000) && decide (0 ≤ e.node) && decide (e.node ≤ 2)
def newB (a b : En) : Bool :=
 if a.time ≠ b.time then decide (b.time < a.time)
 else if a.node ≠ b.node then decide (b.node < a.node)
 else if a.gone ≠ b.gone then a.gone
 else decide (b.value < a.value)
theorem lt_total {a b : Bytes} (h : ¬ a < b) (k : ¬ b < a) : a = b:=List.le_antisymm k h
theorem new_irrefl (a : En) : newB a a = false:=by
 unfold newB
 simp [List.lt_irrefl]
theorem new_asymm {a b : En} (h : newB a b = true) : newB b a = false:=by
 unfold newB at h ⊢
 by_cases h1 : a.time = b.time
 ·
  rw [if_neg (by simp [h1])] at h
  rw [if_neg (by simp [h1])]
  by_cases h2 : a.node = b.node
  ·
   rw [if_neg (by simp [h2])] at h
   rw [if_neg (by simp [h2])]
   by_cases h3 : a.gone = b.gone
   ·
    rw [if_neg (by simp [h3])] at h
    rw [if_neg (by simp [h3])]
    exact decide_eq_false (fun k=>List.lt_irrefl _ (List.lt_trans k (of_decide_eq_true h)))
   ·
    rw [if_pos h3] at h
    rw [if_pos (fun e=>h3 e.symm)]
    cases hb : b.gone
    ·
     rfl
    ·
     rw [h,hb] at h3; exact absurd rfl h3
  ·
   rw [if_pos h2] at h
   rw [if_pos (fun e=>h2 e.symm)]
   have:=of_decide_eq_true h
   exact decide_eq_false (by omega)
 ·
  rw [if_pos h1] at h
  rw [if_pos (fun e=>h1 e.symm)]
  have:=of_decide_eq_true h
  exact decide_eq_false (by omega)
theorem new_total {a b : En} (h : newB a b = false) (k : newB b a = false) : a.time = b.time ∧ a.node = b.node ∧ a.gone = b.gone ∧ a.value = b.value:=by
 unfold newB at h k
 by_cases h1 : a.time = b.time
 ·
  rw [if_neg (by simp [h1])] at h
  rw [if_neg (by simp [h1])] at k
  by_cases h2 : a.node = b.node
  ·
   rw [if_neg (by simp [h2])] at h
   rw [if_neg (by simp [h2])] at k
   by_cases h3 : a.gone = b.gone
   ·
    rw [if_neg (by simp [h3])] at h
    rw [if_neg (by simp [h3])] at k
    exact ⟨h1,h2,h3,lt_total (of_decide_eq_false k) (of_decide_eq_false h)⟩
   ·
    rw [if_pos h3] at h
    rw [if_pos (fun e=>h3 e.symm)] at k
    exact absurd (h.trans k.symm) h3
  ·
   rw [if_pos h2] at h
   rw [if_pos (fun e=>h2 e.symm)] at k
   have h':=of_decide_eq_false h
   have k':=of_decide_eq_false k
   exact absurd (by omega) h2
 ·
  rw [if_pos h1] at h
  rw [if_pos (fun e=>h1 e.symm)] at k
  have h':=of_decide_eq_false h
  have k':=of_decide_eq_false k
  exact absurd (by omega) h1
theorem new_trans {a b c : En} (h : newB a b = true) (k : newB b c = true) : newB a c = true:=by
 unfold newB at h k ⊢
 by_cases t1 : a.time = b.time
 ·
  rw [if_neg (by simp [t1])] at h
  by_cases t2 : b.time = c.time
  ·
   rw [if_neg (by simp [t2])] at k
   rw [if_neg (by simp [t1,t2])]
   by_cases n1 : a.node = b.node
   ·
    rw [if_neg (by simp [n1])] at h
    by_cases n2 : b.node = c.node
    ·
     rw [if_neg (by simp [n2])] at k
     rw [if_neg (by simp [n1,n2])]
     by_cases g1 : a.gone = b.gone
     ·
      rw [if_neg (by simp [g1])] at h
      by_cases g2 : b.gone = c.gone
      ·
       rw [if_neg (by simp [g2])] at k
       rw [if_neg (by simp [g1,g2])]
       exact decide_eq_true (List.lt_trans (of_decide_eq_true k) (of_decide_eq_true h))
      ·
       rw [if_pos g2] at k
       rw [if_pos (by rw [g1]; exact g2),g1]
       exact k
     ·
      rw [if_pos g1] at h
      by_cases g2 : b.gone = c.gone
      ·
       rw [if_pos (by rw [← g2]; exact g1)]
       exact h
      ·
       rw [if_pos g2] at k
       exact absurd (h.trans k.symm) g1
    ·
     rw [if_pos n2] at k
     rw [if_pos (by rw [n1]; exact n2),n1]
     exact k
   ·
    rw [if_pos n1] at h
    have h':=of_decide_eq_true h
    by_cases n2 : b.node = c.node
    ·
     rw [if_pos (by rw [← n2]; exact n1),← n2]
     exact h
    ·
     rw [if_pos n2] at k
     have k':=of_decide_eq_true k
     rw [if_pos (by omega)]
     exact decide_eq_true (by omega)
  ·
   rw [if_pos t2] at k
   rw [if_pos (by rw [t1]; exact t2),t1]
   exact k
 ·
  rw [if_pos t1] at h
  have h':=of_decide_eq_true h
  by_cases t2 : b.time = c.time
  ·
   rw [if_pos (by rw [← t2]; exact t1),← t2]
   exact h
  ·
   rw [if_pos t2] at k
   have k':=of_decide_eq_true k
   rw [if_pos (by omega)]
   exact decide_eq_true (by omega)
theorem en_ext {a b : En} (hk : a.key = b.key) (h : newB a b = false) (k : newB b a = false) : a = b:=by
 obtain ⟨h1,h2,h3,h4⟩:=new_total h k
 cases a
 cases b
 simp_all
def Ris (L : List En) : Prop:=L.Pairwise fun a b=>a.key < b.key
def look (L : List En) (k : Int) : Option En:=L.find? fun e=>decide (e.key = k)
theorem look_nil (k : Int) : look [] k = none:=rfl
theorem look_cons (a : En) (L : List En) (k : Int) : look (a :: L) k = if a.key = k then some a else look L k:=by
 unfold look
 rw [List.find?_cons]
 by_cases h : a.key = k
 ·
  rw [if_pos h]; simp [h]
 ·
  rw [if_neg h]; simp [h]
theorem look_some {L : List En} {k : Int} {e : En} (h : look L k = some e) : e ∈ L ∧ e.key = k:=by
 unfold look at h
 exact ⟨List.mem_of_find?_eq_some h,by simpa using List.find?_some h⟩
theorem look_none_of {L : List En} {k : Int} (h : ∀ e ∈ L,e.key ≠ k) : look L k = none:=by
 unfold look
 exact List.find?_eq_none.2 (fun e he=>by simpa using h e he)
theorem ris_cons {a : En} {L : List En} : Ris (a :: L) ↔ (∀ b ∈ L,a.key < b.key) ∧ Ris L:=List.pairwise_cons
theorem look_mem {L : List En} (h : Ris L) {e : En} (he : e ∈ L) : look L e.key = some e:=by
 induction L with
 | nil=>cases he
 | cons a L ih =>
  obtain ⟨h1,h2⟩:=ris_cons.1 h
  rw [look_cons]
  rcases List.mem_cons.1 he with rfl | he
  ·
   rw [if_pos rfl]
  ·
   rw [if_neg (fun e'=>Int.lt_irrefl _ (by have:=h1 e he; rw [e'] at this; exact this))]
   exact ih h2 he
theorem ris_ext {L M : List En} (hL : Ris L) (hM : Ris M) (h : ∀ k,look L k = look M k) : L = M:=by
 induction L generalizing M with
 | nil =>
  cases M with
  | nil=>rfl
  | cons b M=>have:=h b.key; rw [look_nil,look_cons,if_pos rfl] at this; cases this
 | cons a L ih =>
  cases M with
  | nil=>have:=h a.key; rw [look_nil,look_cons,if_pos rfl] at this; cases this
  | cons b M =>
   obtain ⟨a1,a2⟩:=ris_cons.1 hL
   obtain ⟨b1,b2⟩:=ris_cons.1 hM
   have ea:=h a.key
   have eb:=h b.key
   rw [look_cons,if_pos rfl] at ea
   rw [look_cons b,if_pos rfl] at eb
   have hab : a = b:=by
    obtain ⟨ma,_⟩:=look_some ea.symm
    obtain ⟨mb,_⟩:=look_some eb
    rcases List.mem_cons.1 ma with e | ma
    ·
     exact e
    ·
     rcases List.mem_cons.1 mb with e | mb
     ·
      exact e.symm
     ·
      exact absurd (Int.lt_trans (a1 b mb) (b1 a ma)) (Int.lt_irrefl _)
   subst hab
   rw [ih a2 b2 (fun k=>?_)]
   have hk:=h k
   rw [look_cons,look_cons] at hk
   by_cases e : a.key = k
   ·
    rw [look_none_of (fun x hx=>by intro e'; have:=a1 x hx; rw [e',e] at this; exact Int.lt_irrefl _ this),look_none_of (fun x hx=>by intro e'; have:=b1 x hx; rw [e',e] at this; exact Int.lt_irrefl _ this)]
   ·
    rw [if_neg e,if_neg e] at hk
    exact hk
def pickE : Option En → Option En → Option En
 | none,y=>y
 | some x,none=>some x
 | some x,some y=>some (if newB y x then y else x)
structure IsJoin (A B J : List En) : Prop where
 ris : Ris J
 at' : ∀ k,look J k = pickE (look A k) (look B k)
theorem IsJoin.unique {A B J K : List En} (h : IsJoin A B J) (k : IsJoin A B K) : J = K:=ris_ext h.ris k.ris (fun x=>(h.at' x).trans (k.at' x).symm)
def mergeE : List En → List En → List En
 | [],B=>B
 | a :: A,[]=>a :: A
 | a :: A,b :: B=>if a.key < b.key then a :: mergeE A (b :: B) else if b.key < a.key then b :: mergeE (a :: A) B else (if newB b a then b else a) :: mergeE A B
 termination_by A B=>A.length + B.length
theorem mergeE_nil (B : List En) : mergeE [] B = B:=by unfold mergeE; rfl
theorem mergeE_right (A : List En) : mergeE A [] = A:=by
 cases A with
 | nil=>exact mergeE_nil []
 | cons a A=>unfold mergeE; rfl
theorem mergeE_cons (a b : En) (A B : List En) : mergeE (a :: A) (b :: B) = if a.key < b.key then a :: mergeE A (b :: B) else if b.key < a.key then b :: mergeE (a :: A) B else (if newB b a then b else a) :: mergeE A B:=by
 conv=>lhs; unfold mergeE
theorem pick_none_right (x : Option En) : pickE x none = x:=by cases x <;> rfl
theorem merge_mem : ∀ (A B : List En) {e : En},e ∈ mergeE A B → e ∈ A ∨ e ∈ B
 | [],B,e,h=>by rw [mergeE_nil] at h; exact .inr h
 | a :: A,[],e,h=>by rw [mergeE_right] at h; exact .inl h
 | a :: A,b :: B,e,h=>by
  rw [mergeE_cons] at h
  by_cases h1 : a.key < b.key
  ·
   rw [if_pos h1] at h
   rcases List.mem_cons.1 h with rfl | h
   ·
    exact .inl (List.mem_cons_self ..)
   ·
    rcases merge_mem A (b :: B) h with h | h
    ·
     exact .inl (List.mem_cons_of_mem _ h)
    ·
     exact .inr h
  ·
   rw [if_neg h1] at h
   by_cases h2 : b.key < a.key
   ·
    rw [if_pos h2] at h
    rcases List.mem_cons.1 h with rfl | h
    ·
     exact .inr (List.mem_cons_self ..)
    ·
     rcases merge_mem (a :: A) B h with h | h
     ·
      exact .inl h
     ·
      exact .inr (List.mem_cons_of_mem _ h)
   ·
    rw [if_neg h2] at h
    rcases List.mem_cons.1 h with h | h
    ·
     cases hn : newB b a
     ·
      rw [hn] at h; exact .inl (by rw [h]; exact List.mem_cons_self ..)
     ·
      rw [hn] at h; exact .inr (by rw [h]; exact List.mem_cons_self ..)
    ·
     rcases merge_mem A B h with h | h
     ·
      exact .inl (List.mem_cons_of_mem _ h)
     ·
      exact .inr (List.mem_cons_of_mem _ h)
 termination_by A B=>A.length + B.length
theorem merge_join : ∀ (A B : List En),Ris A → Ris B → IsJoin A B (mergeE A B)
 | [],B,_,hB=>by rw [mergeE_nil]; exact ⟨hB,fun k=>rfl⟩
 | a :: A,[],hA,_=>by rw [mergeE_right]; exact ⟨hA,fun k=>by rw [look_nil,pick_none_right]⟩
 | a :: A,b :: B,hA,hB=>by
  obtain ⟨a1,a2⟩:=ris_cons.1 hA
  obtain ⟨b1,b2⟩:=ris_cons.1 hB
  have noA : ∀ k,a.key = k → look A k = none:=fun k e=>look_none_of (fun x hx e'=>by have:=a1 x hx; rw [e',e] at this; exact Int.lt_irrefl _ this)
  have noB : ∀ k,b.key = k → look B k = none:=fun k e=>look_none_of (fun x hx e'=>by have:=b1 x hx; rw [e',e] at this; exact Int.lt_irrefl _ this)
  rw [mergeE_cons]
  by_cases h1 : a.key < b.key
  ·
   rw [if_pos h1]
   have ih:=merge_join A (b :: B) a2 hB
   refine ⟨ris_cons.2 ⟨fun x hx=>?_,ih.ris⟩,fun k=>?_⟩
   ·
    rcases merge_mem A (b :: B) hx with h | h
    ·
     exact a1 x h
    ·
     rcases List.mem_cons.1 h with rfl | h
     ·
      exact h1
     ·
      exact Int.lt_trans h1 (b1 x h)
   ·
    rw [look_cons,look_cons a,ih.at']
    by_cases e : a.key = k
    ·
     rw [if_pos e,if_pos e,look_none_of (fun x hx e'=>?_),pick_none_right]
     rcases List.mem_cons.1 hx with rfl | h
     ·
      rw [e',e] at h1; exact Int.lt_irrefl _ h1
     ·
      have:=Int.lt_trans h1 (b1 x h); rw [e',e] at this; exact Int.lt_irrefl _ this
    ·
     rw [if_neg e,if_neg e]
  ·
   rw [if_neg h1]
   by_cases h2 : b.key < a.key
   ·
    rw [if_pos h2]
    have ih:=merge_join (a :: A) B hA b2
    refine ⟨ris_cons.2 ⟨fun x hx=>?_,ih.ris⟩,fun k=>?_⟩
    ·
     rcases merge_mem (a :: A) B hx with h | h
     ·
      rcases List.mem_cons.1 h with rfl | h
      ·
       exact h2
      ·
       exact Int.lt_trans h2 (a1 x h)
     ·
      exact b1 x h
    ·
     rw [look_cons,look_cons b B,ih.at']
     by_cases e : b.key = k
     ·
      rw [if_pos e,if_pos e,look_none_of (L:=a :: A) (fun x hx e'=>?_)]
      ·
       rfl
      ·
       rcases List.mem_cons.1 hx with rfl | h
       ·
        rw [e',e] at h2; exact Int.lt_irrefl _ h2
       ·
        have:=Int.lt_trans h2 (a1 x h); rw [e',e] at this; exact Int.lt_irrefl _ this
     ·
      rw [if_neg e,if_neg e]
   ·
    rw [if_neg h2]
    have hk : a.key = b.key:=Int.le_antisymm (Int.not_lt.1 h2) (Int.not_lt.1 h1)
    have ih:=merge_join A B a2 b2
    have kk : (if newB b a = true then b else a).key = a.key:=by split <;> simp [hk]
    refine ⟨ris_cons.2 ⟨fun x hx=>?_,ih.ris⟩,fun k=>?_⟩
    ·
     rw [kk]
     rcases merge_mem A B hx with h | h
     ·
      exact a1 x h
     ·
      rw [hk]; exact b1 x h
    ·
     rw [look_cons,look_cons a A,look_cons b B,ih.at',kk]
     by_cases e : a.key = k
     ·
      rw [if_pos e,if_pos e,if_pos (show b.key = k from hk.symm.trans e)]
      rfl
     ·
      rw [if_neg e,if_neg e,if_neg (fun e'=>e (hk.trans e'))]
 termination_by A B=>A.length + B.length
def KeyAt (k : Int) (o : Option En) : Prop:=∀ e,o = some e → e.key = k
theorem look_at (L : List En) (k : Int) : KeyAt k (look L k):=fun e h=>(look_some h).2
theorem pick_at {k : Int} {x y : Option En} (hx : KeyAt k x) (hy : KeyAt k y) : KeyAt k (pickE x y):=by
 intro e h
 cases x with
 | none=>exact hy e h
 | some a =>
  cases y with
  | none=>exact hx e h
  | some b =>
   have h':=Option.some.inj h
   cases hn : newB b a with
   | true=>rw [hn,if_pos rfl] at h'; rw [← h']; exact hy b rfl
   | false=>rw [hn,if_neg (by decide)] at h'; rw [← h']; exact hx a rfl
theorem pick_comm {k : Int} {x y : Option En} (hx : KeyAt k x) (hy : KeyAt k y) : pickE x y = pickE y x:=by
 cases x with
 | none=>rw [pick_none_right]; rfl
 | some a =>
  cases y with
  | none=>rfl
  | some b =>
   show some _ = some _
   cases h1 : newB b a with
   | true=>rw [new_asymm h1]; simp
   | false =>
    cases h2 : newB a b with
    | true=>simp
    | false=>simp [en_ext ((hx a rfl).trans (hy b rfl).symm) h2 h1]
theorem pick_self (x : Option En) : pickE x x = x:=by
 cases x with
 | none=>rfl
 | some a=>show some _ = some _; rw [new_irrefl]; simp
theorem not_new_trans {a b c : En} (hk : a.key = b.key) (h : newB a b = false) (k : newB b c = false) : newB a c = false:=by
 cases hac : newB a c with
 | false=>rfl
 | true =>
  cases hba : newB b a with
  | true=>exact absurd (new_trans hba hac) (by rw [k]; decide)
  | false=>rw [en_ext hk h hba] at hac; rw [hac] at k; cases k
theorem pick_assoc {k : Int} {x y z : Option En} (hx : KeyAt k x) (hy : KeyAt k y) (hz : KeyAt k z) : pickE (pickE x y) z = pickE x (pickE y z):=by
 cases x with
 | none=>rfl
 | some a =>
  cases y with
  | none=>rfl
  | some b =>
   cases z with
   | none=>rfl
   | some c =>
    have ka:=hx a rfl
    have kb:=hy b rfl
    have kc:=hz c rfl
    cases h1 : newB b a with
    | true =>
     cases h2 : newB c b with
     | true=>simp [pickE,h1,h2,new_trans h2 h1]
     | false=>simp [pickE,h1,h2]
    | false =>
     cases h2 : newB c b with
     | true=>simp [pickE,h1,h2]
     | false=>simp [pickE,h1,h2,not_new_trans (kc.trans kb.symm) h2 h1]
theorem IsJoin.comm {A B J : List En} (h : IsJoin A B J) : IsJoin B A J:=⟨h.ris,fun k=>(h.at' k).trans (pick_comm (look_at A k) (look_at B k))⟩
theorem IsJoin.mem {A B J : List En} (h : IsJoin A B J) {e : En} (he : e ∈ J) : e ∈ A ∨ e ∈ B:=by
 have hl:=(look_mem h.ris he).symm.trans (h.at' e.key)
 cases hA : look A e.key with
 | none=>rw [hA] at hl; exact .inr (look_some (k:=e.key) hl.symm).1
 | some a =>
  cases hB : look B e.key with
  | none=>rw [hA,hB] at hl; exact .inl (by rw [Option.some.inj hl]; exact (look_some hA).1)
  | some b =>
   rw [hA,hB] at hl
   have h':=Option.some.inj hl
   cases hn : newB b a with
   | true=>rw [hn,if_pos rfl] at h'; rw [h']; exact .inr (look_some hB).1
   | false=>rw [hn,if_neg (by decide)] at h'; rw [h']; exact .inl (look_some hA).1
def risB : List En → Bool
 | []=>true
 | [_]=>true
 | a :: b :: L=>decide (a.key < b.key) && risB (b :: L)
theorem risB_iff : ∀ L : List En,risB L = true ↔ Ris L
 | []=>by simp [risB,Ris]
 | [a]=>by simp [risB,Ris]
 | a :: b :: L=>by
  unfold risB
  rw [Bool.and_eq_true,decide_eq_true_eq,risB_iff (b :: L),ris_cons (a:=a)]
  refine ⟨fun ⟨h1,h2⟩=>⟨fun x hx=>?_,h2⟩,fun ⟨h1,h2⟩=>⟨h1 b (List.mem_cons_self ..),h2⟩⟩
  rcases List.mem_cons.1 hx with rfl | hx
  ·
   exact h1
  ·
   exact Int.lt_trans h1 ((ris_cons.1 h2).1 x hx)
def okBk (L : List En) : Bool:=decide (L.length ≤ 8) && L.all okE && risB L
theorem ok_ris {L : List En} (h : okBk L = true) : Ris L:=by
 unfold okBk at h
 simp only [Bool.and_eq_true] at h
 exact (risB_iff L).1 h.2
theorem ok_len {L : List En} (h : okBk L = true) : L.length ≤ 8:=by
 unfold okBk at h
 simp only [Bool.and_eq_true,decide_eq_true_eq] at h
 exact h.1.1
theorem ok_all {L : List En} (h : okBk L = true) {e : En} (he : e ∈ L) : okE e = true:=by
 unfold okBk at h
 simp only [Bool.and_eq_true,List.all_eq_true] at h
 exact h.1.2 e he
theorem ok_mk {L : List En} (h1 : L.length ≤ 8) (h2 : ∀ e ∈ L,okE e = true) (h3 : Ris L) : okBk L = true:=by
 unfold okBk
 simp only [Bool.and_eq_true,decide_eq_true_eq,List.all_eq_true]
 exact ⟨⟨h1,h2⟩,(risB_iff L).2 h3⟩
end Go.Proofs.YtgbnkkjjgodilaaGreatDoor.Mk
