/- What the laws do with one Bucket and with a list of them: the measure, the copy, whether two are alike. (Written by wip/mkrow.py.) -/
import Derived.Test.YtgbnkkjjgodilaaGreatDoorBun4
import Derived.Test.YtgbnkkjjgodilaaGreatDoorQuiet
import Derived.Handy
import Derived.Test.YtgbnkkjjgodilaaGreatDoorMem
import Derived.Test.YtgbnkkjjgodilaaGreatDoorProg
import Derived.Laws.OwnMore
import Derived.Deep.OwnRows
import Derived.Deep.Strs
import Derived.OwnWalk
import Derived.OpenShut
import Derived.Laws.AppendOwn
import Derived.Lib.SmallJoins
import Derived.Deep.RegionHeld3
import Derived.Lib.Strings
set_option maxRecDepth 100000
set_option maxHeartbeats 32000000
set_option linter.unusedVariables false
namespace Go.Proofs.YtgbnkkjjgodilaaGreatDoor.Bu
open Go.ChangeShapes Go.WideShapes Go.ChangeAt Go.RowKit
open Rc (BelowBy BelowBy.one wp_region_below calls_below calls_same)
structure Le2 (r l : Int) (m : Nat) : Prop where
 le : r ≤ l
 sum : 0 ≤ r → r + (m : Int) ≤ l
theorem to_any (x : Rw) (w : World) : Calls Tryz.prog 102 #[rv x] w fun e w'=>e = .returned (rv x) ∧ Below w.heap.size w w':=by
 obtain ⟨x0,x1,x2⟩:=x
 go_enter Tryz.func102,Tryz.ntmps102
 go_wp2
 refine bodyPost_ret (v:=rv (x0,x1,x2)) (by simp [results,Tryz.results102,go_sem]) rfl ⟨rfl,?_⟩
 go_grown
theorem eq_same (x : Rw) (w : World) : Calls Tryz.prog 115 #[rv x,rv x] w fun e w'=>e = .returned (.bool true) ∧ Below w.heap.size w w':=by
 obtain ⟨x0,x1,x2⟩:=x
 go_enter Tryz.func115,Tryz.ntmps115
 go_wp2
 go_ret
 exact ⟨rfl,by go_grown⟩
theorem szS_any (a : Option Addr) (cap : Nat) (L : List Rw) (l : Int) (w : World) (h : Rd w a L) (hl : L.length ≤ 9223372036854775807) (h0 : 0 ≤ l) (h1 : l ≤ 1048576) :
  Calls Tryz.prog 65 #[.slice a L.length cap,.int .i64 l] w fun e w'=>∃ r : Int,e = .returned (.int .i64 r) ∧ Le2 r l L.length ∧ (0 ≤ r → L.length ≤ 1048576) ∧ Below w.heap.size w w':=by
 generalize hn : L.length = m at *
 clear h hn
 have h2 : -9223372036854775808 ≤ l - (m : Int):=by omega
 have h3 : l - (m : Int) ≤ 9223372036854775807:=by omega
 by_cases hlt : l - (m : Int) < 0
 ·
  go_enter Tryz.func65,Tryz.ntmps65
  go_wp2
  go_ret
  first | exact ⟨-1,rfl,⟨by omega,fun h=>by omega⟩,fun h=>by omega,Below.refl _ _⟩ | exact ⟨⟨by omega,fun h=>by omega⟩,Below.refl _ _⟩
 ·
  go_enter Tryz.func65,Tryz.ntmps65
  go_wp2
  go_ret
  first | exact ⟨_,rfl,⟨by omega,fun h=>by omega⟩,fun h=>by omega,Below.refl _ _⟩ | exact ⟨⟨by omega,fun h=>by omega⟩,fun h=>by omega,Below.refl _ _⟩
theorem rcells_zero (m : Nat) : rcells (List.replicate m (0,0,0)) = (madeCells #[.int .i64 0,.int .i64 0,.int .i64 0] (m * 3)).toList:=by
 apply List.ext_getElem?
 intro x
 by_cases hx : x < m * 3
 ·
  have e : x = x / 3 * 3 + x % 3:=by omega
  have h1:=rcells_get (List.replicate m (0,0,0)) (x / 3) (x % 3) (by rw [List.length_replicate]; omega) (by omega)
  rw [← e] at h1
  have h2 : rat (List.replicate m (0,0,0)) (x / 3) = (0,0,0):=by
   rw [rat_at (by rw [List.length_replicate]; omega),List.getElem_replicate]
  rw [h1,h2]
  have h3 : x % 3 = 0 ∨ x % 3 = 1 ∨ x % 3 = 2:=by omega
  rcases h3 with h | h | h <;> simp [madeCells,hx,h,rcell]
 ·
  rw [List.getElem?_eq_none (by rw [rcells_length,List.length_replicate]; omega),List.getElem?_eq_none (by simp [madeCells]; omega)]
theorem toS_any (a : Option Addr) (cap : Nat) (L : List Rw) (w : World) (h : Rd w a L) (hl : L.length ≤ 1048576) :
  Calls Tryz.prog 75 #[.slice a L.length cap] w fun e w'=>∃ v,e = .returned v ∧ Own w' w.heap.size v L ∧ Below w.heap.size w w':=by
 generalize hn : L.length = m at *
 obtain ⟨i0,hi,hz0,hz1,hz2⟩:=info_parts infoRw
 have HR:=hidIt h
 have HN:=hidIt hn
 clear h hn
 go_enter Tryz.func75,Tryz.ntmps75
 go_wp2_with (first
  | (at_make; refine wpList_make_full _ rfl _ _ 46 rfl w.heap.size 102 i0 (.agg #[.int .i64 0,.int .i64 0,.int .i64 0]) 3 Tryz.underlying46 hi hz0 hz1 _ _ _ _ m rfl rfl (by omega) (by omega) (by rw [hz2]; omega) (by unfold maxLen; omega) (Nat.le_refl _) ?_)
  | fail)
 intro w1 hown hgrow
 have HO : Hid (Own w1 w.heap.size (.slice (some ⟨w.heap.size,0,none⟩) m m) (List.replicate m (0,0,0))):=by
  refine hidIt ?_
  unfold Own
  rw [List.length_replicate,rcells_zero]
  exact hown
 have HB:=hidIt ((Below.refl w.heap.size w).grown hgrow (Nat.le_refl _) (fun k hk=>by cases hk))
 clear hown hgrow
 go_wp2_with (fail)
 go_loopw [4] (fun y wx=>∃ (i : Nat) (M : List Rw),y = .int .i64 i ∧ i ≤ m ∧ M.length = m ∧ Hid (∀ j,j < i → rat M j = rat L j) ∧ Hid (Own wx w.heap.size (.slice (some ⟨w.heap.size,0,none⟩) m m) M) ∧ Hid (Below w.heap.size w wx)) (fun y _=>(m - intOf y).toNat)
 case atStart=>exact ⟨0,_,rfl,by omega,by simp,hidIt (fun j hj=>by omega),HO,HB⟩
 case round =>
  obtain ⟨i,M,rfl,hin0,hM,hE,HOx,HBx⟩:=hrel
  have HRx:=hidIt (HR.out.kept HBx.out)
  have HM:=hidIt hM
  clear HO HB hM
  by_cases hin : i < m
  ·
   have hin' : (i : Int) < (m : Int):=by omega
   obtain ⟨b,off,rfl,c0,c1,c2⟩:=HRx.out.all (i:=i) (by rw [HN.out]; exact hin)
   generalize hx : rat L i = x at c0 c1 c2
   have HX:=hidIt hx
   clear hx
   obtain ⟨x0,x1,x2⟩:=x
   simp only at c0 c1 c2
   have hC:=to_any (x0,x1,x2)
   simp only [rv] at hC
   have HC:=hidIt hC
   clear hC
   go_wp2_with (fail)
   refine (HC.out _).mono ?_
   rintro e w2 ⟨rfl,hb2⟩
   have HB2:=hidIt (HBx.out.trans (hb2.mono HBx.out.size))
   have HO2:=hidIt (HOx.out.kept hb2)
   have hiM : i < M.length:=by rw [HM.out]; exact hin
   have HO3:=hidIt (HO2.out.whole hiM (x0,x1,x2))
   have z0:=HO2.out.at hiM (j:=0) (by omega)
   have z1:=HO2.out.at hiM (j:=1) (by omega)
   have z2:=HO2.out.at hiM (j:=2) (by omega)
   have f0:=HO2.out.free (i * 3)
   have f1:=HO2.out.free (i * 3 + 1)
   have f2:=HO2.out.free (i * 3 + 2)
   simp only [rcell,Nat.add_zero] at z0 z1 z2
   clear hb2 HRx HBx HOx HO2 HC
   have HMi:=hidIt hiM
   clear hiM
   go_wp2_with (fail)
   refine ⟨⟨i + 1,_,by simp,by omega,by rw [List.length_set]; exact HM.out,hidIt (fun j hj=>?_),HO3,hidIt (((HB2.out.setCell (by simp) _).setCell (by simp) _).setCell (by simp) _)⟩,by simp [intOf]; omega⟩
   rw [rat_set HMi.out]
   split
   ·
    next e=>subst e; exact HX.out.symm
   ·
    exact hE.out j (by omega)
  ·
   have hin' : ¬ (i : Int) < (m : Int):=by omega
   have e : M = L:=ext_rat (by rw [HM.out,HN.out]) (fun j hj=>hE.out j (by rw [HM.out] at hj; omega))
   subst e
   go_wp2_with (fail)
   go_ret
   exact ⟨_,rfl,HOx.out,HBx.out⟩
theorem eqS_same (a a' : Option Addr) (cap cap' : Nat) (L : List Rw) (w : World) (h : Rd w a L) (h' : Rd w a' L) (hl : L.length ≤ 9223372036854775807) :
  Calls Tryz.prog 85 #[.slice a L.length cap,.slice a' L.length cap'] w fun e w'=>e = .returned (.bool true) ∧ Below w.heap.size w w':=by
 generalize hn : L.length = m at *
 have HA:=hidIt h
 have HA':=hidIt h'
 have HN:=hidIt hn
 clear h h' hn
 have hmm : ((m : Int) != (m : Int)) = false:=by simp
 go_enter Tryz.func85,Tryz.ntmps85
 go_wp2_with (fail)
 go_loopw [5] (fun y wx=>∃ i : Nat,y = .int .i64 i ∧ i ≤ m ∧ Hid (Below w.heap.size w wx)) (fun y _=>(m - intOf y).toNat)
 case atStart=>exact ⟨0,rfl,by omega,hidIt (Below.refl _ _)⟩
 case round =>
  obtain ⟨i,rfl,hi,hB⟩:=hrel
  by_cases hin : i < m
  ·
   have hin' : (i : Int) < (m : Int):=by omega
   obtain ⟨b,off,rfl,c0,c1,c2⟩:=(HA.out.kept hB.out).all (i:=i) (by rw [HN.out]; exact hin)
   obtain ⟨b',off',rfl,d0,d1,d2⟩:=(HA'.out.kept hB.out).all (i:=i) (by rw [HN.out]; exact hin)
   have hC:=eq_same (rat L i)
   generalize rat L i = x at c0 c1 c2 d0 d1 d2 hC
   obtain ⟨x0,x1,x2⟩:=x
   simp only [rv] at hC c0 c1 c2 d0 d1 d2
   have HC:=hidIt hC
   clear hC
   haveI:=BelowBy.one wr
   have g0:=fun p : BelowBy wr=>p.cell c0
   have g1:=fun p : BelowBy wr=>p.cell c1
   have g2:=fun p : BelowBy wr=>p.cell c2
   have k0:=fun p : BelowBy wr=>p.cell d0
   have k1:=fun p : BelowBy wr=>p.cell d1
   have k2:=fun p : BelowBy wr=>p.cell d2
   go_wp2_with (fail)
   refine wp_region_below (by kernel_rfl) (by kernel_rfl) ?_
   repeat (go_big_quiet_step (first | (go_at_call 115; refine calls_below (HC.out _))))
   refine wpQuiet_nil ?_
   intro _ hw'
   obtain ⟨pq,rfl⟩:=hw'
   have hB1:=hidIt (hB.out.trans (pq.h.mono hB.out.size))
   generalize pq.world = w2 at hB1 ⊢
   clear c0 c1 c2 d0 d1 d2 g0 g1 g2 k0 k1 k2
   go_wp2_with (fail)
   exact ⟨⟨i + 1,by simp,by omega,hB1⟩,by simp [intOf]; omega⟩
  ·
   have hin' : ¬ (i : Int) < (m : Int):=by omega
   go_wp2_with (fail)
   go_ret
   exact ⟨rfl,hB.out⟩
end Go.Proofs.YtgbnkkjjgodilaaGreatDoor.Bu
namespace Go.Proofs.YtgbnkkjjgodilaaGreatDoor.Bu
open Go.ChangeShapes Go.WideShapes Go.ChangeAt Go.RowKit
open Rc (BelowBy BelowBy.one BelowBy.cell wp_region_below calls_below calls_same)
set_option linter.unusedSimpArgs false
def markX (k m : Nat) : List Rw:=(List.range m).map fun j=>(((k + 3 * j : Nat) : Int),((k + 3 * j + 1 : Nat) : Int),((k + 3 * j + 2 : Nat) : Int))
theorem markX_length (k m : Nat) : (markX k m).length = m:=by simp [markX]
theorem rat_markX (k m j : Nat) (h : j < m) : rat (markX k m) j = (((k + 3 * j : Nat) : Int),((k + 3 * j + 1 : Nat) : Int),((k + 3 * j + 2 : Nat) : Int)):=by
 unfold markX
 rw [rat_map _ _ _ h]
theorem set_self {L : List Rw} {i : Nat} : L.set i (rat L i) = L:=by
 by_cases h : i < L.length
 ·
  apply ext_rat (by rw [List.length_set])
  intro t ht
  rw [rat_set h]
  split
  ·
   next e=>rw [e]
  ·
   rfl
 ·
  rw [List.set_eq_of_length_le (by omega)]
theorem Own.put0 {w : World} {base g m cap i : Nat} {L : List Rw} {y0 y1 y2} (h : Own w base (.slice (some ⟨g,0,none⟩) m cap) (L.set i (y0,y1,y2))) (hi : i < L.length) (v : Int) : Own (w.setCell ⟨g,i * 3,none⟩ (.int .i64 v)) base (.slice (some ⟨g,0,none⟩) m cap) (L.set i (v,y1,y2)):=by
 have h1:=h.set (i:=i) (j:=0) (v:=.int .i64 v) (y:=(v,y1,y2)) (by rw [List.length_set]; exact hi) (by omega) (fun k hk=>by
  rw [rat_set hi,if_pos rfl]
  match k,hk with
  | 0,_=>rfl
  | 1,_=>rfl
  | 2,_=>rfl)
 rw [List.set_set] at h1
 exact h1
theorem Own.put1 {w : World} {base g m cap i : Nat} {L : List Rw} {y0 y1 y2} (h : Own w base (.slice (some ⟨g,0,none⟩) m cap) (L.set i (y0,y1,y2))) (hi : i < L.length) (v : Int) : Own (w.setCell ⟨g,i * 3 + 1,none⟩ (.int .i64 v)) base (.slice (some ⟨g,0,none⟩) m cap) (L.set i (y0,v,y2)):=by
 have h1:=h.set (i:=i) (j:=1) (v:=.int .i64 v) (y:=(y0,v,y2)) (by rw [List.length_set]; exact hi) (by omega) (fun k hk=>by
  rw [rat_set hi,if_pos rfl]
  match k,hk with
  | 0,_=>rfl
  | 1,_=>rfl
  | 2,_=>rfl)
 rw [List.set_set] at h1
 exact h1
theorem Own.put2 {w : World} {base g m cap i : Nat} {L : List Rw} {y0 y1 y2} (h : Own w base (.slice (some ⟨g,0,none⟩) m cap) (L.set i (y0,y1,y2))) (hi : i < L.length) (v : Int) : Own (w.setCell ⟨g,i * 3 + 2,none⟩ (.int .i64 v)) base (.slice (some ⟨g,0,none⟩) m cap) (L.set i (y0,y1,v)):=by
 have h1:=h.set (i:=i) (j:=2) (v:=.int .i64 v) (y:=(y0,y1,v)) (by rw [List.length_set]; exact hi) (by omega) (fun k hk=>by
  rw [rat_set hi,if_pos rfl]
  match k,hk with
  | 0,_=>rfl
  | 1,_=>rfl
  | 2,_=>rfl)
 rw [List.set_set] at h1
 exact h1
theorem markS_any (base : Nat) (v : Value) (L : List Rw) (k : Nat) (w : World) (h : Own w base v L) (h1 : 1 ≤ k) (h2 : k + 3 * L.length ≤ 1099511627776) :
  Calls Tryz.prog 57 #[v,.int .i64 k] w fun e w'=>e = .returned (.int .i64 ((k + 3 * L.length : Nat) : Int)) ∧ Own w' base v (markX k L.length) ∧ Only (ob w v) w w':=by
 obtain ⟨a,cap,rfl,hcap,hcm,hR,hna,hsome⟩:=h.form
 cases a with
 | none =>
  have e:=hR.none_nil
  subst e
  have e:=hna rfl
  subst e
  clear hsome hna
  go_enter Tryz.func57,Tryz.ntmps57
  go_wp2_with (fail)
  refine wp_loop_rounds 1 ?_
  rw [rounds_succ]
  go_wp2_with (fail)
  go_ret
  exact ⟨by simp,h,Only.refl _ _⟩
 | some x =>
  obtain ⟨g,rfl,hbg,hgl⟩:=hsome x rfl
  have eo : ob w (.slice (some ⟨g,0,none⟩) L.length cap) = g:=rfl
  rw [eo]
  have HO:=hidIt h
  generalize hn : L.length = m at *
  have HN:=hidIt hn
  clear h hR hna hsome hn eo hcm
  go_enter Tryz.func57,Tryz.ntmps57
  go_wp2_with (fail)
  go_loopw [1,5] (fun z y wx=>∃ (i : Nat) (M : List Rw),y = .int .i64 i ∧ z = .int .i64 ((k + 3 * i : Nat) : Int) ∧ i ≤ m ∧ M.length = m ∧ Hid (∀ j,j < i → rat M j = (((k + 3 * j : Nat) : Int),((k + 3 * j + 1 : Nat) : Int),((k + 3 * j + 2 : Nat) : Int))) ∧ Hid (Own wx base (.slice (some ⟨g,0,none⟩) m cap) M) ∧ Hid (Only g w wx)) (fun _ y _=>(m - intOf y).toNat)
  case atStart=>exact ⟨0,L,rfl,rfl,by omega,HN.out,hidIt (fun j hj=>by omega),HO,hidIt (Only.refl _ _)⟩
  case round =>
   obtain ⟨i,M,rfl,rfl,hi,hM,hE,HOx,HY⟩:=hrel
   have HM:=hidIt hM
   clear hM HO
   by_cases hin : i < m
   ·
    have hin' : (i : Int) < (m : Int):=by omega
    have HMi : Hid (i < M.length):=hidIt (by rw [HM.out]; exact hin)
    generalize hk : k + 3 * i = q
    have HK:=hidIt hk
    clear hk
    have q1 : q + 3 ≤ 1099511627776:=by have:=HK.out; omega
    have HEY : Hid (((q : Int),(q : Int) + 1,(q : Int) + 1 + 1) = (((q : Nat) : Int),((q + 1 : Nat) : Int),((q + 2 : Nat) : Int))):=hidIt (by rw [show (q : Int) + 1 + 1 = ((q + 2 : Nat) : Int) by omega,show (q : Int) + 1 = ((q + 1 : Nat) : Int) by omega])
    have HO : Hid (Own wr base (.slice (some ⟨g,0,none⟩) m cap) (M.set i (rat M i))):=hidIt (by rw [set_self]; exact HOx.out)
    clear HOx
    generalize rat M i = r at HO
    obtain ⟨r0,r1,r2⟩:=r
    have z0:=HO.out.at (i:=i) (by rw [List.length_set]; exact HMi.out) (j:=0) (by omega)
    have f0:=HO.out.free (i * 3)
    have z1:=HO.out.at (i:=i) (by rw [List.length_set]; exact HMi.out) (j:=1) (by omega)
    have f1:=HO.out.free (i * 3 + 1)
    have z2:=HO.out.at (i:=i) (by rw [List.length_set]; exact HMi.out) (j:=2) (by omega)
    have f2:=HO.out.free (i * 3 + 2)
    simp only [rcell,Nat.add_zero] at z0 z1 z2
    replace HO:=hidIt (((HO.out.put0 HMi.out ((q : Int))).put1 HMi.out ((q : Int) + 1)).put2 HMi.out ((q : Int) + 1 + 1))
    replace HY:=hidIt (((HY.out.setCell (i * 3) (.int .i64 ((q : Int)))).setCell (i * 3 + 1) (.int .i64 ((q : Int) + 1))).setCell (i * 3 + 2) (.int .i64 ((q : Int) + 1 + 1)))
    go_wp2_with (fail)
    refine ⟨⟨i + 1,_,by simp,?_,by omega,by rw [List.length_set]; exact HM.out,hidIt (fun j hj=>?_),HO,HY⟩,by simp [intOf]; omega⟩
    ·
     have:=HK.out
     congr 1
     omega
    ·
     rw [rat_set HMi.out]
     split
     ·
      next e =>
      subst e
      rw [HK.out,← HEY.out]
     ·
      exact hE.out j (by omega)
   ·
    have hin' : ¬ (i : Int) < (m : Int):=by omega
    have HI : Hid (i = m):=hidIt (by omega)
    have e : M = markX k m:=ext_rat (by rw [HM.out,markX_length]) (fun j hj=>by rw [HM.out] at hj; rw [hE.out j (by have:=HI.out; omega),rat_markX _ _ _ hj])
    subst e
    have ei : i = m:=HI.out
    subst ei
    generalize hk : k + 3 * i = q
    go_wp2_with (fail)
    go_ret
    exact ⟨rfl,HOx.out,HY.out⟩
theorem heldS_any (a : Option Addr) (cap m k : Nat) (w : World) (h : Rd w a (markX k m)) (h1 : 1 ≤ k) (h2 : k + 3 * m ≤ 1099511627776) :
  Calls Tryz.prog 62 #[.slice a m cap,.int .i64 k] w fun e w'=>e = .returned (.int .i64 ((k + 3 * m : Nat) : Int)) ∧ Below w.heap.size w w':=by
 have HR:=hidIt h
 clear h
 go_enter Tryz.func62,Tryz.ntmps62
 go_wp2_with (fail)
 go_loopw [1,5] (fun z y wx=>∃ i : Nat,y = .int .i64 i ∧ z = .int .i64 ((k + 3 * i : Nat) : Int) ∧ i ≤ m ∧ Hid (Below w.heap.size w wx)) (fun _ y _=>(m - intOf y).toNat)
 case atStart=>exact ⟨0,rfl,rfl,by omega,hidIt (Below.refl _ _)⟩
 case round =>
  obtain ⟨i,rfl,rfl,hi,HB⟩:=hrel
  by_cases hin : i < m
  ·
   have hin' : (i : Int) < (m : Int):=by omega
   obtain ⟨b,off,rfl,c0,c1,c2⟩:=(HR.out.kept HB.out).all (i:=i) (by rw [markX_length]; exact hin)
   rw [rat_markX _ _ _ hin] at c0 c1 c2
   simp only at c0 c1 c2
   have q3 : Hid (k + 3 * (i + 1) = k + 3 * i + 3):=hidIt (by omega)
   have q1 : k + 3 * i + 3 ≤ 1099511627776:=by omega
   have HK : Hid (1 ≤ k + 3 * i):=hidIt (by omega)
   generalize k + 3 * i = q at c0 c1 c2 q1 q3 HK
   rw [show ((q + 1 : Nat) : Int) = (q : Int) + 1 by omega] at c1
   rw [show ((q + 2 : Nat) : Int) = (q : Int) + 1 + 1 by omega] at c2
   have hne0 : ((q : Int) != (q : Int)) = false:=by simp
   have hne1 : ((q : Int) + 1 != (q : Int) + 1) = false:=by simp
   have hne2 : ((q : Int) + 1 + 1 != (q : Int) + 1 + 1) = false:=by simp
   clear HR
   go_wp2_with (fail)
   refine ⟨⟨i + 1,by simp,?_,by omega,HB⟩,by simp [intOf]; omega⟩
   rw [q3.out]
   congr 1
  ·
   have hin' : ¬ (i : Int) < (m : Int):=by omega
   have ei : i = m:=by omega
   subst ei
   generalize hk : k + 3 * i = q
   go_wp2_with (fail)
   go_ret
   exact ⟨rfl,HB.out⟩
end Go.Proofs.YtgbnkkjjgodilaaGreatDoor.Bu
namespace Go.Proofs.YtgbnkkjjgodilaaGreatDoor.En
open Go.ChangeShapes Go.WideShapes Go.ChangeAt Go.RowKit
theorem hidIt {p : Prop} (h : p) : Hid p:=h
abbrev Rw:=ByteArray × ByteArray × Int × Int × Bool
abbrev rv (x : Rw) : Value:=.agg #[.string x.1,.string x.2.1,.int .i64 x.2.2.1,.int .i64 x.2.2.2.1,.bool x.2.2.2.2]
abbrev rc (x : Rw) : Array Value:=#[.string x.1,.string x.2.1,.int .i64 x.2.2.1,.int .i64 x.2.2.2.1,.bool x.2.2.2.2]
def rat (L : List Rw) (i : Nat) : Rw:=L.getD i (ByteArray.empty,ByteArray.empty,0,0,false)
theorem rat_at {L : List Rw} {i : Nat} (h : i < L.length) : rat L i = L[i]:=by
 unfold rat
 rw [List.getD_eq_getElem?_getD,List.getElem?_eq_getElem h]
 rfl
theorem rat_getElem? {L : List Rw} {i : Nat} (h : i < L.length) : L[i]? = some (rat L i):=by rw [rat_at h,List.getElem?_eq_getElem h]
theorem rat_mem {L : List Rw} {i : Nat} (h : i < L.length) : rat L i ∈ L:=by rw [rat_at h]; exact List.getElem_mem h
theorem rat_set {L : List Rw} {i j : Nat} {x : Rw} (h : i < L.length) : rat (L.set i x) j = if i = j then x else rat L j:=by
 unfold rat
 rw [List.getD_eq_getElem?_getD,List.getD_eq_getElem?_getD,List.getElem?_set]
 by_cases e : i = j
 ·
  subst e; simp [h]
 ·
  simp [e]
theorem ext_rat {L M : List Rw} (h : L.length = M.length) (e : ∀ i,i < L.length → rat L i = rat M i) : L = M:=by
 apply List.ext_getElem?
 intro i
 by_cases hi : i < L.length
 ·
  rw [rat_getElem? hi,rat_getElem? (by omega),e i hi]
 ·
  rw [List.getElem?_eq_none (by omega),List.getElem?_eq_none (by omega)]
def rcell (x : Rw) : Nat → Value
 | 0=>.string x.1
 | 1=>.string x.2.1
 | 2=>.int .i64 x.2.2.1
 | 3=>.int .i64 x.2.2.2.1
 | _=>.bool x.2.2.2.2
def rcells : List Rw → List Value
 | []=>[]
 | x :: r=>.string x.1 :: .string x.2.1 :: .int .i64 x.2.2.1 :: .int .i64 x.2.2.2.1 :: .bool x.2.2.2.2 :: rcells r
theorem rcells_cons (x : Rw) (r : List Rw) : rcells (x :: r) = .string x.1 :: .string x.2.1 :: .int .i64 x.2.2.1 :: .int .i64 x.2.2.2.1 :: .bool x.2.2.2.2 :: rcells r:=rfl
theorem rcells_length (L : List Rw) : (rcells L).length = L.length * 5:=by
 induction L with
 | nil=>rfl
 | cons x r ih=>simp only [rcells_cons,List.length_cons,ih]; omega
theorem rcells_append (L M : List Rw) : rcells (L ++ M) = rcells L ++ rcells M:=by
 induction L with
 | nil=>rfl
 | cons x r ih=>rw [List.cons_append,rcells_cons,rcells_cons,ih]; rfl
theorem rcells_one (L : List Rw) : ∀ u ∈ rcells L,u.oneCell' = true:=by
 induction L with
 | nil=>intro u hu; cases hu
 | cons x r ih =>
  intro u hu
  rw [rcells_cons] at hu
  simp only [List.mem_cons] at hu
  rcases hu with rfl | rfl | rfl | rfl | rfl | hu
  ·
   rfl
  ·
   rfl
  ·
   rfl
  ·
   rfl
  ·
   rfl
  ·
   exact ih u hu
theorem rcells_get (L : List Rw) : ∀ i j,i < L.length → j < 5 → (rcells L)[i * 5 + j]? = some (rcell (rat L i) j):=by
 induction L with
 | nil=>intro i j hi; simp at hi
 | cons x r ih =>
  intro i j hi hj
  cases i with
  | zero =>
   match j,hj with
   | 0,_=>rfl
   | 1,_=>rfl
   | 2,_=>rfl
   | 3,_=>rfl
   | 4,_=>rfl
  | succ k =>
   rw [rcells_cons,show (k + 1) * 5 + j = k * 5 + j + 1 + 1 + 1 + 1 + 1 by omega,List.getElem?_cons_succ,List.getElem?_cons_succ,List.getElem?_cons_succ,List.getElem?_cons_succ,List.getElem?_cons_succ,ih k j (by simp at hi; omega) hj]
   rfl
theorem rcells_set (L : List Rw) : ∀ i j (v : Value) (y : Rw),i < L.length → j < 5 → (∀ k,k < 5 → rcell y k = if k = j then v else rcell (rat L i) k) → (rcells L).set (i * 5 + j) v = rcells (L.set i y):=by
 induction L with
 | nil=>intro i j v y hi; simp at hi
 | cons x r ih =>
  intro i j v y hi hj h
  cases i with
  | zero =>
   have e0:=h 0 (by omega)
   have e1:=h 1 (by omega)
   have e2:=h 2 (by omega)
   have e3:=h 3 (by omega)
   have e4:=h 4 (by omega)
   rw [List.set_cons_zero,rcells_cons y r,show (.string y.1 : Value) = rcell y 0 from rfl,show (.string y.2.1 : Value) = rcell y 1 from rfl,show (.int .i64 y.2.2.1 : Value) = rcell y 2 from rfl,show (.int .i64 y.2.2.2.1 : Value) = rcell y 3 from rfl,show (.bool y.2.2.2.2 : Value) = rcell y 4 from rfl,e0,e1,e2,e3,e4]
   match j,hj with
   | 0,_=>rfl
   | 1,_=>rfl
   | 2,_=>rfl
   | 3,_=>rfl
   | 4,_=>rfl
  | succ k =>
   rw [rcells_cons,show (k + 1) * 5 + j = k * 5 + j + 1 + 1 + 1 + 1 + 1 by omega,List.set_cons_succ,List.set_cons_succ,List.set_cons_succ,List.set_cons_succ,List.set_cons_succ,ih k j v y (by simp at hi; omega) hj (fun n hn=>h n hn)]
   rfl
structure Rd (w : World) (a : Option Addr) (L : List Rw) : Prop where
 cell : ∀ i,i < L.length → ∃ b off,a = some ⟨b,off,none⟩ ∧ ∀ j,j < 5 → w.cell? ⟨b,off + (i * 5 + j),none⟩ = some (rcell (rat L i) j)
theorem Rd.all {w : World} {a : Option Addr} {L : List Rw} (h : Rd w a L) {i : Nat} (hi : i < L.length) : ∃ b off,a = some ⟨b,off,none⟩ ∧ w.cell? ⟨b,off + i * 5,none⟩ = some (.string (rat L i).1) ∧ w.cell? ⟨b,off + i * 5 + 1,none⟩ = some (.string (rat L i).2.1) ∧ w.cell? ⟨b,off + i * 5 + 2,none⟩ = some (.int .i64 (rat L i).2.2.1) ∧ w.cell? ⟨b,off + i * 5 + 3,none⟩ = some (.int .i64 (rat L i).2.2.2.1) ∧ w.cell? ⟨b,off + i * 5 + 4,none⟩ = some (.bool (rat L i).2.2.2.2):=by
 obtain ⟨b,off,e,c⟩:=h.cell i hi
 exact ⟨b,off,e,c 0 (by omega),by rw [Nat.add_assoc]; exact c 1 (by omega),by rw [Nat.add_assoc]; exact c 2 (by omega),by rw [Nat.add_assoc]; exact c 3 (by omega),by rw [Nat.add_assoc]; exact c 4 (by omega)⟩
theorem cell_block {w : World} {b o : Nat} {v : Value} (h : w.cell? ⟨b,o,none⟩ = some v) : b < w.heap.size:=World.block_lt_of_cell? w ⟨b,o,none⟩ h
theorem Rd.kept {w w' : World} {a : Option Addr} {L : List Rw} (h : Rd w a L) (k : Below w.heap.size w w') : Rd w' a L :=
 ⟨fun i hi=>by
  obtain ⟨b,off,e,c⟩:=h.cell i hi
  exact ⟨b,off,e,fun j hj=>by rw [k.cell (by simpa using cell_block (c j hj))]; exact c j hj⟩⟩
theorem Rd.alloc {w : World} {a : Option Addr} {L : List Rw} (h : Rd w a L) (o : Obj) : Rd (w.alloc o) a L:=h.kept ((Below.refl _ _).alloc (Nat.le_refl _) o)
theorem Rd.drew {w : World} {a : Option Addr} {L : List Rw} (h : Rd w a L) : Rd w.drew a L:=⟨h.cell⟩
theorem Rd.nil (w : World) (a : Option Addr) : Rd w a []:=⟨fun i hi=>by simp at hi⟩
theorem Rd.none_nil {w : World} {L : List Rw} (h : Rd w none L) : L = []:=by
 cases L with
 | nil=>rfl
 | cons x r=>obtain ⟨b,off,e,_⟩:=h.cell 0 (by simp); cases e
def Own (w : World) (base : Nat) (v : Value) (L : List Rw) : Prop:=w.ownsRow base 98 5 v L.length (rcells L)
theorem Own.form {w : World} {base : Nat} {v : Value} {L : List Rw} (h : Own w base v L) : ∃ a cap,v = .slice a L.length cap ∧ L.length ≤ cap ∧ cap ≤ maxLen ∧ Rd w a L ∧ (a = none → cap = 0) ∧ (∀ x,a = some x → ∃ g,x = ⟨g,0,none⟩ ∧ base ≤ g ∧ g < w.heap.size):=by
 have h':=h
 rcases h.2 with ⟨rfl,h0⟩ | ⟨g,cap,cur,rfl,hb,hg,hn,hm,rest⟩
 ·
  exact ⟨none,0,by rw [h0],by omega,by decide,⟨fun i hi=>by omega⟩,fun _=>rfl,fun x hx=>by cases hx⟩
 ·
  refine ⟨some ⟨g,0,none⟩,cap,rfl,hn,hm,⟨fun i hi=>⟨g,0,rfl,fun j hj=>?_⟩⟩,(fun e=>by cases e),fun x hx=>⟨g,by cases hx; rfl,hb,(Array.getElem?_eq_some_iff.1 hg).1⟩⟩
  rw [Nat.zero_add,World.ownsRow.cellAt h' _ (by omega),rcells_get _ _ _ hi hj]
theorem Own.kept {w w' : World} {base : Nat} {v : Value} {L : List Rw} (h : Own w base v L) (k : Below w.heap.size w w') : Own w' base v L :=
 World.ownsRow.kept (row:=none) h ⟨k.os,k.tape,k.output,k.size,fun i hi _=>k.block i hi⟩ (by cases v.ownBlock <;> simp)
theorem Own.alloc {w : World} {base : Nat} {v : Value} {L : List Rw} (h : Own w base v L) (o : Obj) : Own (w.alloc o) base v L:=World.ownsRow.alloc h o
theorem Own.drew {w : World} {base : Nat} {v : Value} {L : List Rw} (h : Own w base v L) : Own w.drew base v L:=h
theorem Own.only {w w' : World} {base c : Nat} {v : Value} {L : List Rw} (h : Own w base v L) (k : Only c w w') (hc : c < base ∨ ∀ g,v.ownBlock = some g → g ≠ c) : Own w' base v L:=by
 refine World.ownsRow.kept h (row:=some c) ⟨k.os,k.tape,k.output,k.size,fun i hi hne=>k.block i hi (fun e=>hne (by rw [e]))⟩ ?_
 cases hv : v.ownBlock with
 | none=>exact .inl rfl
 | some g =>
  refine .inr (fun e=>?_)
  cases e
  rcases hc with hc | hc
  ·
   have:=(World.ownsRow.lt h _ hv).1; omega
  ·
   exact hc _ hv rfl
theorem Own.mono {w : World} {base b' : Nat} {v : Value} {L : List Rw} (h : Own w base v L) (hb : b' ≤ base) : Own w b' v L:=by
 refine ⟨h.1,?_⟩
 rcases h.2 with h0 | ⟨g,cap,cur,e,hb',r⟩
 ·
  exact .inl h0
 ·
  exact .inr ⟨g,cap,cur,e,by omega,r⟩
theorem Own.new (w : World) : Own (w.alloc (.cells #[] 98)) w.heap.size (.slice (some ⟨w.heap.size,0,none⟩) 0 0) [] :=
 World.ownsRow_made w #[] 0 (Nat.le_refl _) (by decide) rfl
theorem Own.ofNil (w : World) (base : Nat) : Own w base (.slice none 0 0) []:=World.ownsRow_nil _ _ _ _
theorem Own.more {w : World} {base : Nat} {v : Value} {L M : List Rw} (h : w.ownsRow base 98 5 v (L.length + M.length) (rcells L ++ rcells M)) : Own w base v (L ++ M):=by
 unfold Own
 rw [List.length_append,rcells_append]
 exact h
theorem Own.free {w : World} {base g m cap : Nat} {L : List Rw} (h : Own w base (.slice (some ⟨g,0,none⟩) m cap) L) (j : Nat) : w.frozen? ⟨g,j,none⟩ = false:=by
 obtain ⟨a,c',e,_⟩:=h.form
 cases e
 exact World.ownsRow.frozenAt h j
theorem Own.at {w : World} {base g m cap i j : Nat} {L : List Rw} (h : Own w base (.slice (some ⟨g,0,none⟩) m cap) L) (hi : i < L.length) (hj : j < 5) : w.cell? ⟨g,i * 5 + j,none⟩ = some (rcell (rat L i) j):=by
 obtain ⟨a',c',e1,_,_,r,_⟩:=h.form
 cases e1
 obtain ⟨b',o',e2,k⟩:=r.cell i hi
 cases e2
 simpa using k j hj
theorem Own.set {w : World} {base g m cap i j : Nat} {L : List Rw} {v : Value} {y : Rw} (h : Own w base (.slice (some ⟨g,0,none⟩) m cap) L) (hi : i < L.length) (hj : j < 5) (hy : ∀ k,k < 5 → rcell y k = if k = j then v else rcell (rat L i) k) :
  Own (w.setCell ⟨g,i * 5 + j,none⟩ v) base (.slice (some ⟨g,0,none⟩) m cap) (L.set i y):=by
 obtain ⟨a,c',e,_⟩:=h.form
 cases e
 have:=(World.ownsRow.stored h (i * 5 + j) v).1
 rw [rcells_set L i j v y hi hj hy] at this
 unfold Own
 rw [List.length_set]
 exact this
theorem grown_below {w w' : World} {base Bb : Nat} {v : Value} {L : List Rw} (h : Own w base v L) (g : w.grownBy w' v.ownBlock) (hB : Bb ≤ base) (hs : Bb ≤ w.heap.size) : Below Bb w w' :=
 ⟨g.os,g.tape,g.output,g.size,fun k hk=>g.block k (by omega) (fun e=>by have:=(World.ownsRow.lt h k e.symm).1; omega)⟩
theorem Own.whole {w : World} {base g m cap i : Nat} {L : List Rw} (h : Own w base (.slice (some ⟨g,0,none⟩) m cap) L) (hi : i < L.length) (y : Rw) :
  Own ((((((w.setCell ⟨g,i * 5,none⟩ (.string y.1)).setCell ⟨g,i * 5 + 1,none⟩ (.string y.2.1)).setCell ⟨g,i * 5 + 2,none⟩ (.int .i64 y.2.2.1)).setCell ⟨g,i * 5 + 3,none⟩ (.int .i64 y.2.2.2.1)).setCell ⟨g,i * 5 + 4,none⟩ (.bool y.2.2.2.2))) base (.slice (some ⟨g,0,none⟩) m cap) (L.set i y):=by
 obtain ⟨y0,y1,y2,y3,y4⟩:=y
 have h1:=h.set (i:=i) (j:=0) (v:=.string y0) (y:=(y0,(rat L i).2.1,(rat L i).2.2.1,(rat L i).2.2.2.1,(rat L i).2.2.2.2)) hi (by omega) (fun k hk=>by
  match k,hk with
  | 0,_=>rfl
  | 1,_=>rfl
  | 2,_=>rfl
  | 3,_=>rfl
  | 4,_=>rfl)
 have h2:=h1.set (i:=i) (j:=1) (v:=.string y1) (y:=(y0,y1,(rat L i).2.2.1,(rat L i).2.2.2.1,(rat L i).2.2.2.2)) (by rw [List.length_set]; exact hi) (by omega) (fun k hk=>by
  rw [rat_set hi,if_pos rfl]
  match k,hk with
  | 0,_=>rfl
  | 1,_=>rfl
  | 2,_=>rfl
  | 3,_=>rfl
  | 4,_=>rfl)
 rw [List.set_set] at h2
 have h3:=h2.set (i:=i) (j:=2) (v:=.int .i64 y2) (y:=(y0,y1,y2,(rat L i).2.2.2.1,(rat L i).2.2.2.2)) (by rw [List.length_set]; exact hi) (by omega) (fun k hk=>by
  rw [rat_set hi,if_pos rfl]
  match k,hk with
  | 0,_=>rfl
  | 1,_=>rfl
  | 2,_=>rfl
  | 3,_=>rfl
  | 4,_=>rfl)
 rw [List.set_set] at h3
 have h4:=h3.set (i:=i) (j:=3) (v:=.int .i64 y3) (y:=(y0,y1,y2,y3,(rat L i).2.2.2.2)) (by rw [List.length_set]; exact hi) (by omega) (fun k hk=>by
  rw [rat_set hi,if_pos rfl]
  match k,hk with
  | 0,_=>rfl
  | 1,_=>rfl
  | 2,_=>rfl
  | 3,_=>rfl
  | 4,_=>rfl)
 rw [List.set_set] at h4
 have h5:=h4.set (i:=i) (j:=4) (v:=.bool y4) (y:=(y0,y1,y2,y3,y4)) (by rw [List.length_set]; exact hi) (by omega) (fun k hk=>by
  rw [rat_set hi,if_pos rfl]
  match k,hk with
  | 0,_=>rfl
  | 1,_=>rfl
  | 2,_=>rfl
  | 3,_=>rfl
  | 4,_=>rfl)
 rw [List.set_set] at h5
 exact h5
theorem infoRw : (Tryz.prog.info? 98).map (fun i=>(i.zero,i.size,i.bytes)) = some (some (.agg #[.string ByteArray.empty,.string ByteArray.empty,.int .i64 0,.int .i64 0,.bool false]),5,56):=by kernel_rfl
theorem row_cell {w : World} {g : Nat} {cur : Array Value} {T : TypeId} {f : Nat × Nat} (hg : w.heap[g]? = some (.cells cur T f)) (j : Nat) : w.cell? ⟨g,j,none⟩ = cur[j]?:=by simp [World.cell?,hg]
theorem rcells_split (M : List Rw) (k : Nat) (hk : k ≤ M.length) : rcells M = rcells (M.take k) ++ rcells (M.drop k) ∧ (rcells (M.take k)).length = k * 5:=by
 refine ⟨by rw [← rcells_append,List.take_append_drop],?_⟩
 rw [rcells_length,List.length_take,Nat.min_eq_left hk]
theorem rcells_take (M : List Rw) (k : Nat) (hk : k ≤ M.length) : rcells (M.take k) = (rcells M).take (k * 5):=by
 obtain ⟨e,l⟩:=rcells_split M k hk
 rw [e,← l,List.take_left]
theorem rcells_drop (M : List Rw) (k : Nat) (hk : k ≤ M.length) : rcells (M.drop k) = (rcells M).drop (k * 5):=by
 obtain ⟨e,l⟩:=rcells_split M k hk
 rw [e,← l,List.drop_left]
theorem own_row {w : World} {base g m cap : Nat} {M : List Rw} (h : Own w base (.slice (some ⟨g,0,none⟩) m cap) M) : ∃ cur,base ≤ g ∧ w.heap[g]? = some (.cells cur 98 (0,0)) ∧ M.length ≤ cap ∧ cap ≤ maxLen ∧ cur.size = cap * 5 ∧ cur.toList.take (M.length * 5) = rcells M ∧ M.length = m:=by
 obtain ⟨a',c',e,_⟩:=h.form
 have em : M.length = m:=by cases e; rfl
 rcases h.2 with ⟨e',_⟩ | ⟨g',cap',cur,e',hb,hg,hn,hm,hs,ht⟩
 ·
  cases e'
 ·
  cases e'
  exact ⟨cur,hb,hg,hn,hm,hs,ht,rfl⟩
theorem Own.piece {w : World} {base g m cap : Nat} {M : List Rw} (h : Own w base (.slice (some ⟨g,0,none⟩) m cap) M) (k : Nat) (hk : k ≤ M.length) : ∀ j u,(rcells (M.drop k))[j]? = some u → w.cell? ((⟨g,k * 5,none⟩ : Addr).add j) = some u:=by
 intro j u hj
 obtain ⟨cur,_,hg,_,_,hsz,htk,_⟩:=own_row h
 rw [rcells_drop M k hk,List.getElem?_drop,← htk,List.getElem?_take] at hj
 rw [Go.WideShapes.add_plain,row_cell hg]
 split at hj
 ·
  rw [← Array.getElem?_toList]; exact hj
 ·
  cases hj
theorem Own.front {w : World} {base g m cap : Nat} {M : List Rw} (h : Own w base (.slice (some ⟨g,0,none⟩) m cap) M) (k : Nat) (hk : k ≤ M.length) : ∀ j u,(rcells (M.take k))[j]? = some u → w.cell? ((⟨g,0,none⟩ : Addr).add j) = some u:=by
 intro j u hj
 obtain ⟨cur,_,hg,_,_,hsz,htk,_⟩:=own_row h
 rw [rcells_take M k hk,List.getElem?_take] at hj
 rw [Go.WideShapes.add_plain,row_cell hg,Nat.zero_add]
 split at hj
 ·
  rw [← htk,List.getElem?_take] at hj
  split at hj
  ·
   rw [← Array.getElem?_toList]; exact hj
  ·
   cases hj
 ·
  cases hj
theorem Own.some_form {w : World} {base : Nat} {v : Value} {M : List Rw} (h : Own w base v M) (hv : v ≠ .slice none 0 0) : ∃ g cap,v = .slice (some ⟨g,0,none⟩) M.length cap ∧ M.length ≤ cap ∧ cap ≤ 9223372036854775807 ∧ base ≤ g ∧ g < w.heap.size:=by
 obtain ⟨a,cap,rfl,hc,hm,hR,hna,hs⟩:=h.form
 cases a with
 | none =>
  have e:=hna rfl
  subst e
  have : M.length = 0:=by omega
  rw [this] at hv
  exact absurd rfl hv
 | some x =>
  obtain ⟨g,rfl,h1,h2⟩:=hs x rfl
  exact ⟨g,cap,rfl,hc,hm,h1,h2⟩
theorem Rd.cells {w : World} {b off : Nat} {L : List Rw} (h : Rd w (some ⟨b,off,none⟩) L) : ∀ j u,(rcells L)[j]? = some u → w.cell? ((⟨b,off,none⟩ : Addr).add j) = some u:=by
 intro j u hj
 have hlt : j < L.length * 5:=by rw [← rcells_length]; exact (List.getElem?_eq_some_iff.1 hj).1
 obtain ⟨b',o',e,c⟩:=h.cell (j / 5) (by omega)
 cases e
 have hc:=c (j % 5) (by omega)
 have hg:=rcells_get L (j / 5) (j % 5) (by omega) (by omega)
 rw [show j / 5 * 5 + j % 5 = j by omega] at hc hg
 rw [hg] at hj
 rw [Go.WideShapes.add_plain,hc]
 exact hj
theorem step_append {ops : Array Oper} {o : Oper} {a : Act} {w : World} {K : Act → World → Prop} {Q : Exit → Act → World → Prop} {E : Prop}
  (hg : o.guard = none) (s x : Operand) (hop : o.op = Op.call { callee:=Callee.builtin Builtin.append,args:=#[s,x],argTypes:=#[40,40] })
  (base : Nat) (v : Value) (M N : List Rw) (hs : a.eval s = v) (hown : Own w base v M) (ad : Addr) (m c : Nat) (hm : N.length = m) (hx : a.eval x = .slice (some ad) m c) (hc : ∀ j u,(rcells N)[j]? = some u → w.cell? (ad.add j) = some u)
  (hl : M.length + m ≤ 1000) (hb : base ≤ w.heap.size)
  (hK : ∀ v' w',Own w' base v' (M ++ N) → w.grownBy w' v.ownBlock → (v' = .slice none 0 0 ↔ v = .slice none 0 0 ∧ m = 0) → K (a.put o.dst v') w') :
  if Region.wanted o (yielded ops a.tmps) = true then Oper.wp Tryz.prog o a w K Q else E:=by
 have hw : Region.wanted o (yielded ops a.tmps) = true:=by simp [Region.wanted,hg]
 obtain ⟨i0,hi0,hz0,hz1,hz2⟩:=info_parts infoRw
 rw [if_pos hw]
 obtain ⟨v',w',hrun,r1,r2,r3⟩:=run_append_own (P:=Tryz.prog) w base 40 o.type 98 i0 (.agg #[.string ByteArray.empty,.string ByteArray.empty,.int .i64 0,.int .i64 0,.bool false]) 5 56 Tryz.underlying40 hi0 hz0 hz1 hz2 rfl (by decide) v M.length (rcells M) hown ad m c (rcells N) (by rw [rcells_length,hm]) hc (rcells_one _) (by unfold maxLen; omega) (by omega) hb
 unfold Oper.wp
 simp [execOp,hop,resolve,invoke,builtin,hs,hx,hrun,Result.andThen]
 exact hK v' w' (Own.more (by rw [hm]; exact r1)) r2 r3
theorem step_append_none {ops : Array Oper} {o : Oper} {a : Act} {w : World} {K : Act → World → Prop} {Q : Exit → Act → World → Prop} {E : Prop}
  (hg : o.guard = none) (s x : Operand) (hop : o.op = Op.call { callee:=Callee.builtin Builtin.append,args:=#[s,x],argTypes:=#[40,40] })
  (base : Nat) (v : Value) (M : List Rw) (hs : a.eval s = v) (hown : Own w base v M) (hx : a.eval x = .slice none 0 0)
  (hK : K (a.put o.dst v) w) : if Region.wanted o (yielded ops a.tmps) = true then Oper.wp Tryz.prog o a w K Q else E:=by
 have hw : Region.wanted o (yielded ops a.tmps) = true:=by simp [Region.wanted,hg]
 obtain ⟨i0,hi0,hz0,hz1,hz2⟩:=info_parts infoRw
 rw [if_pos hw]
 have hrun:=run_append_owned_none (P:=Tryz.prog) (w:=w) base 40 o.type 98 i0 5 Tryz.underlying40 hi0 v M.length (rcells M) hown
 unfold Oper.wp
 simp [execOp,hop,resolve,invoke,builtin,hs,hx,hrun,Result.andThen]
 exact hK
theorem grown_cell1 {w w' : World} {r : Option Nat} (k : w.grownBy w' r) {b o : Nat} {v : Value} (h : w.cell? ⟨b,o,none⟩ = some v) (hr : some b ≠ r) : w'.cell? ⟨b,o,none⟩ = some v:=by
 rw [World.cell?_of_block (w:=w) (k.block b (cell_block h) hr)]
 exact h
def ob (w : World) (v : Value) : Nat:=v.ownBlock.getD w.heap.size
theorem rat_map (m : Nat) (f : Nat → Rw) (i : Nat) (hi : i < m) : rat ((List.range m).map f) i = f i:=by
 unfold rat
 rw [List.getD_eq_getElem?_getD,List.getElem?_map,List.getElem?_range hi]
 rfl
theorem fresh (w : World) (x : Rw) (T : TypeId) : ∀ j u,(rcells [x])[j]? = some u → (w.alloc (.cells (rc x) T)).cell? ((⟨w.heap.size,0,none⟩ : Addr).add j) = some u:=by
 intro j u hj
 match j,hj with
 | 0,hj=>simp [rcells] at hj; subst hj; simp [Addr.add]
 | 1,hj=>simp [rcells] at hj; subst hj; simp [Addr.add]
 | 2,hj=>simp [rcells] at hj; subst hj; simp [Addr.add]
 | 3,hj=>simp [rcells] at hj; subst hj; simp [Addr.add]
 | 4,hj=>simp [rcells] at hj; subst hj; simp [Addr.add]
 | j + 5,hj=>simp [rcells] at hj
structure In (w : World) (a : Option Addr) (cap : Nat) (L : List Rw) : Prop where
 rd : Rd w a L
 na : a = none → cap = 0
 le : L.length ≤ cap
 cap : cap ≤ 9223372036854775807
 short : ∀ i,i < L.length → (rat L i).1.size ≤ 9223372036854775807 ∧ (rat L i).2.1.size ≤ 9223372036854775807
theorem open_cells {H : Type} {P : Program} {enc : TypeId × Value → H} {w : World} {base : Nat} {spare : Nat → Bool} {held : Bool} {v : Value} {fuel : Nat} {z : DataW H × List MemPlace} {t e : TypeId} {f0 f1 f2 f3 f4 : Field}
  (ht : P.underlying t = some (.slice e)) (he : P.underlying e = some (.struct #[f0,f1,f2,f3,f4])) (ce : P.cellsOf e = 5) (o0 : f0.offset = 0) (o1 : f1.offset = 1) (o2 : f2.offset = 2) (o3 : f3.offset = 3) (o4 : f4.offset = 4)
  (c0 : P.cellsOf f0.type = 1) (c1 : P.cellsOf f1.type = 1) (c2 : P.cellsOf f2.type = 1) (c3 : P.cellsOf f3.type = 1) (c4 : P.cellsOf f4.type = 1)
  (t0 : P.underlying f0.type = some .string) (t1 : P.underlying f1.type = some .string) (t2 : P.underlying f2.type = some (.int .i64)) (t3 : P.underlying f3.type = some (.int .i64)) (t4 : P.underlying f4.type = some .bool)
  (hf : DataW.trod enc P w base spare held fuel t [v] = some z) : ∃ (a : Option Addr) (cap : Nat) (L : List Rw),v = .slice a L.length cap ∧ In w a cap L:=by
 rcases Go.Deep.open_slice ht hf with ⟨hcs,_⟩ | ⟨x,len,cap,m,n,D,Pl,hcs,_,hl,hc,hm,_,hx⟩
 ·
  simp at hcs
  subst hcs
  exact ⟨none,0,[],rfl,Rd.nil _ _,fun _=>rfl,Nat.zero_le _,by decide,fun i hi=>by simp at hi⟩
 ·
  simp at hcs
  subst hcs
  have hlm : len ≤ m:=by rw [hm]; split <;> omega
  have each : ∀ i,i < len → ∃ y : Rw,(∀ j,j < 5 → w.cell? (x.add (i * 5 + j)) = some (rcell y j)) ∧ y.1.size ≤ maxLen ∧ y.2.1.size ≤ maxLen:=by
   intro i hi
   obtain ⟨cs',h1,h2⟩:=hx i (by omega)
   rw [ce] at h1
   obtain ⟨_,hlen,hcell⟩:=World.cells?_some h1
   obtain ⟨xs,k,hk,hxy,_,hxl,hf'⟩:=DataW.trod_struct he h2
   match xs,hxl,cs',hlen with
   | [y0,y1,y2,y3,y4],_,[v0,v1,v2,v3,v4],_ =>
    have g0:=hf' 0 f0 rfl
    have g1:=hf' 1 f1 rfl
    have g2:=hf' 2 f2 rfl
    have g3:=hf' 3 f3 rfl
    have g4:=hf' 4 f4 rfl
    simp [o0,o1,o2,o3,o4,c0,c1,c2,c3,c4] at g0 g1 g2 g3 g4
    obtain ⟨q0,eq0,_,hs0⟩:=DataW.trod_string t0 g0
    obtain ⟨q1,eq1,_,hs1⟩:=DataW.trod_string t1 g1
    obtain ⟨q2,eq2,_,_⟩:=DataW.trod_int t2 g2
    obtain ⟨q3,eq3,_,_⟩:=DataW.trod_int t3 g3
    obtain ⟨q4,eq4,_,_⟩:=DataW.trod_bool t4 g4
    simp at eq0 eq1 eq2 eq3 eq4
    subst eq0 eq1 eq2 eq3 eq4
    refine ⟨(q0,q1,q2,q3,q4),fun j hj=>?_,hs0,hs1⟩
    have e:=hcell j hj
    rw [Go.Deep.add_add] at e
    rw [e]
    match j,hj with
    | 0,_=>rfl
    | 1,_=>rfl
    | 2,_=>rfl
    | 3,_=>rfl
    | 4,_=>rfl
  haveI : Inhabited Rw:=⟨(ByteArray.empty,ByteArray.empty,0,0,false)⟩
  obtain ⟨f,hf'⟩:=Go.Deep.choose_lt each
  refine ⟨some x,cap,(List.range len).map f,by simp,⟨fun i hi=>?_⟩,(fun e=>by cases e),by simpa using hl,hc,fun i hi=>?_⟩
  ·
   have hi' : i < len:=by simpa using hi
   have z0:=(hf' 0 (by omega)).1 0 (by omega)
   obtain ⟨b,off,spot⟩:=x
   have hspot : spot = none:=by simpa [Addr.add] using World.cell?_spot z0
   subst hspot
   refine ⟨b,off,rfl,fun j hj=>?_⟩
   rw [rat_map _ _ _ hi',← Go.WideShapes.add_plain]
   exact (hf' i hi').1 j hj
  ·
   have hi' : i < len:=by simpa using hi
   rw [rat_map _ _ _ hi']
   exact (hf' i hi').2
end Go.Proofs.YtgbnkkjjgodilaaGreatDoor.En
namespace Go.Proofs.YtgbnkkjjgodilaaGreatDoor.En
open Go.ChangeShapes Go.WideShapes Go.ChangeAt Go.RowKit
open Rc (BelowBy BelowBy.one wp_region_below calls_below calls_same)
open Bk (Bytes okE newB okBk look Ris)
abbrev bs (s : ByteArray) : Bytes:=s.data.toList
theorem bs_length (s : ByteArray) : (bs s).length = s.size:=by cases s; simp [ByteArray.size]
theorem bs_inj {a b : ByteArray} (h : bs a = bs b) : a = b:=by
 cases a
 cases b
 simp [bs] at h
 rw [h]
def toE (x : Rw) : Bk.En:=⟨bs x.1,bs x.2.1,x.2.2.1,x.2.2.2.1,x.2.2.2.2⟩
theorem toE_inj {x y : Rw} (h : toE x = toE y) : x = y:=by
 obtain ⟨a,b,c,d,e⟩:=x
 obtain ⟨a',b',c',d',e'⟩:=y
 simp only [toE,Bk.En.mk.injEq] at h
 obtain ⟨h1,h2,rfl,rfl,rfl⟩:=h
 rw [bs_inj h1,bs_inj h2]
abbrev toB (L : List Rw) : List Bk.En:=L.map toE
theorem toB_inj {L M : List Rw} (h : toB L = toB M) : L = M:=by
 induction L generalizing M with
 | nil=>cases M with
  | nil=>rfl
  | cons y M=>cases h
 | cons x L ih=>cases M with
  | nil=>cases h
  | cons y M =>
   simp only [toB,List.map_cons,List.cons.injEq] at h
   rw [toE_inj h.1,ih h.2]
def inB (n lo hi : Int) : Bool:=decide (lo ≤ n) && decide (n ≤ hi)
theorem less_eq : ∀ x y : Bytes,Op.bytesLess x y = decide (x < y)
 | [],[]=>by simp [Op.bytesLess]
 | _ :: _,[]=>by simp [Op.bytesLess]
 | [],_ :: _=>by simp [Op.bytesLess]
 | a :: x,b :: y=>by
  rw [Op.bytesLess,less_eq x y]
  by_cases h : a = b
  ·
   subst h; simp
  ·
   simp [List.cons_lt_cons_iff,h]
theorem less_of (a b : ByteArray) : Op.bytesLess a.toList b.toList = decide (bs a < bs b):=by rw [less_eq,Go.Lib.toList_data,Go.Lib.toList_data]
theorem eq_of (a b : ByteArray) : (a.toList == b.toList) = decide (bs a = bs b):=by rw [Go.Lib.toList_data,Go.Lib.toList_data,Bool.eq_iff_iff]; simp
theorem okE_eq (x : Rw) : okE (toE x) = (inB (x.1.size : Int) 1 40 && (decide (x.2.1.size ≤ 40) && ((!x.2.2.2.2 || decide (x.2.1.size = 0)) && (inB x.2.2.1 1 1000000 && inB x.2.2.2.1 0 7)))):=by
 obtain ⟨a,b,c,d,e⟩:=x
 have h1 : decide (1 ≤ (a.size : Int)) = decide (1 ≤ a.size):=decide_eq_decide.2 (by omega)
 have h2 : decide ((a.size : Int) ≤ 40) = decide (a.size ≤ 40):=decide_eq_decide.2 (by omega)
 simp only [okE,toE,inB,bs_length,h1,h2,Bool.and_assoc]
 rfl
theorem gt_bytes (x y : Bytes) : (!Op.bytesLess x y && !(x == y)) = Op.bytesLess y x:=by
 rw [less_eq,less_eq]
 by_cases h : y < x
 ·
  rw [decide_eq_true h,decide_eq_false (fun k=>List.lt_irrefl _ (List.lt_trans h k))]
  have : x ≠ y:=fun e=>by subst e; exact List.lt_irrefl _ h
  simp [this]
 ·
  rw [decide_eq_false h]
  by_cases k : x < y
  ·
   simp [k]
  ·
   have : x = y:=Bk.lt_total k h
   subst this
   simp
theorem le_bytes (x y : Bytes) : (Op.bytesLess x y || (x == y)) = !Op.bytesLess y x:=by
 rw [← gt_bytes x y]
 cases Op.bytesLess x y <;> cases x == y <;> rfl
theorem str_gtr (t : TypeId) (a b : ByteArray) : binOp .gtr t (.string a) (.string b) = pure (.bool (Op.bytesLess b.toList a.toList)):=by
 rw [← gt_bytes]
 simp [binOp,Op.stringOp]
theorem str_leq (t : TypeId) (a b : ByteArray) : binOp .leq t (.string a) (.string b) = pure (.bool (!Op.bytesLess b.toList a.toList)):=by
 rw [← le_bytes]
 simp [binOp,Op.stringOp]
attribute [local go_sem] str_gtr str_leq
theorem spec_l1In (n lo hi : Int) (w : World) : Calls Tryz.prog 37 #[.int .i64 n,.int .i64 lo,.int .i64 hi] w fun e w'=>e = .returned (.bool (inB n lo hi)) ∧ w' = w:=by
 unfold inB
 by_cases h : lo ≤ n
 ·
  have h' : decide (lo ≤ n) = true:=decide_eq_true h
  rw [h',Bool.true_and]
  go_enter Tryz.func37,Tryz.ntmps37
  go_wp2
  go_ret
  exact ⟨rfl,rfl⟩
 ·
  have h' : decide (lo ≤ n) = false:=decide_eq_false h
  rw [h',Bool.false_and]
  go_enter Tryz.func37,Tryz.ntmps37
  go_wp2
  go_ret
  exact ⟨rfl,rfl⟩
theorem spec_EntryOk (x : Rw) (w : World) (hs : x.1.size ≤ 9223372036854775807) (hu : x.2.1.size ≤ 9223372036854775807) : Calls Tryz.prog 67 #[rv x] w fun e w'=>e = .returned (.bool (okE (toE x))) ∧ Below w.heap.size w w':=by
 rw [okE_eq]
 obtain ⟨a,b,c,d,e⟩:=x
 simp only at hs hu ⊢
 have CK:=hidIt (fun W=>spec_l1In (a.size : Int) 1 40 W)
 have CT:=hidIt (fun W=>spec_l1In c 1 1000000 W)
 have CN:=hidIt (fun W=>spec_l1In d 0 7 W)
 generalize inB (a.size : Int) 1 40 = k1 at CK ⊢
 generalize inB c 1 1000000 = k4 at CT ⊢
 generalize inB d 0 7 = k5 at CN ⊢
 have z1 : -9223372036854775808 ≤ (a.size : Int):=by omega
 have z2 : (a.size : Int) ≤ 9223372036854775807:=by omega
 cases k1 with
 | false =>
  go_enter Tryz.func67,Tryz.ntmps67
  go_wp2_with (fail)
  refine (CK.out _).mono ?_
  rintro e w1 ⟨rfl,rfl⟩
  go_wp2_with (fail)
  go_ret
  exact ⟨rfl,by go_grown⟩
 | true =>
  by_cases hb : b.size ≤ 40
  ·
   have hb' : (b.size : Int) ≤ 40:=by omega
   rw [decide_eq_true hb]
   by_cases he : e = false ∨ b.size = 0
   ·
    have er : (!e || decide (b.size = 0)) = true:=by rcases he with h | h <;> simp [h]
    rw [er]
    simp only [Bool.true_and]
    rcases he with h | h
    ·
     subst h
     cases k4 with
     | false =>
      go_enter Tryz.func67,Tryz.ntmps67
      go_wp2_with (fail)
      refine (CK.out _).mono ?_
      rintro e w1 ⟨rfl,rfl⟩
      go_wp2_with (fail)
      refine (CT.out _).mono ?_
      rintro e w1 ⟨rfl,rfl⟩
      go_wp2_with (fail)
      go_ret
      exact ⟨rfl,by go_grown⟩
     | true =>
      go_enter Tryz.func67,Tryz.ntmps67
      go_wp2_with (fail)
      refine (CK.out _).mono ?_
      rintro e w1 ⟨rfl,rfl⟩
      go_wp2_with (fail)
      refine (CT.out _).mono ?_
      rintro e w1 ⟨rfl,rfl⟩
      go_wp2_with (fail)
      refine (CN.out _).mono ?_
      rintro e w1 ⟨rfl,rfl⟩
      go_wp2_with (fail)
      go_ret
      exact ⟨rfl,by go_grown⟩
    ·
     obtain rfl : b = ByteArray.empty:=by
      apply bs_inj
      have:=bs_length b
      rw [h] at this
      rw [List.length_eq_zero_iff.1 this]
      rfl
     clear h hb hb' hu
     cases e with
     | false =>
      cases k4 with
      | false =>
       go_enter Tryz.func67,Tryz.ntmps67
       go_wp2_with (fail)
       refine (CK.out _).mono ?_
       rintro e w1 ⟨rfl,rfl⟩
       go_wp2_with (fail)
       refine (CT.out _).mono ?_
       rintro e w1 ⟨rfl,rfl⟩
       go_wp2_with (fail)
       go_ret
       exact ⟨rfl,by go_grown⟩
      | true =>
       go_enter Tryz.func67,Tryz.ntmps67
       go_wp2_with (fail)
       refine (CK.out _).mono ?_
       rintro e w1 ⟨rfl,rfl⟩
       go_wp2_with (fail)
       refine (CT.out _).mono ?_
       rintro e w1 ⟨rfl,rfl⟩
       go_wp2_with (fail)
       refine (CN.out _).mono ?_
       rintro e w1 ⟨rfl,rfl⟩
       go_wp2_with (fail)
       go_ret
       exact ⟨rfl,by go_grown⟩
     | true =>
      cases k4 with
      | false =>
       go_enter Tryz.func67,Tryz.ntmps67
       go_wp2_with (fail)
       refine (CK.out _).mono ?_
       rintro e w1 ⟨rfl,rfl⟩
       go_wp2_with (fail)
       refine (CT.out _).mono ?_
       rintro e w1 ⟨rfl,rfl⟩
       go_wp2_with (fail)
       go_ret
       exact ⟨rfl,by go_grown⟩
      | true =>
       go_enter Tryz.func67,Tryz.ntmps67
       go_wp2_with (fail)
       refine (CK.out _).mono ?_
       rintro e w1 ⟨rfl,rfl⟩
       go_wp2_with (fail)
       refine (CT.out _).mono ?_
       rintro e w1 ⟨rfl,rfl⟩
       go_wp2_with (fail)
       refine (CN.out _).mono ?_
       rintro e w1 ⟨rfl,rfl⟩
       go_wp2_with (fail)
       go_ret
       exact ⟨rfl,by go_grown⟩
   ·
    have h1 : e = true:=by cases e <;> simp_all
    have h2 : ¬ b.size = 0:=fun h=>he (.inr h)
    subst h1
    have hbl : (b.toList == []) = false:=by
     have:=bs_length b
     rw [Go.Lib.toList_data]
     cases hb' : b.data.toList with
     | nil=>simp [bs,hb'] at this; omega
     | cons x r=>rfl
    have er : (!true || decide (b.size = 0)) = false:=by simp [h2]
    rw [er]
    clear he er
    go_enter Tryz.func67,Tryz.ntmps67
    go_wp2_with (fail)
    refine (CK.out _).mono ?_
    rintro e w1 ⟨rfl,rfl⟩
    go_wp2_with (fail)
    go_ret
    exact ⟨rfl,by go_grown⟩
  ·
   have hb' : ¬ (b.size : Int) ≤ 40:=by omega
   rw [decide_eq_false hb]
   go_enter Tryz.func67,Tryz.ntmps67
   go_wp2_with (fail)
   refine (CK.out _).mono ?_
   rintro e w1 ⟨rfl,rfl⟩
   go_wp2_with (fail)
   go_ret
   exact ⟨rfl,by go_grown⟩
theorem spec_Newer (x y : Rw) (w : World) : Calls Tryz.prog 98 #[rv x,rv y] w fun e w'=>e = .returned (.bool (newB (toE x) (toE y))) ∧ Below w.heap.size w w':=by
 obtain ⟨k,v,t,n,g⟩:=x
 obtain ⟨k',v',t',n',g'⟩:=y
 by_cases h1 : t = t'
 ·
  by_cases h2 : n = n'
  ·
   by_cases h3 : g = g'
   ·
    have er : newB (toE (k,v,t,n,g)) (toE (k',v',t',n',g')) = Op.bytesLess v'.toList v.toList:=(Bk.newB_4 h1 h2 h3).trans (less_of v' v).symm
    rw [er]
    subst h1 h2 h3
    have e1 : (t != t) = false:=by simp
    have e2 : (n != n) = false:=by simp
    have e3 : (g == g) = true:=by cases g <;> rfl
    clear er
    go_enter Tryz.func98,Tryz.ntmps98
    go_wp2
    go_ret
    exact ⟨rfl,by go_grown⟩
   ·
    have er : newB (toE (k,v,t,n,g)) (toE (k',v',t',n',g')) = g:=Bk.newB_3 h1 h2 h3
    rw [er]
    subst h1 h2
    have e1 : (t != t) = false:=by simp
    have e2 : (n != n) = false:=by simp
    have e3 : (g == g') = false:=by cases g <;> cases g' <;> simp_all
    clear h3 er
    go_enter Tryz.func98,Tryz.ntmps98
    go_wp2
    go_ret
    exact ⟨rfl,by go_grown⟩
  ·
   have er : newB (toE (k,v,t,n,g)) (toE (k',v',t',n',g')) = decide (n' < n):=Bk.newB_2 h1 h2
   rw [er]
   subst h1
   have e1 : (t != t) = false:=by simp
   have e2 : (n != n') = true:=by simpa using h2
   clear h2 er
   go_enter Tryz.func98,Tryz.ntmps98
   go_wp2
   go_ret
   exact ⟨rfl,by go_grown⟩
 ·
  have er : newB (toE (k,v,t,n,g)) (toE (k',v',t',n',g')) = decide (t' < t):=Bk.newB_1 h1
  rw [er]
  have e1 : (t != t') = true:=by simpa using h1
  clear h1 er
  go_enter Tryz.func98,Tryz.ntmps98
  go_wp2
  go_ret
  exact ⟨rfl,by go_grown⟩
end Go.Proofs.YtgbnkkjjgodilaaGreatDoor.En
namespace Go.Proofs.YtgbnkkjjgodilaaGreatDoor.En
open Go.ChangeShapes Go.WideShapes Go.ChangeAt Go.RowKit
open Rc (BelowBy BelowBy.one wp_region_below calls_below calls_same)
open Bk (Bytes okE newB okBk look Ris)
attribute [local go_sem] str_gtr str_leq
abbrev kat (L : List Rw) (i : Nat) : Bytes:=bs (rat L i).1
theorem ris_of {L : List Rw} (h : ∀ i,i + 1 < L.length → kat L i < kat L (i + 1)) : Ris (toB L):=by
 unfold Ris
 rw [List.pairwise_iff_getElem]
 have far : ∀ d i,i + d + 1 < L.length → kat L i < kat L (i + d + 1):=by
  intro d
  induction d with
  | zero=>intro i hi; exact h i hi
  | succ d ih=>intro i hi; exact List.lt_trans (ih i (by omega)) (h (i + d + 1) hi)
 intro i j hi hj hij
 rw [List.length_map] at hi hj
 have:=far (j - i - 1) i (by omega)
 rw [show i + (j - i - 1) + 1 = j by omega] at this
 unfold kat at this
 rw [rat_at hi,rat_at hj] at this
 rw [List.getElem_map,List.getElem_map]
 exact this
theorem ris_to {L : List Rw} (h : Ris (toB L)) (i : Nat) (hi : i + 1 < L.length) : kat L i < kat L (i + 1):=by
 unfold Ris at h
 rw [List.pairwise_iff_getElem] at h
 have:=h i (i + 1) (by rw [List.length_map]; omega) (by rw [List.length_map]; exact hi) (by omega)
 rw [List.getElem_map,List.getElem_map] at this
 unfold kat
 rw [rat_at (by omega),rat_at hi]
 exact this
theorem book_yes {L : List Rw} (h1 : L.length ≤ 80) (h2 : ∀ i,i < L.length → okE (toE (rat L i)) = true) (h3 : ∀ i,i + 1 < L.length → kat L i < kat L (i + 1)) : okBk (toB L) = true:=by
 refine Bk.ok_mk (by rw [List.length_map]; exact h1) (fun e he=>?_) (ris_of h3)
 obtain ⟨x,hx,rfl⟩:=List.mem_map.1 he
 obtain ⟨i,hi,rfl⟩:=List.mem_iff_getElem.1 hx
 have:=h2 i hi
 rwa [rat_at hi] at this
theorem book_no1 {L : List Rw} (h : ¬ L.length ≤ 80) : okBk (toB L) = false:=by
 cases e : okBk (toB L) with
 | false=>rfl
 | true=>exact absurd (by have:=Bk.ok_len e; rwa [List.length_map] at this) h
theorem book_no2 {L : List Rw} {i : Nat} (hi : i < L.length) (h : okE (toE (rat L i)) = false) : okBk (toB L) = false:=by
 cases e : okBk (toB L) with
 | false=>rfl
 | true =>
  have:=Bk.ok_all e (List.mem_map.2 ⟨_,rat_mem hi,rfl⟩)
  rw [h] at this
  cases this
theorem book_no3 {L : List Rw} {i : Nat} (hi : i + 1 < L.length) (h : ¬ kat L i < kat L (i + 1)) : okBk (toB L) = false:=by
 cases e : okBk (toB L) with
 | false=>rfl
 | true=>exact absurd (ris_to (Bk.ok_ris e) i hi) h
theorem spec_BookOk (a : Option Addr) (cap : Nat) (L : List Rw) (w : World) (h : Rd w a L) (hl : L.length ≤ 9223372036854775807) (hs : ∀ i,i < L.length → (rat L i).1.size ≤ 9223372036854775807 ∧ (rat L i).2.1.size ≤ 9223372036854775807) :
  Calls Tryz.prog 38 #[.slice a L.length cap] w fun e w'=>e = .returned (.bool (okBk (toB L))) ∧ Below w.heap.size w w':=by
 have N1 : Hid (¬ L.length ≤ 80 → okBk (toB L) = false):=hidIt book_no1
 have N2 : Hid (∀ i,i < L.length → okE (toE (rat L i)) = false → okBk (toB L) = false):=hidIt (fun i hi h=>book_no2 hi h)
 have N3 : Hid (∀ i,i + 1 < L.length → ¬ kat L i < kat L (i + 1) → okBk (toB L) = false):=hidIt (fun i hi h=>book_no3 hi h)
 have N4 : Hid (L.length ≤ 80 → (∀ i,i < L.length → okE (toE (rat L i)) = true) → (∀ i,i + 1 < L.length → kat L i < kat L (i + 1)) → okBk (toB L) = true):=hidIt book_yes
 generalize okBk (toB L) = r at N1 N2 N3 N4 ⊢
 have HR:=hidIt h
 have HS:=hidIt hs
 clear h hs
 generalize hn : L.length = m at *
 have HN:=hidIt hn
 clear hn
 by_cases h80 : m ≤ 80
 ·
  have h80' : ¬ (80 : Int) < (m : Int):=by omega
  go_enter Tryz.func38,Tryz.ntmps38
  go_wp2_with (fail)
  go_loopw [3] (fun y wx=>∃ i : Nat,y = .int .i64 i ∧ i ≤ m ∧ Hid (∀ j,j < i → okE (toE (rat L j)) = true) ∧ Hid (∀ j,j + 1 < i → kat L j < kat L (j + 1)) ∧ Hid (Below w.heap.size w wx)) (fun y _=>(m - intOf y).toNat)
  case atStart=>exact ⟨0,rfl,by omega,hidIt (fun j hj=>by omega),hidIt (fun j hj=>by omega),hidIt (Below.refl _ _)⟩
  case round =>
   obtain ⟨i,rfl,hi,HO,HK,HB⟩:=hrel
   by_cases hin : i < m
   ·
    have hin' : (i : Int) < (m : Int):=by omega
    have HRx:=hidIt (HR.out.kept HB.out)
    obtain ⟨b,off,ea,c0,c1,c2,c3,c4⟩:=HRx.out.all (i:=i) (by rw [HN.out]; exact hin)
    subst ea
    have CE:=hidIt (fun W=>spec_EntryOk (rat L i) W (HS.out i hin).1 (HS.out i hin).2)
    obtain ⟨ok,hok⟩ : ∃ ok,okE (toE (rat L i)) = ok:=⟨_,rfl⟩
    rw [hok] at CE
    have hkey : Hid (kat L i = bs (rat L i).1):=hidIt rfl
    have HOK:=hidIt hok
    clear hok
    generalize rat L i = x at c0 c1 c2 c3 c4 CE hkey
    obtain ⟨xk,xv,xt,xn,xg⟩:=x
    simp only [rv] at CE c0 c1 c2 c3 c4
    haveI:=BelowBy.one wr
    have g0:=fun p : BelowBy wr=>p.cell c0
    have g1:=fun p : BelowBy wr=>p.cell c1
    have g2:=fun p : BelowBy wr=>p.cell c2
    have g3:=fun p : BelowBy wr=>p.cell c3
    have g4:=fun p : BelowBy wr=>p.cell c4
    cases ok with
    | false =>
     have er:=N2.out i hin HOK.out
     subst er
     clear c0 c1 c2 c3 c4
     go_wp2_with (fail)
     refine wp_region_below (by kernel_rfl) (by kernel_rfl) ?_
     repeat (go_big_quiet_step (first | (go_at_call 67; refine calls_below (CE.out _))))
     refine wpQuiet_nil ?_
     intro _ hw'
     obtain ⟨pq,rfl⟩:=hw'
     have HB1:=hidIt (HB.out.trans (pq.h.mono HB.out.size))
     generalize pq.world = w2 at HB1 ⊢
     clear g0 g1 g2 g3 g4
     go_wp2_with (fail)
     go_ret
     exact ⟨rfl,HB1.out⟩
    | true =>
     have HO' : Hid (∀ j,j < i + 1 → okE (toE (rat L j)) = true):=hidIt (fun j hj=>by
      rcases Nat.lt_succ_iff_lt_or_eq.1 hj with h | h
      ·
       exact HO.out j h
      ·
       subst h; exact HOK.out)
     rcases Nat.eq_zero_or_pos i with hz | hp
     ·
      subst hz
      simp only [Nat.zero_mul,Nat.add_zero] at g0 g1 g2 g3 g4
      clear c0 c1 c2 c3 c4
      go_wp2_with (fail)
      refine wp_region_below (by kernel_rfl) (by kernel_rfl) ?_
      repeat (go_big_quiet_step (first | (go_at_call 67; refine calls_below (CE.out _))))
      refine wpQuiet_nil ?_
      intro _ hw'
      obtain ⟨pq,rfl⟩:=hw'
      have HB1:=hidIt (HB.out.trans (pq.h.mono HB.out.size))
      generalize pq.world = w2 at HB1 ⊢
      clear g0 g1 g2 g3 g4
      go_wp2_with (fail)
      exact ⟨⟨1,by simp,by omega,HO',hidIt (fun j hj=>by omega),HB1⟩,by simp [intOf]; omega⟩
     ·
      obtain ⟨j,rfl⟩ : ∃ j,i = j + 1:=⟨i - 1,by omega⟩
      obtain ⟨b',off',ea,p0,_⟩:=HRx.out.all (i:=j) (by rw [HN.out]; omega)
      cases ea
      have hkj : Hid (kat L j = bs (rat L j).1):=hidIt rfl
      generalize (rat L j).1 = pk at p0 hkj
      have k0:=fun p : BelowBy wr=>p.cell p0
      have hless:=less_of pk xk
      have hpos : (0 : Int) < ((j : Int) + 1):=by omega
      clear c0 c1 c2 c3 c4 p0
      by_cases hlt : bs pk < bs xk
      ·
       rw [decide_eq_true hlt] at hless
       have HK' : Hid (∀ q,q + 1 < j + 1 + 1 → kat L q < kat L (q + 1)):=hidIt (fun q hq=>by
        rcases Nat.lt_succ_iff_lt_or_eq.1 (show q + 1 < j + 1 + 1 from hq) with h | h
        ·
         exact HK.out q h
        ·
         have : q = j:=by omega
         subst this
         rw [hkj.out,hkey.out]
         exact hlt)
       clear hlt
       go_wp2_with (fail)
       refine wp_region_below (by kernel_rfl) (by kernel_rfl) ?_
       repeat (go_big_quiet_step (first | (go_at_call 67; refine calls_below (CE.out _))))
       refine wpQuiet_nil ?_
       intro _ hw'
       obtain ⟨pq,rfl⟩:=hw'
       have HB1:=hidIt (HB.out.trans (pq.h.mono HB.out.size))
       generalize pq.world = w2 at HB1 ⊢
       clear g0 g1 g2 g3 g4 k0
       go_wp2_with (fail)
       exact ⟨⟨j + 1 + 1,by simp,by omega,HO',HK',HB1⟩,by simp [intOf]; omega⟩
      ·
       have er:=N3.out j (by omega) (by rw [hkj.out,hkey.out]; exact hlt)
       rw [decide_eq_false hlt] at hless
       subst er
       clear hlt
       go_wp2_with (fail)
       refine wp_region_below (by kernel_rfl) (by kernel_rfl) ?_
       repeat (go_big_quiet_step (first | (go_at_call 67; refine calls_below (CE.out _))))
       refine wpQuiet_nil ?_
       intro _ hw'
       obtain ⟨pq,rfl⟩:=hw'
       have HB1:=hidIt (HB.out.trans (pq.h.mono HB.out.size))
       generalize pq.world = w2 at HB1 ⊢
       clear g0 g1 g2 g3 g4 k0
       go_wp2_with (fail)
       go_ret
       exact ⟨rfl,HB1.out⟩
   ·
    have hin' : ¬ (i : Int) < (m : Int):=by omega
    have HI : Hid (i = m):=hidIt (by omega)
    have er:=N4.out h80 (fun j hj=>HO.out j (by have:=HI.out; omega)) (fun j hj=>HK.out j (by have:=HI.out; omega))
    subst er
    go_wp2_with (fail)
    go_ret
    exact ⟨rfl,HB.out⟩
 ·
  have h80' : (80 : Int) < (m : Int):=by omega
  have er:=N1.out h80
  subst er
  go_enter Tryz.func38,Tryz.ntmps38
  go_wp2
  go_ret
  exact ⟨rfl,Below.refl _ _⟩
end Go.Proofs.YtgbnkkjjgodilaaGreatDoor.En
