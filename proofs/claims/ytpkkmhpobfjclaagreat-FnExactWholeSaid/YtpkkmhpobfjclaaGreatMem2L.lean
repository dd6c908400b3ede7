/- What the laws do with one Member and with a list of them: the measure, the copy, whether two are alike. (Written by wip/mkrow.py.) -/
import Derived.Test.YtpkkmhpobfjclaaGreatMem2M
import Derived.Test.YtpkkmhpobfjclaaGreatQuiet
import Derived.Handy
set_option maxRecDepth 100000
set_option maxHeartbeats 32000000
set_option linter.unusedVariables false
namespace Go.Proofs.YtpkkmhpobfjclaaGreat.Mm
open Go.ChangeShapes Go.WideShapes Go.ChangeAt Go.RowKit
open Rc (BelowBy BelowBy.one wp_region_below calls_below calls_same)
structure Le2 (r l : Int) (m : Nat) : Prop where
 le : r ≤ l
 sum : 0 ≤ r → r + (m : Int) ≤ l
theorem to_any (x : Rw) (w : World) : Calls Tryz.prog 51 #[rv x] w fun e w'=>e = .returned (rv x) ∧ Below w.heap.size w w':=by
 obtain ⟨x0,x1,x2⟩:=x
 go_enter Tryz.func51,Tryz.ntmps51
 go_wp2
 refine bodyPost_ret (v:=rv (x0,x1,x2)) (by simp [results,Tryz.results51,go_sem]) rfl ⟨rfl,?_⟩
 go_grown
theorem eq_same (x : Rw) (w : World) : Calls Tryz.prog 42 #[rv x,rv x] w fun e w'=>e = .returned (.bool true) ∧ Below w.heap.size w w':=by
 obtain ⟨x0,x1,x2⟩:=x
 go_enter Tryz.func42,Tryz.ntmps42
 go_wp2
 go_ret
 exact ⟨rfl,by go_grown⟩
theorem szS_any (a : Option Addr) (cap : Nat) (L : List Rw) (l : Int) (w : World) (h : Rd w a L) (hl : L.length ≤ 9223372036854775807) (h0 : 0 ≤ l) (h1 : l ≤ 1048576) :
  Calls Tryz.prog 27 #[.slice a L.length cap,.int .i64 l] w fun e w'=>∃ r : Int,e = .returned (.int .i64 r) ∧ Le2 r l L.length ∧ (0 ≤ r → L.length ≤ 1048576) ∧ Below w.heap.size w w':=by
 generalize hn : L.length = m at *
 clear h hn
 have h2 : -9223372036854775808 ≤ l - (m : Int):=by omega
 have h3 : l - (m : Int) ≤ 9223372036854775807:=by omega
 by_cases hlt : l - (m : Int) < 0
 ·
  go_enter Tryz.func27,Tryz.ntmps27
  go_wp2
  go_ret
  first | exact ⟨-1,rfl,⟨by omega,fun h=>by omega⟩,fun h=>by omega,Below.refl _ _⟩ | exact ⟨⟨by omega,fun h=>by omega⟩,Below.refl _ _⟩
 ·
  go_enter Tryz.func27,Tryz.ntmps27
  go_wp2
  go_ret
  first | exact ⟨_,rfl,⟨by omega,fun h=>by omega⟩,fun h=>by omega,Below.refl _ _⟩ | exact ⟨⟨by omega,fun h=>by omega⟩,fun h=>by omega,Below.refl _ _⟩
theorem rcells_zero (m : Nat) : rcells (List.replicate m (0,0,0)) = (madeCells #[.int .i64 0,.int .i64 0,.int .i64 0] (m * 3)).toList:=by
 apply List.ext_getElem?
 intro x
 by_cases hx : x < m * 3
 ·
  have e : x = x / 3 * 3 + x % 3:=by omega
  have h1:=rcells_get (List.replicate m (0,0,0)) (x / 3) (x % 3) (by rw [List.length_replicate]; omega) (by omega)
  rw [← e] at h1
  have h2 : rat (List.replicate m (0,0,0)) (x / 3) = (0,0,0):=by
   rw [rat_at (by rw [List.length_replicate]; omega),List.getElem_replicate]
  rw [h1,h2]
  have h3 : x % 3 = 0 ∨ x % 3 = 1 ∨ x % 3 = 2:=by omega
  rcases h3 with h | h | h <;> simp [madeCells,hx,h,rcell]
 ·
  rw [List.getElem?_eq_none (by rw [rcells_length,List.length_replicate]; omega),List.getElem?_eq_none (by simp [madeCells]; omega)]
theorem toS_any (a : Option Addr) (cap : Nat) (L : List Rw) (w : World) (h : Rd w a L) (hl : L.length ≤ 1048576) :
  Calls Tryz.prog 33 #[.slice a L.length cap] w fun e w'=>∃ v,e = .returned v ∧ Own w' w.heap.size v L ∧ Below w.heap.size w w':=by
 generalize hn : L.length = m at *
 obtain ⟨i0,hi,hz0,hz1,hz2⟩:=info_parts infoRw
 have HR:=hidIt h
 have HN:=hidIt hn
 clear h hn
 go_enter Tryz.func33,Tryz.ntmps33
 go_wp2_with (first
  | (at_make; refine wpList_make_full _ rfl _ _ 25 rfl w.heap.size 81 i0 (.agg #[.int .i64 0,.int .i64 0,.int .i64 0]) 3 Tryz.underlying25 hi hz0 hz1 _ _ _ _ m rfl rfl (by omega) (by omega) (by rw [hz2]; omega) (by unfold maxLen; omega) (Nat.le_refl _) ?_)
  | fail)
 intro w1 hown hgrow
 have HO : Hid (Own w1 w.heap.size (.slice (some ⟨w.heap.size,0,none⟩) m m) (List.replicate m (0,0,0))):=by
  refine hidIt ?_
  unfold Own
  rw [List.length_replicate,rcells_zero]
  exact hown
 have HB:=hidIt ((Below.refl w.heap.size w).grown hgrow (Nat.le_refl _) (fun k hk=>by cases hk))
 clear hown hgrow
 go_wp2_with (fail)
 go_loopw [4] (fun y wx=>∃ (i : Nat) (M : List Rw),y = .int .i64 i ∧ i ≤ m ∧ M.length = m ∧ Hid (∀ j,j < i → rat M j = rat L j) ∧ Hid (Own wx w.heap.size (.slice (some ⟨w.heap.size,0,none⟩) m m) M) ∧ Hid (Below w.heap.size w wx)) (fun y _=>(m - intOf y).toNat)
 case atStart=>exact ⟨0,_,rfl,by omega,by simp,hidIt (fun j hj=>by omega),HO,HB⟩
 case round =>
  obtain ⟨i,M,rfl,hin0,hM,hE,HOx,HBx⟩:=hrel
  have HRx:=hidIt (HR.out.kept HBx.out)
  have HM:=hidIt hM
  clear HO HB hM
  by_cases hin : i < m
  ·
   have hin' : (i : Int) < (m : Int):=by omega
   obtain ⟨b,off,rfl,c0,c1,c2⟩:=HRx.out.all (i:=i) (by rw [HN.out]; exact hin)
   generalize hx : rat L i = x at c0 c1 c2
   have HX:=hidIt hx
   clear hx
   obtain ⟨x0,x1,x2⟩:=x
   simp only at c0 c1 c2
   have hC:=to_any (x0,x1,x2)
   simp only [rv] at hC
   have HC:=hidIt hC
   clear hC
   go_wp2_with (fail)
   refine (HC.out _).mono ?_
   rintro e w2 ⟨rfl,hb2⟩
   have HB2:=hidIt (HBx.out.trans (hb2.mono HBx.out.size))
   have HO2:=hidIt (HOx.out.kept hb2)
   have hiM : i < M.length:=by rw [HM.out]; exact hin
   have HO3:=hidIt (HO2.out.whole hiM (x0,x1,x2))
   have z0:=HO2.out.at hiM (j:=0) (by omega)
   have z1:=HO2.out.at hiM (j:=1) (by omega)
   have z2:=HO2.out.at hiM (j:=2) (by omega)
   have f0:=HO2.out.free (i * 3)
   have f1:=HO2.out.free (i * 3 + 1)
   have f2:=HO2.out.free (i * 3 + 2)
   simp only [rcell,Nat.add_zero] at z0 z1 z2
   clear hb2 HRx HBx HOx HO2 HC
   have HMi:=hidIt hiM
   clear hiM
   go_wp2_with (fail)
   refine ⟨⟨i + 1,_,by simp,by omega,by rw [List.length_set]; exact HM.out,hidIt (fun j hj=>?_),HO3,hidIt (((HB2.out.setCell (by simp) _).setCell (by simp) _).setCell (by simp) _)⟩,by simp [intOf]; omega⟩
   rw [rat_set HMi.out]
   split
   ·
    next e=>subst e; exact HX.out.symm
   ·
    exact hE.out j (by omega)
  ·
   have hin' : ¬ (i : Int) < (m : Int):=by omega
   have e : M = L:=ext_rat (by rw [HM.out,HN.out]) (fun j hj=>hE.out j (by rw [HM.out] at hj; omega))
   subst e
   go_wp2_with (fail)
   go_ret
   exact ⟨_,rfl,HOx.out,HBx.out⟩
theorem eqS_same (a a' : Option Addr) (cap cap' : Nat) (L : List Rw) (w : World) (h : Rd w a L) (h' : Rd w a' L) (hl : L.length ≤ 9223372036854775807) :
  Calls Tryz.prog 21 #[.slice a L.length cap,.slice a' L.length cap'] w fun e w'=>e = .returned (.bool true) ∧ Below w.heap.size w w':=by
 generalize hn : L.length = m at *
 have HA:=hidIt h
 have HA':=hidIt h'
 have HN:=hidIt hn
 clear h h' hn
 have hmm : ((m : Int) != (m : Int)) = false:=by simp
 go_enter Tryz.func21,Tryz.ntmps21
 go_wp2_with (fail)
 go_loopw [5] (fun y wx=>∃ i : Nat,y = .int .i64 i ∧ i ≤ m ∧ Hid (Below w.heap.size w wx)) (fun y _=>(m - intOf y).toNat)
 case atStart=>exact ⟨0,rfl,by omega,hidIt (Below.refl _ _)⟩
 case round =>
  obtain ⟨i,rfl,hi,hB⟩:=hrel
  by_cases hin : i < m
  ·
   have hin' : (i : Int) < (m : Int):=by omega
   obtain ⟨b,off,rfl,c0,c1,c2⟩:=(HA.out.kept hB.out).all (i:=i) (by rw [HN.out]; exact hin)
   obtain ⟨b',off',rfl,d0,d1,d2⟩:=(HA'.out.kept hB.out).all (i:=i) (by rw [HN.out]; exact hin)
   have hC:=eq_same (rat L i)
   generalize rat L i = x at c0 c1 c2 d0 d1 d2 hC
   obtain ⟨x0,x1,x2⟩:=x
   simp only [rv] at hC c0 c1 c2 d0 d1 d2
   have HC:=hidIt hC
   clear hC
   haveI:=BelowBy.one wr
   have g0:=fun p : BelowBy wr=>p.cell c0
   have g1:=fun p : BelowBy wr=>p.cell c1
   have g2:=fun p : BelowBy wr=>p.cell c2
   have k0:=fun p : BelowBy wr=>p.cell d0
   have k1:=fun p : BelowBy wr=>p.cell d1
   have k2:=fun p : BelowBy wr=>p.cell d2
   go_wp2_with (fail)
   refine wp_region_below (by kernel_rfl) (by kernel_rfl) ?_
   repeat (go_big_quiet_step (first | (go_at_call 42; refine calls_below (HC.out _))))
   refine wpQuiet_nil ?_
   intro _ hw'
   obtain ⟨pq,rfl⟩:=hw'
   have hB1:=hidIt (hB.out.trans (pq.h.mono hB.out.size))
   generalize pq.world = w2 at hB1 ⊢
   clear c0 c1 c2 d0 d1 d2 g0 g1 g2 k0 k1 k2
   go_wp2_with (fail)
   exact ⟨⟨i + 1,by simp,by omega,hB1⟩,by simp [intOf]; omega⟩
  ·
   have hin' : ¬ (i : Int) < (m : Int):=by omega
   go_wp2_with (fail)
   go_ret
   exact ⟨rfl,hB.out⟩
end Go.Proofs.YtpkkmhpobfjclaaGreat.Mm
