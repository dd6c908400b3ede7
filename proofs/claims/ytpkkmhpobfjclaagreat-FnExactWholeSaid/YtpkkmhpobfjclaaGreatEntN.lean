/- Marks written into a list of Entrys of the call's own, and looked for again. (Written by wip/mkrow.py.) -/
import Derived.Test.YtpkkmhpobfjclaaGreatEntL
import Derived.Test.YtpkkmhpobfjclaaGreatNameQ
set_option maxRecDepth 100000
set_option maxHeartbeats 32000000
set_option linter.unusedVariables false
namespace Go.Proofs.YtpkkmhpobfjclaaGreat.En
open Go.ChangeShapes Go.WideShapes Go.ChangeAt Go.RowKit
open Nm (mt)
open Rc (BelowBy BelowBy.one BelowBy.cell wp_region_below calls_below calls_same)
set_option linter.unusedSimpArgs false
def markX (k m : Nat) : List Rw:=(List.range m).map fun j=>(mt (k + 5 * j),mt (k + 5 * j + 1),((k + 5 * j + 2 : Nat) : Int),((k + 5 * j + 3 : Nat) : Int),decide ((k + 5 * j + 4) % 3 = 0))
theorem markX_length (k m : Nat) : (markX k m).length = m:=by simp [markX]
theorem rat_markX (k m j : Nat) (h : j < m) : rat (markX k m) j = (mt (k + 5 * j),mt (k + 5 * j + 1),((k + 5 * j + 2 : Nat) : Int),((k + 5 * j + 3 : Nat) : Int),decide ((k + 5 * j + 4) % 3 = 0)):=by
 unfold markX
 rw [rat_map _ _ _ h]
theorem set_self {L : List Rw} {i : Nat} : L.set i (rat L i) = L:=by
 by_cases h : i < L.length
 ·
  apply ext_rat (by rw [List.length_set])
  intro t ht
  rw [rat_set h]
  split
  ·
   next e=>rw [e]
  ·
   rfl
 ·
  rw [List.set_eq_of_length_le (by omega)]
theorem Own.put0 {w : World} {base g m cap i : Nat} {L : List Rw} {y0 y1 y2 y3 y4} (h : Own w base (.slice (some ⟨g,0,none⟩) m cap) (L.set i (y0,y1,y2,y3,y4))) (hi : i < L.length) (v : ByteArray) : Own (w.setCell ⟨g,i * 5,none⟩ (.string v)) base (.slice (some ⟨g,0,none⟩) m cap) (L.set i (v,y1,y2,y3,y4)):=by
 have h1:=h.set (i:=i) (j:=0) (v:=.string v) (y:=(v,y1,y2,y3,y4)) (by rw [List.length_set]; exact hi) (by omega) (fun k hk=>by
  rw [rat_set hi,if_pos rfl]
  match k,hk with
  | 0,_=>rfl
  | 1,_=>rfl
  | 2,_=>rfl
  | 3,_=>rfl
  | 4,_=>rfl)
 rw [List.set_set] at h1
 exact h1
theorem Own.put1 {w : World} {base g m cap i : Nat} {L : List Rw} {y0 y1 y2 y3 y4} (h : Own w base (.slice (some ⟨g,0,none⟩) m cap) (L.set i (y0,y1,y2,y3,y4))) (hi : i < L.length) (v : ByteArray) : Own (w.setCell ⟨g,i * 5 + 1,none⟩ (.string v)) base (.slice (some ⟨g,0,none⟩) m cap) (L.set i (y0,v,y2,y3,y4)):=by
 have h1:=h.set (i:=i) (j:=1) (v:=.string v) (y:=(y0,v,y2,y3,y4)) (by rw [List.length_set]; exact hi) (by omega) (fun k hk=>by
  rw [rat_set hi,if_pos rfl]
  match k,hk with
  | 0,_=>rfl
  | 1,_=>rfl
  | 2,_=>rfl
  | 3,_=>rfl
  | 4,_=>rfl)
 rw [List.set_set] at h1
 exact h1
theorem Own.put2 {w : World} {base g m cap i : Nat} {L : List Rw} {y0 y1 y2 y3 y4} (h : Own w base (.slice (some ⟨g,0,none⟩) m cap) (L.set i (y0,y1,y2,y3,y4))) (hi : i < L.length) (v : Int) : Own (w.setCell ⟨g,i * 5 + 2,none⟩ (.int .i64 v)) base (.slice (some ⟨g,0,none⟩) m cap) (L.set i (y0,y1,v,y3,y4)):=by
 have h1:=h.set (i:=i) (j:=2) (v:=.int .i64 v) (y:=(y0,y1,v,y3,y4)) (by rw [List.length_set]; exact hi) (by omega) (fun k hk=>by
  rw [rat_set hi,if_pos rfl]
  match k,hk with
  | 0,_=>rfl
  | 1,_=>rfl
  | 2,_=>rfl
  | 3,_=>rfl
  | 4,_=>rfl)
 rw [List.set_set] at h1
 exact h1
theorem Own.put3 {w : World} {base g m cap i : Nat} {L : List Rw} {y0 y1 y2 y3 y4} (h : Own w base (.slice (some ⟨g,0,none⟩) m cap) (L.set i (y0,y1,y2,y3,y4))) (hi : i < L.length) (v : Int) : Own (w.setCell ⟨g,i * 5 + 3,none⟩ (.int .i64 v)) base (.slice (some ⟨g,0,none⟩) m cap) (L.set i (y0,y1,y2,v,y4)):=by
 have h1:=h.set (i:=i) (j:=3) (v:=.int .i64 v) (y:=(y0,y1,y2,v,y4)) (by rw [List.length_set]; exact hi) (by omega) (fun k hk=>by
  rw [rat_set hi,if_pos rfl]
  match k,hk with
  | 0,_=>rfl
  | 1,_=>rfl
  | 2,_=>rfl
  | 3,_=>rfl
  | 4,_=>rfl)
 rw [List.set_set] at h1
 exact h1
theorem Own.put4 {w : World} {base g m cap i : Nat} {L : List Rw} {y0 y1 y2 y3 y4} (h : Own w base (.slice (some ⟨g,0,none⟩) m cap) (L.set i (y0,y1,y2,y3,y4))) (hi : i < L.length) (v : Bool) : Own (w.setCell ⟨g,i * 5 + 4,none⟩ (.bool v)) base (.slice (some ⟨g,0,none⟩) m cap) (L.set i (y0,y1,y2,y3,v)):=by
 have h1:=h.set (i:=i) (j:=4) (v:=.bool v) (y:=(y0,y1,y2,y3,v)) (by rw [List.length_set]; exact hi) (by omega) (fun k hk=>by
  rw [rat_set hi,if_pos rfl]
  match k,hk with
  | 0,_=>rfl
  | 1,_=>rfl
  | 2,_=>rfl
  | 3,_=>rfl
  | 4,_=>rfl)
 rw [List.set_set] at h1
 exact h1
theorem markS_any (base : Nat) (v : Value) (L : List Rw) (k : Nat) (w : World) (h : Own w base v L) (h1 : 1 ≤ k) (h2 : k + 5 * L.length ≤ 1099511627776) :
  Calls Tryz.prog 22 #[v,.int .i64 k] w fun e w'=>e = .returned (.int .i64 ((k + 5 * L.length : Nat) : Int)) ∧ Own w' base v (markX k L.length) ∧ Only (ob w v) w w':=by
 obtain ⟨a,cap,rfl,hcap,hcm,hR,hna,hsome⟩:=h.form
 cases a with
 | none =>
  have e:=hR.none_nil
  subst e
  have e:=hna rfl
  subst e
  clear hsome hna
  go_enter Tryz.func22,Tryz.ntmps22
  go_wp2_with (fail)
  refine wp_loop_rounds 1 ?_
  rw [rounds_succ]
  go_wp2_with (fail)
  go_ret
  exact ⟨by simp,h,Only.refl _ _⟩
 | some x =>
  obtain ⟨g,rfl,hbg,hgl⟩:=hsome x rfl
  have eo : ob w (.slice (some ⟨g,0,none⟩) L.length cap) = g:=rfl
  rw [eo]
  have HO:=hidIt h
  generalize hn : L.length = m at *
  have HN:=hidIt hn
  clear h hR hna hsome hn eo hcm
  go_enter Tryz.func22,Tryz.ntmps22
  go_wp2_with (fail)
  go_loopw [1,5] (fun z y wx=>∃ (i : Nat) (M : List Rw),y = .int .i64 i ∧ z = .int .i64 ((k + 5 * i : Nat) : Int) ∧ i ≤ m ∧ M.length = m ∧ Hid (∀ j,j < i → rat M j = (mt (k + 5 * j),mt (k + 5 * j + 1),((k + 5 * j + 2 : Nat) : Int),((k + 5 * j + 3 : Nat) : Int),decide ((k + 5 * j + 4) % 3 = 0))) ∧ Hid (Own wx base (.slice (some ⟨g,0,none⟩) m cap) M) ∧ Hid (Only g w wx)) (fun _ y _=>(m - intOf y).toNat)
  case atStart=>exact ⟨0,L,rfl,rfl,by omega,HN.out,hidIt (fun j hj=>by omega),HO,hidIt (Only.refl _ _)⟩
  case round =>
   obtain ⟨i,M,rfl,rfl,hi,hM,hE,HOx,HY⟩:=hrel
   have HM:=hidIt hM
   clear hM HO
   by_cases hin : i < m
   ·
    have hin' : (i : Int) < (m : Int):=by omega
    have HMi : Hid (i < M.length):=hidIt (by rw [HM.out]; exact hin)
    generalize hk : k + 5 * i = q
    have HK:=hidIt hk
    clear hk
    have q1 : q + 5 ≤ 1099511627776:=by have:=HK.out; omega
    have CM0:=hidIt (fun w=>Nm.markText_any q w (by have:=HK.out; omega) (by omega))
    have CM1:=hidIt (fun w=>show Calls Tryz.prog 43 #[.int .i64 ((q : Int) + 1)] w fun e w'=>e = .returned (.string (mt (q + 1))) ∧ Below w.heap.size w w' by
     rw [show (q : Int) + 1 = ((q + 1 : Nat) : Int) by omega]; exact Nm.markText_any (q + 1) w (by have:=HK.out; omega) (by omega))
    obtain ⟨X4,hX4⟩ : ∃ X : Nat,X = (q + 4) % 3:=⟨_,rfl⟩
    have et4 : ((q : Int) + 1 + 1 + 1 + 1).tmod 3 = (X4 : Int):=by rw [Int.tmod_eq_emod_of_nonneg (by omega),hX4]; omega
    have em4 : ((q : Int) + 1 + 1 + 1 + 1) % 3 = (X4 : Int):=by rw [hX4]; omega
    obtain ⟨bm4,hbm4⟩ : ∃ bm,((X4 : Int) == 0) = bm:=⟨_,rfl⟩
    have hbw4 : decide ((q + 4) % 3 = 0) = bm4:=by rw [← hbm4,← hX4,Bool.eq_iff_iff]; simp
    have HEY : Hid ((mt q,mt (q + 1),(q : Int) + 1 + 1,(q : Int) + 1 + 1 + 1,bm4) = (mt (q),mt (q + 1),((q + 2 : Nat) : Int),((q + 3 : Nat) : Int),decide ((q + 4) % 3 = 0))):=hidIt (by rw [show (q : Int) + 1 + 1 + 1 = ((q + 3 : Nat) : Int) by omega,show (q : Int) + 1 + 1 = ((q + 2 : Nat) : Int) by omega,← hbw4])
    generalize hmt0 : mt q = tx0 at CM0
    have HT0:=hidIt hmt0
    clear hmt0
    generalize hmt1 : mt (q + 1) = tx1 at CM1
    have HT1:=hidIt hmt1
    clear hmt1
    have HZ4:=hidIt hX4
    have HW4:=hidIt hbw4
    clear hX4 hbw4
    have HO : Hid (Own wr base (.slice (some ⟨g,0,none⟩) m cap) (M.set i (rat M i))):=hidIt (by rw [set_self]; exact HOx.out)
    clear HOx
    generalize rat M i = r at HO
    obtain ⟨r0,r1,r2,r3,r4⟩:=r
    go_wp2_with (fail)
    refine (CM0.out _).mono ?_
    rintro e w1 ⟨rfl,hb⟩
    replace HO:=hidIt (HO.out.kept hb)
    replace HY:=hidIt (HY.out.trans (Only.of_below hb))
    clear hb
    have z0:=HO.out.at (i:=i) (by rw [List.length_set]; exact HMi.out) (j:=0) (by omega)
    have f0:=HO.out.free (i * 5)
    simp only [rcell,Nat.add_zero] at z0
    replace HO:=hidIt (HO.out.put0 HMi.out (tx0))
    replace HY:=hidIt (HY.out.setCell (i * 5) (.string (tx0)))
    go_wp2_with (fail)
    refine (CM1.out _).mono ?_
    rintro e w2 ⟨rfl,hb⟩
    replace HO:=hidIt (HO.out.kept hb)
    replace HY:=hidIt (HY.out.trans (Only.of_below hb))
    clear hb
    have z1:=HO.out.at (i:=i) (by rw [List.length_set]; exact HMi.out) (j:=1) (by omega)
    have f1:=HO.out.free (i * 5 + 1)
    have z2:=HO.out.at (i:=i) (by rw [List.length_set]; exact HMi.out) (j:=2) (by omega)
    have f2:=HO.out.free (i * 5 + 2)
    have z3:=HO.out.at (i:=i) (by rw [List.length_set]; exact HMi.out) (j:=3) (by omega)
    have f3:=HO.out.free (i * 5 + 3)
    have z4:=HO.out.at (i:=i) (by rw [List.length_set]; exact HMi.out) (j:=4) (by omega)
    have f4:=HO.out.free (i * 5 + 4)
    simp only [rcell,Nat.add_zero] at z1 z2 z3 z4
    replace HO:=hidIt ((((HO.out.put1 HMi.out (tx1)).put2 HMi.out ((q : Int) + 1 + 1)).put3 HMi.out ((q : Int) + 1 + 1 + 1)).put4 HMi.out (bm4))
    replace HY:=hidIt ((((HY.out.setCell (i * 5 + 1) (.string (tx1))).setCell (i * 5 + 2) (.int .i64 ((q : Int) + 1 + 1))).setCell (i * 5 + 3) (.int .i64 ((q : Int) + 1 + 1 + 1))).setCell (i * 5 + 4) (.bool (bm4)))
    go_wp2_with (fail)
    refine ⟨⟨i + 1,_,by simp,?_,by omega,by rw [List.length_set]; exact HM.out,hidIt (fun j hj=>?_),HO,HY⟩,by simp [intOf]; omega⟩
    ·
     have:=HK.out
     congr 1
     omega
    ·
     rw [rat_set HMi.out]
     split
     ·
      next e =>
      subst e
      rw [HK.out,← HEY.out,HT0.out,HT1.out]
     ·
      exact hE.out j (by omega)
   ·
    have hin' : ¬ (i : Int) < (m : Int):=by omega
    have HI : Hid (i = m):=hidIt (by omega)
    have e : M = markX k m:=ext_rat (by rw [HM.out,markX_length]) (fun j hj=>by rw [HM.out] at hj; rw [hE.out j (by have:=HI.out; omega),rat_markX _ _ _ hj])
    subst e
    have ei : i = m:=HI.out
    subst ei
    generalize hk : k + 5 * i = q
    go_wp2_with (fail)
    go_ret
    exact ⟨rfl,HOx.out,HY.out⟩
theorem heldS_any (a : Option Addr) (cap m k : Nat) (w : World) (h : Rd w a (markX k m)) (h1 : 1 ≤ k) (h2 : k + 5 * m ≤ 1099511627776) :
  Calls Tryz.prog 24 #[.slice a m cap,.int .i64 k] w fun e w'=>e = .returned (.int .i64 ((k + 5 * m : Nat) : Int)) ∧ Below w.heap.size w w':=by
 have HR:=hidIt h
 clear h
 go_enter Tryz.func24,Tryz.ntmps24
 go_wp2_with (fail)
 go_loopw [1,5] (fun z y wx=>∃ i : Nat,y = .int .i64 i ∧ z = .int .i64 ((k + 5 * i : Nat) : Int) ∧ i ≤ m ∧ Hid (Below w.heap.size w wx)) (fun _ y _=>(m - intOf y).toNat)
 case atStart=>exact ⟨0,rfl,rfl,by omega,hidIt (Below.refl _ _)⟩
 case round =>
  obtain ⟨i,rfl,rfl,hi,HB⟩:=hrel
  by_cases hin : i < m
  ·
   have hin' : (i : Int) < (m : Int):=by omega
   obtain ⟨b,off,rfl,c0,c1,c2,c3,c4⟩:=(HR.out.kept HB.out).all (i:=i) (by rw [markX_length]; exact hin)
   rw [rat_markX _ _ _ hin] at c0 c1 c2 c3 c4
   simp only at c0 c1 c2 c3 c4
   have q3 : Hid (k + 5 * (i + 1) = k + 5 * i + 5):=hidIt (by omega)
   have q1 : k + 5 * i + 5 ≤ 1099511627776:=by omega
   have HK : Hid (1 ≤ k + 5 * i):=hidIt (by omega)
   generalize k + 5 * i = q at c0 c1 c2 c3 c4 q1 q3 HK
   have CM0:=hidIt (fun w=>Nm.markText_any q w (by have:=HK.out; omega) (by omega))
   have CM1:=hidIt (fun w=>show Calls Tryz.prog 43 #[.int .i64 ((q : Int) + 1)] w fun e w'=>e = .returned (.string (mt (q + 1))) ∧ Below w.heap.size w w' by
    rw [show (q : Int) + 1 = ((q + 1 : Nat) : Int) by omega]; exact Nm.markText_any (q + 1) w (by have:=HK.out; omega) (by omega))
   obtain ⟨X4,hX4⟩ : ∃ X : Nat,X = (q + 4) % 3:=⟨_,rfl⟩
   have et4 : ((q : Int) + 1 + 1 + 1 + 1).tmod 3 = (X4 : Int):=by rw [Int.tmod_eq_emod_of_nonneg (by omega),hX4]; omega
   have em4 : ((q : Int) + 1 + 1 + 1 + 1) % 3 = (X4 : Int):=by rw [hX4]; omega
   obtain ⟨bm4,hbm4⟩ : ∃ bm,((X4 : Int) == 0) = bm:=⟨_,rfl⟩
   have hbw4 : decide ((q + 4) % 3 = 0) = bm4:=by rw [← hbm4,← hX4,Bool.eq_iff_iff]; simp
   rw [show ((q + 2 : Nat) : Int) = (q : Int) + 1 + 1 by omega] at c2
   rw [show ((q + 3 : Nat) : Int) = (q : Int) + 1 + 1 + 1 by omega] at c3
   rw [hbw4] at c4
   generalize mt q = tx0 at CM0 c0
   generalize mt (q + 1) = tx1 at CM1 c1
   have hne2 : ((q : Int) + 1 + 1 != (q : Int) + 1 + 1) = false:=by simp
   have hne3 : ((q : Int) + 1 + 1 + 1 != (q : Int) + 1 + 1 + 1) = false:=by simp
   have hne4 : (bm4 == bm4) = true:=by cases bm4 <;> rfl
   clear hX4 hbw4
   clear HR
   go_wp2_with (fail)
   haveI:=BelowBy.one wr
   have g0:=fun p : BelowBy wr=>p.cell c0
   refine wp_region_below (by kernel_rfl) (by kernel_rfl) ?_
   repeat (go_big_quiet_step (first | (go_at_call 43; refine calls_below (CM0.out _))))
   refine wpQuiet_nil ?_
   intro _ hw'
   obtain ⟨pq,rfl⟩:=hw'
   have k0:=pq.h
   generalize pq.world = w1 at k0 ⊢
   have HB1:=hidIt (HB.out.trans (k0.mono HB.out.size))
   replace c1 : w1.cell? _ = _:=(k0.cell (by simpa using cell_block c1)).trans c1
   replace c2 : w1.cell? _ = _:=(k0.cell (by simpa using cell_block c2)).trans c2
   replace c3 : w1.cell? _ = _:=(k0.cell (by simpa using cell_block c3)).trans c3
   replace c4 : w1.cell? _ = _:=(k0.cell (by simpa using cell_block c4)).trans c4
   clear k0 g0 c0
   go_wp2_with (fail)
   haveI:=BelowBy.one w1
   have g1:=fun p : BelowBy w1=>p.cell c1
   refine wp_region_below (by kernel_rfl) (by kernel_rfl) ?_
   repeat (go_big_quiet_step (first | (go_at_call 43; refine calls_below (CM1.out _))))
   refine wpQuiet_nil ?_
   intro _ hw'
   obtain ⟨pq,rfl⟩:=hw'
   have k1:=pq.h
   generalize pq.world = w2 at k1 ⊢
   have HB2:=hidIt (HB1.out.trans (k1.mono HB1.out.size))
   replace c2 : w2.cell? _ = _:=(k1.cell (by simpa using cell_block c2)).trans c2
   replace c3 : w2.cell? _ = _:=(k1.cell (by simpa using cell_block c3)).trans c3
   replace c4 : w2.cell? _ = _:=(k1.cell (by simpa using cell_block c4)).trans c4
   clear k1 g1 c1
   go_wp2_with (fail)
   refine ⟨⟨i + 1,by simp,?_,by omega,HB2⟩,by simp [intOf]; omega⟩
   rw [q3.out]
   congr 1
  ·
   have hin' : ¬ (i : Int) < (m : Int):=by omega
   have ei : i = m:=by omega
   subst ei
   generalize hk : k + 5 * i = q
   go_wp2_with (fail)
   go_ret
   exact ⟨rfl,HB.out⟩
end Go.Proofs.YtpkkmhpobfjclaaGreat.En
