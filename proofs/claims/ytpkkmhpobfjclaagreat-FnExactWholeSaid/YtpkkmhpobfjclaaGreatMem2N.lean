/- Marks written into a list of Members of the call's own, and looked for again. (Written by wip/mkrow.py.) -/
import Derived.Test.YtpkkmhpobfjclaaGreatMem2L
set_option maxRecDepth 100000
set_option maxHeartbeats 32000000
set_option linter.unusedVariables false
namespace Go.Proofs.YtpkkmhpobfjclaaGreat.Mm
open Go.ChangeShapes Go.WideShapes Go.ChangeAt Go.RowKit
open Rc (BelowBy BelowBy.one BelowBy.cell wp_region_below calls_below calls_same)
set_option linter.unusedSimpArgs false
def markX (k m : Nat) : List Rw:=(List.range m).map fun j=>(((k + 3 * j : Nat) : Int),((k + 3 * j + 1 : Nat) : Int),((k + 3 * j + 2 : Nat) : Int))
theorem markX_length (k m : Nat) : (markX k m).length = m:=by simp [markX]
theorem rat_markX (k m j : Nat) (h : j < m) : rat (markX k m) j = (((k + 3 * j : Nat) : Int),((k + 3 * j + 1 : Nat) : Int),((k + 3 * j + 2 : Nat) : Int)):=by
 unfold markX
 rw [rat_map _ _ _ h]
theorem set_self {L : List Rw} {i : Nat} : L.set i (rat L i) = L:=by
 by_cases h : i < L.length
 ·
  apply ext_rat (by rw [List.length_set])
  intro t ht
  rw [rat_set h]
  split
  ·
   next e=>rw [e]
  ·
   rfl
 ·
  rw [List.set_eq_of_length_le (by omega)]
theorem Own.put0 {w : World} {base g m cap i : Nat} {L : List Rw} {y0 y1 y2} (h : Own w base (.slice (some ⟨g,0,none⟩) m cap) (L.set i (y0,y1,y2))) (hi : i < L.length) (v : Int) : Own (w.setCell ⟨g,i * 3,none⟩ (.int .i64 v)) base (.slice (some ⟨g,0,none⟩) m cap) (L.set i (v,y1,y2)):=by
 have h1:=h.set (i:=i) (j:=0) (v:=.int .i64 v) (y:=(v,y1,y2)) (by rw [List.length_set]; exact hi) (by omega) (fun k hk=>by
  rw [rat_set hi,if_pos rfl]
  match k,hk with
  | 0,_=>rfl
  | 1,_=>rfl
  | 2,_=>rfl)
 rw [List.set_set] at h1
 exact h1
theorem Own.put1 {w : World} {base g m cap i : Nat} {L : List Rw} {y0 y1 y2} (h : Own w base (.slice (some ⟨g,0,none⟩) m cap) (L.set i (y0,y1,y2))) (hi : i < L.length) (v : Int) : Own (w.setCell ⟨g,i * 3 + 1,none⟩ (.int .i64 v)) base (.slice (some ⟨g,0,none⟩) m cap) (L.set i (y0,v,y2)):=by
 have h1:=h.set (i:=i) (j:=1) (v:=.int .i64 v) (y:=(y0,v,y2)) (by rw [List.length_set]; exact hi) (by omega) (fun k hk=>by
  rw [rat_set hi,if_pos rfl]
  match k,hk with
  | 0,_=>rfl
  | 1,_=>rfl
  | 2,_=>rfl)
 rw [List.set_set] at h1
 exact h1
theorem Own.put2 {w : World} {base g m cap i : Nat} {L : List Rw} {y0 y1 y2} (h : Own w base (.slice (some ⟨g,0,none⟩) m cap) (L.set i (y0,y1,y2))) (hi : i < L.length) (v : Int) : Own (w.setCell ⟨g,i * 3 + 2,none⟩ (.int .i64 v)) base (.slice (some ⟨g,0,none⟩) m cap) (L.set i (y0,y1,v)):=by
 have h1:=h.set (i:=i) (j:=2) (v:=.int .i64 v) (y:=(y0,y1,v)) (by rw [List.length_set]; exact hi) (by omega) (fun k hk=>by
  rw [rat_set hi,if_pos rfl]
  match k,hk with
  | 0,_=>rfl
  | 1,_=>rfl
  | 2,_=>rfl)
 rw [List.set_set] at h1
 exact h1
theorem markS_any (base : Nat) (v : Value) (L : List Rw) (k : Nat) (w : World) (h : Own w base v L) (h1 : 1 ≤ k) (h2 : k + 3 * L.length ≤ 1099511627776) :
  Calls Tryz.prog 23 #[v,.int .i64 k] w fun e w'=>e = .returned (.int .i64 ((k + 3 * L.length : Nat) : Int)) ∧ Own w' base v (markX k L.length) ∧ Only (ob w v) w w':=by
 obtain ⟨a,cap,rfl,hcap,hcm,hR,hna,hsome⟩:=h.form
 cases a with
 | none =>
  have e:=hR.none_nil
  subst e
  have e:=hna rfl
  subst e
  clear hsome hna
  go_enter Tryz.func23,Tryz.ntmps23
  go_wp2_with (fail)
  refine wp_loop_rounds 1 ?_
  rw [rounds_succ]
  go_wp2_with (fail)
  go_ret
  exact ⟨by simp,h,Only.refl _ _⟩
 | some x =>
  obtain ⟨g,rfl,hbg,hgl⟩:=hsome x rfl
  have eo : ob w (.slice (some ⟨g,0,none⟩) L.length cap) = g:=rfl
  rw [eo]
  have HO:=hidIt h
  generalize hn : L.length = m at *
  have HN:=hidIt hn
  clear h hR hna hsome hn eo hcm
  go_enter Tryz.func23,Tryz.ntmps23
  go_wp2_with (fail)
  go_loopw [1,5] (fun z y wx=>∃ (i : Nat) (M : List Rw),y = .int .i64 i ∧ z = .int .i64 ((k + 3 * i : Nat) : Int) ∧ i ≤ m ∧ M.length = m ∧ Hid (∀ j,j < i → rat M j = (((k + 3 * j : Nat) : Int),((k + 3 * j + 1 : Nat) : Int),((k + 3 * j + 2 : Nat) : Int))) ∧ Hid (Own wx base (.slice (some ⟨g,0,none⟩) m cap) M) ∧ Hid (Only g w wx)) (fun _ y _=>(m - intOf y).toNat)
  case atStart=>exact ⟨0,L,rfl,rfl,by omega,HN.out,hidIt (fun j hj=>by omega),HO,hidIt (Only.refl _ _)⟩
  case round =>
   obtain ⟨i,M,rfl,rfl,hi,hM,hE,HOx,HY⟩:=hrel
   have HM:=hidIt hM
   clear hM HO
   by_cases hin : i < m
   ·
    have hin' : (i : Int) < (m : Int):=by omega
    have HMi : Hid (i < M.length):=hidIt (by rw [HM.out]; exact hin)
    generalize hk : k + 3 * i = q
    have HK:=hidIt hk
    clear hk
    have q1 : q + 3 ≤ 1099511627776:=by have:=HK.out; omega
    have HEY : Hid (((q : Int),(q : Int) + 1,(q : Int) + 1 + 1) = (((q : Nat) : Int),((q + 1 : Nat) : Int),((q + 2 : Nat) : Int))):=hidIt (by rw [show (q : Int) + 1 + 1 = ((q + 2 : Nat) : Int) by omega,show (q : Int) + 1 = ((q + 1 : Nat) : Int) by omega])
    have HO : Hid (Own wr base (.slice (some ⟨g,0,none⟩) m cap) (M.set i (rat M i))):=hidIt (by rw [set_self]; exact HOx.out)
    clear HOx
    generalize rat M i = r at HO
    obtain ⟨r0,r1,r2⟩:=r
    have z0:=HO.out.at (i:=i) (by rw [List.length_set]; exact HMi.out) (j:=0) (by omega)
    have f0:=HO.out.free (i * 3)
    have z1:=HO.out.at (i:=i) (by rw [List.length_set]; exact HMi.out) (j:=1) (by omega)
    have f1:=HO.out.free (i * 3 + 1)
    have z2:=HO.out.at (i:=i) (by rw [List.length_set]; exact HMi.out) (j:=2) (by omega)
    have f2:=HO.out.free (i * 3 + 2)
    simp only [rcell,Nat.add_zero] at z0 z1 z2
    replace HO:=hidIt (((HO.out.put0 HMi.out ((q : Int))).put1 HMi.out ((q : Int) + 1)).put2 HMi.out ((q : Int) + 1 + 1))
    replace HY:=hidIt (((HY.out.setCell (i * 3) (.int .i64 ((q : Int)))).setCell (i * 3 + 1) (.int .i64 ((q : Int) + 1))).setCell (i * 3 + 2) (.int .i64 ((q : Int) + 1 + 1)))
    go_wp2_with (fail)
    refine ⟨⟨i + 1,_,by simp,?_,by omega,by rw [List.length_set]; exact HM.out,hidIt (fun j hj=>?_),HO,HY⟩,by simp [intOf]; omega⟩
    ·
     have:=HK.out
     congr 1
     omega
    ·
     rw [rat_set HMi.out]
     split
     ·
      next e =>
      subst e
      rw [HK.out,← HEY.out]
     ·
      exact hE.out j (by omega)
   ·
    have hin' : ¬ (i : Int) < (m : Int):=by omega
    have HI : Hid (i = m):=hidIt (by omega)
    have e : M = markX k m:=ext_rat (by rw [HM.out,markX_length]) (fun j hj=>by rw [HM.out] at hj; rw [hE.out j (by have:=HI.out; omega),rat_markX _ _ _ hj])
    subst e
    have ei : i = m:=HI.out
    subst ei
    generalize hk : k + 3 * i = q
    go_wp2_with (fail)
    go_ret
    exact ⟨rfl,HOx.out,HY.out⟩
theorem heldS_any (a : Option Addr) (cap m k : Nat) (w : World) (h : Rd w a (markX k m)) (h1 : 1 ≤ k) (h2 : k + 3 * m ≤ 1099511627776) :
  Calls Tryz.prog 25 #[.slice a m cap,.int .i64 k] w fun e w'=>e = .returned (.int .i64 ((k + 3 * m : Nat) : Int)) ∧ Below w.heap.size w w':=by
 have HR:=hidIt h
 clear h
 go_enter Tryz.func25,Tryz.ntmps25
 go_wp2_with (fail)
 go_loopw [1,5] (fun z y wx=>∃ i : Nat,y = .int .i64 i ∧ z = .int .i64 ((k + 3 * i : Nat) : Int) ∧ i ≤ m ∧ Hid (Below w.heap.size w wx)) (fun _ y _=>(m - intOf y).toNat)
 case atStart=>exact ⟨0,rfl,rfl,by omega,hidIt (Below.refl _ _)⟩
 case round =>
  obtain ⟨i,rfl,rfl,hi,HB⟩:=hrel
  by_cases hin : i < m
  ·
   have hin' : (i : Int) < (m : Int):=by omega
   obtain ⟨b,off,rfl,c0,c1,c2⟩:=(HR.out.kept HB.out).all (i:=i) (by rw [markX_length]; exact hin)
   rw [rat_markX _ _ _ hin] at c0 c1 c2
   simp only at c0 c1 c2
   have q3 : Hid (k + 3 * (i + 1) = k + 3 * i + 3):=hidIt (by omega)
   have q1 : k + 3 * i + 3 ≤ 1099511627776:=by omega
   have HK : Hid (1 ≤ k + 3 * i):=hidIt (by omega)
   generalize k + 3 * i = q at c0 c1 c2 q1 q3 HK
   rw [show ((q + 1 : Nat) : Int) = (q : Int) + 1 by omega] at c1
   rw [show ((q + 2 : Nat) : Int) = (q : Int) + 1 + 1 by omega] at c2
   have hne0 : ((q : Int) != (q : Int)) = false:=by simp
   have hne1 : ((q : Int) + 1 != (q : Int) + 1) = false:=by simp
   have hne2 : ((q : Int) + 1 + 1 != (q : Int) + 1 + 1) = false:=by simp
   clear HR
   go_wp2_with (fail)
   refine ⟨⟨i + 1,by simp,?_,by omega,HB⟩,by simp [intOf]; omega⟩
   rw [q3.out]
   congr 1
  ·
   have hin' : ¬ (i : Int) < (m : Int):=by omega
   have ei : i = m:=by omega
   subst ei
   generalize hk : k + 3 * i = q
   go_wp2_with (fail)
   go_ret
   exact ⟨rfl,HB.out⟩
end Go.Proofs.YtpkkmhpobfjclaaGreat.Mm
