/- Merged of the program. -/
import Derived.Test.YtkeapmmochpcfaaGreatBun6
import Derived.Test.YtkeapmmochpcfaaGreatMem
import Derived.Laws.OwnMore
import Derived.Deep.OwnRows
import Derived.OwnWalk
import Derived.Test.YtkeapmmochpcfaaGreatDraw
set_option maxRecDepth 100000
set_option maxHeartbeats 32000000
set_option linter.unusedVariables false
namespace Go.Proofs.YtkeapmmochpcfaaGreat.Mm
open Go.ChangeShapes Go.WideShapes Go.ChangeAt Go.RowKit
open Rc (BelowBy BelowBy.one wp_region_below calls_below calls_same)
open Mk (okE newB okBk look Ris IsJoin mergeB)
theorem own_rd {w:World} {base g m cap:Nat} {L:List Rw} (h:Own w base (.slice (some ⟨g,0,none⟩) m cap) L):Rd w (some ⟨g,0,none⟩) L:=by
 obtain⟨a',_,e1,_,_,r,_⟩:=h.form
 rw[(Value.slice.inj e1).1]
 exact r
theorem own_slice {w:World} {base:Nat} {v:Value} {L:List Rw} (h:Own w base v L) (hl:0<L.length):∃ g cp,v=.slice (some ⟨g,0,none⟩) L.length cp∧L.length<=cp∧cp<=9223372036854775807:=by
 obtain⟨a,c,e,h1,h2,_,h4,h5⟩:=h.form
 cases a with
 | none=>have:=h4 rfl;omega
 | some x =>
  obtain⟨g,rfl,_⟩:=h5 x rfl
  exact⟨g,c,e,h1,h2⟩
def MgP (A B:List Rw) (w:World) (e:Ending) (w':World):Prop:=∃ v J,e=.returned v∧toB J=mergeB (toB A) (toB B)∧Own w' w.heap.size v J∧Below w.heap.size w w'
theorem MgP.of {A B J:List Rw} {w w':World} {e:Ending} {v:Value} (h:e=.returned v) (h1:toB J=mergeB (toB A) (toB B)) (h2:Own w' w.heap.size v J) (h3:Below w.heap.size w w'):MgP A B w e w':=⟨v,J,h,h1,h2,h3⟩
theorem impl_Merged_any (aA aB:Option Addr) (cA cB:Nat) (A B:List Rw) (w:World) (hA:Rd w aA A) (hB:Rd w aB B) (hnA:aA=none->cA=0) (hlA:A.length<=9223372036854775807) (hlB:B.length<=9223372036854775807) :
  Calls Tryz.prog 18 #[.slice aA A.length cA,.slice aB B.length cB] w fun e w'=>MgP A B w e w':=by
 have CA:=hidIt (fun W (r:Rd W aA A)=>impl_MembersOk aA cA A W r hlA)
 have CB:=hidIt (fun W (r:Rd W aB B)=>impl_MembersOk aB cB B W r hlB)
 have HRA:=hidIt hA
 have HRB:=hidIt hB
 clear hA hB
 cases okA:okBk (toB A) with
 | false =>
  have HE:=hidIt (show toB []=mergeB (toB A) (toB B) from (Mk.merge_no (fun h=>by rw[okA] at h;exact absurd h.1 (by decide))).symm)
  rw[okA] at CA
  clear okA
  generalize A.length=la at *
  generalize B.length=lb at *
  go_enter Tryz.func18,Tryz.ntmps18
  go_wp2_with (fail)
  refine (CA.out _ HRA.out).mono ?_
  rintro e w1 ⟨rfl,k1⟩
  have HB1:=hidIt k1
  clear k1
  go_wp2_with (fail)
  go_ret
  exact MgP.of rfl HE.out ((Own.new w1).mono HB1.out.size) (HB1.out.alloc HB1.out.size _)
 | true =>
  rw[okA] at CA
  cases okB:okBk (toB B) with
  | false =>
   have HE:=hidIt (show toB []=mergeB (toB A) (toB B) from (Mk.merge_no (fun h=>by rw[okB] at h;exact absurd h.2 (by decide))).symm)
   rw[okB] at CB
   clear okA okB
   generalize A.length=la at *
   generalize B.length=lb at *
   go_enter Tryz.func18,Tryz.ntmps18
   go_wp2_with (fail)
   refine (CA.out _ HRA.out).mono ?_
   rintro e w1 ⟨rfl,k1⟩
   have HB1:=hidIt k1
   clear k1
   go_wp2_with (fail)
   refine (CB.out _ (HRB.out.kept HB1.out)).mono ?_
   rintro e w2 ⟨rfl,k2⟩
   have HB2:=hidIt (HB1.out.trans (k2.mono HB1.out.size))
   clear k2
   go_wp2_with (fail)
   go_ret
   exact MgP.of rfl HE.out ((Own.new w2).mono HB2.out.size) (HB2.out.alloc HB2.out.size _)
  | true =>
   rw[okB] at CB
   have l1:=Mk.ok_len okA
   have l2:=Mk.ok_len okB
   rw[toB_length] at l1 l2
   have rA:=Mk.ok_ris okA
   have rB:=Mk.ok_ris okB
   have CC:=hidIt (fun W (r:Rd W aA A)=>impl_copied aA cA A W r hnA (by omega))
   have HST:=hidIt (fun i M k hi h hk h1 h2=>join_step (A:=A) (B:=B) (M:=M) (i:=i) (k:=k) rB hi h hk h1 h2)
   have HS0:=hidIt (show IsJoin (toB A) ((toB B).take 0) (toB A) from by rw[List.take_zero];exact Mk.join_start rA)
   have HSE:Hid (∀ J,IsJoin (toB A) ((toB B).take B.length) (toB J)->toB J=mergeB (toB A) (toB B)):=hidIt (fun J h=>by
    rw[<- toB_length,List.take_length] at h
    exact (Mk.merge_of okA okB h).symm)
   clear okA okB rA rB
   generalize hla:A.length=la at *
   generalize hlb:B.length=lb at *
   have HLA:=hidIt hla
   have HLB:=hidIt hlb
   clear hla hlb
   go_enter Tryz.func18,Tryz.ntmps18
   go_wp2_with (fail)
   refine (CA.out _ HRA.out).mono ?_
   rintro e w1 ⟨rfl,k1⟩
   have HB1:=hidIt k1
   clear k1
   go_wp2_with (fail)
   refine (CB.out _ (HRB.out.kept HB1.out)).mono ?_
   rintro e w2 ⟨rfl,k2⟩
   have HB2:=hidIt (HB1.out.trans (k2.mono HB1.out.size))
   clear k2
   go_wp2_with (fail)
   refine (CC.out _ (HRA.out.kept HB2.out)).mono ?_
   intro e w3 hz
   obtain⟨g0,cp0,rfl,hc0,hm0,o3,k3⟩:=hz.out
   have HB3:=hidIt (HB2.out.trans (k3.mono HB2.out.size))
   have HO3:=hidIt (o3.mono HB2.out.size)
   clear o3 k3 hz HB1 HB2 CC CA CB HRA hnA
   go_wp2_with (fail)
   go_loopw [5,23] (fun z y wx=>∃ (i:Nat) (M:List Rw) (g cp:Nat),y=.int .i64 i∧z=.slice (some ⟨g,0,none⟩) M.length cp∧i<=lb∧M.length<=cp∧cp<=9223372036854775807∧M.length<=la+i∧Hid (Own wx w.heap.size (.slice (some ⟨g,0,none⟩) M.length cp) M)∧Hid (IsJoin (toB A) ((toB B).take i) (toB M))∧Hid (Below w.heap.size w wx)) (fun _ y _=>(lb - intOf y).toNat)
   case atStart=>exact⟨0,A,g0,cp0,rfl,by rw[HLA.out],by omega,by rw[HLA.out];exact hc0,hm0,by rw[HLA.out];omega,hidIt (by rw[HLA.out];exact HO3.out),HS0,HB3⟩
   case round =>
    obtain⟨i,M,g,cp,rfl,rfl,hi,hmc,hcm,hml,HO,HM,HB⟩:=hrel
    clear HO3 HB3 hc0 hm0 HS0
    by_cases hin:i<lb
    ·
     have hin':(i:Int)<(lb:Int):=by omega
     obtain⟨b,off,ea,x0,x1,x2⟩:=(HRB.out.kept HB.out).all (i:=i) (by rw[HLB.out];exact hin)
     subst ea
     have HJ:=hidIt (fun k hk h1 h2=>HST.out i M k hin HM.out hk h1 h2)
     have hkb:kat B i=(rat B i).1:=rfl
     have CP:=hidIt (fun W (r:Rd W (some ⟨g,0,none⟩) M)=>impl_placeOf (some ⟨g,0,none⟩) cp M (rat B i).1 W r (by omega) HM.out.ris)
     rw[<- hkb] at CP
     have HKB:=hidIt hkb
     clear hkb
     generalize rat B i=x at x0 x1 x2 HJ HKB
     generalize kat B i=kb at HJ HKB CP
     obtain⟨s,u,q⟩:=x
     simp only at x0 x1 x2 HKB
     have ekb:=HKB.out
     subst ekb
     clear HM HKB
     generalize hmm:M.length=mm at *
     have HML:=hidIt hmm
     clear hmm
     have BX:=hidIt (Bo.Box.new wr #[.int .i64 kb,.int .i64 u,.int .i64 q] 62)
     have HBz:=hidIt (HB.out.alloc HB.out.size (.cells #[.int .i64 kb,.int .i64 u,.int .i64 q] 62))
     have HOz:=hidIt (HO.out.alloc (.cells #[.int .i64 kb,.int .i64 u,.int .i64 q] 62))
     go_wp2_with (fail)
     generalize hwz:wr.alloc (.cells #[.int .i64 kb,.int .i64 u,.int .i64 q] 62)=wz at BX HBz HOz ⊢
     have hbz:wr.heap.size<wz.heap.size:=by rw[<- hwz];simp
     generalize wr.heap.size=bz at BX hbz ⊢
     clear hwz HO HB x0 x1 x2
     refine (CP.out _ (own_rd HOz.out)).mono ?_
     intro e w4 hz
     obtain⟨k,is,rfl,hk,k4⟩:=hz.out
     have HK:=hidIt hk
     have HB4:=hidIt (HBz.out.trans (k4.mono HBz.out.size))
     have HO4:=hidIt (HOz.out.kept k4)
     have BX4:=hidIt (BX.out.kept k4)
     have hbz4:bz<w4.heap.size:=Nat.lt_of_lt_of_le hbz k4.size
     clear hk k4 hz CP BX HBz HOz hbz
     have hkm:k<=mm:=by rw[<- HML.out];exact HK.out.le
     have HI:=hidIt (HJ.out k hkm HK.out.lo (fun h=>(by have:=HK.out.hi (by rw[HML.out];exact h);omega)))
     have d0:=BX4.out.c 0 rfl
     have d1:=BX4.out.c 1 rfl
     have d2:=BX4.out.c 2 rfl
     cases is with
     | false =>
      have HN:=hidIt (HI.out.2.2 (fun h=>HK.out.no rfl (by rw[HML.out];exact h)))
      have CN:=hidIt (insert_any w.heap.size (.slice (some ⟨g,0,none⟩) mm cp) M k (kb,u,q) w4 HO4.out (by rw[HML.out];exact hkm) (by rw[HML.out];omega) HB4.out.size)
      have hl5:(M.take k++(kb,u,q)::M.drop k).length=mm+1:=by
       have:=HML.out
       simp
       omega
      generalize M.take k++(kb,u,q)::M.drop k=N at HN CN hl5
      clear HI HJ HK
      go_wp2_with (fail)
      refine CN.out.mono ?_
      rintro e w5 ⟨v,rfl,o5,k5⟩
      have HO5:=hidIt o5
      have HB5:=hidIt ((HB4.out.alloc HB4.out.size (.cells #[.int .i64 kb,.int .i64 u,.int .i64 q] 62)).trans (grown_below (HO4.out.alloc (.cells #[.int .i64 kb,.int .i64 u,.int .i64 q] 62)) k5 (Nat.le_refl _) (by have:=HB4.out.size;simp;omega)))
      obtain⟨g5,c5,ev,h5c,h5m⟩:=own_slice o5 (by omega)
      subst ev
      clear o5 k5 CN
      go_wp2_with (fail)
      exact⟨⟨i+1,N,g5,c5,by simp,by first | rfl | rw[hl5],by omega,h5c,h5m,by omega,HO5,HN,HB5⟩,by simp[intOf];omega⟩
     | true =>
      have hkM:k<M.length:=(HK.out.yes rfl).1
      have hkm':k<mm:=by rw[<- HML.out];exact hkM
      have hke:=HK.out.yes rfl
      have hki:(k:Int)<(mm:Int):=by omega
      have y0:=HO4.out.at hkM (j:=0) (by omega)
      have y1:=HO4.out.at hkM (j:=1) (by omega)
      have y2:=HO4.out.at hkM (j:=2) (by omega)
      simp only[rcell,Nat.add_zero] at y0 y1 y2
      have CS:=hidIt (fun W=>impl_Stronger (kb,u,q) (rat M k) W)
      have HI1:=hidIt (fun h=>HI.out.1 hkm' hke.2 h)
      have HI2:=hidIt (fun h=>HI.out.2.1 hkm' hke.2 h)
      obtain⟨nw,hnw⟩:∃ nw,newB (toE (kb,u,q)) (toE (rat M k))=nw:=⟨_,rfl⟩
      rw[hnw] at CS HI1 HI2
      clear hnw HI HJ HK hke
      generalize rat M k=y at y0 y1 y2 CS
      obtain⟨s',u',q'⟩:=y
      simp only[rv] at y0 y1 y2 CS
      haveI:=BelowBy.one w4
      have f0:=fun p:BelowBy w4=>p.cell y0
      have f1:=fun p:BelowBy w4=>p.cell y1
      have f2:=fun p:BelowBy w4=>p.cell y2
      have e0:=fun p:BelowBy w4=>p.cell d0
      have e1:=fun p:BelowBy w4=>p.cell d1
      have e2:=fun p:BelowBy w4=>p.cell d2
      clear y0 y1 y2 d0 d1 d2
      go_wp2_with (fail)
      refine wp_region_below (by kernel_rfl) (by kernel_rfl) ?_
      repeat (go_big_quiet_step (first | (go_at_call 45;refine calls_below (CS.out _))))
      refine wpQuiet_nil ?_
      intro _ hw'
      obtain⟨pq,rfl⟩:=hw'
      have k5:=pq.h
      generalize pq.world=w5 at k5 ⊢
      have HB5:=hidIt (HB4.out.trans (k5.mono HB4.out.size))
      have HO5:=hidIt (HO4.out.kept k5)
      have BX5:=hidIt (BX4.out.kept k5)
      clear f0 f1 f2 e0 e1 e2 k5 HB4 HO4 BX4
      cases nw with
      | false =>
       have HN:=hidIt (HI2.out rfl)
       go_wp2_with (fail)
       exact⟨⟨i+1,M,g,cp,by simp,by rw[HML.out],by omega,by rw[HML.out];exact hmc,hcm,by rw[HML.out];omega,hidIt (by rw[HML.out];exact HO5.out),HN,HB5⟩,by simp[intOf];omega⟩
      | true =>
       have HN:=hidIt (HI1.out rfl)
       have d0:=BX5.out.c 0 rfl
       have d1:=BX5.out.c 1 rfl
       have d2:=BX5.out.c 2 rfl
       have y0:=HO5.out.at hkM (j:=0) (by omega)
       have y1:=HO5.out.at hkM (j:=1) (by omega)
       have y2:=HO5.out.at hkM (j:=2) (by omega)
       simp only[rcell,Nat.add_zero] at y0 y1 y2
       have q0:=HO5.out.free (k*3)
       have q1:=HO5.out.free (k*3+1)
       have q2:=HO5.out.free (k*3+2)
       have hgB:w.heap.size<=g:=by obtain⟨cur,h,_⟩:=own_row HO5.out;exact h
       have HO6:=hidIt (HO5.out.whole hkM (kb,u,q))
       have HB6:=hidIt (((HB5.out.setCell (p:=⟨g,k*3,none⟩) hgB (.int .i64 kb)).setCell (p:=⟨g,k*3+1,none⟩) hgB (.int .i64 u)).setCell (p:=⟨g,k*3+2,none⟩) hgB (.int .i64 q))
       have hl6:(M.set k (kb,u,q)).length=mm:=by rw[List.length_set];exact HML.out
       generalize M.set k (kb,u,q)=N at HN HO6 hl6
       go_wp2_with (fail)
       exact⟨⟨i+1,N,g,cp,by simp,by rw[hl6],by omega,by rw[hl6];exact hmc,hcm,by omega,hidIt (by rw[hl6];exact HO6.out),HN,HB6⟩,by simp[intOf];omega⟩
    ·
     have hin':¬ (i:Int)<(lb:Int):=by omega
     obtain rfl:i=lb:=by omega
     have HE:=hidIt (HSE.out M HM.out)
     generalize hmm:M.length=mm at *
     go_wp2_with (fail)
     go_ret
     exact MgP.of rfl HE.out HO.out HB.out
theorem impl_Merged (aA aB:Option Addr) (cA cB:Nat) (A B:List Rw) (w:World) (hA:Rd w aA A) (hB:Rd w aB B) (hnA:aA=none->cA=0) (hlA:A.length<=9223372036854775807) (hlB:B.length<=9223372036854775807) :
  Calls Tryz.prog 18 #[.slice aA A.length cA,.slice aB B.length cB] w fun e w'=>∃ v J,e=.returned v∧toB J=mergeB (toB A) (toB B)∧Own w' w.heap.size v J∧Below w.heap.size w w' :=
 impl_Merged_any aA aB cA cB A B w hA hB hnA hlA hlB
end Go.Proofs.YtkeapmmochpcfaaGreat.Mm
namespace Go.Proofs.YtkeapmmochpcfaaGreat.Rp
open Go.ChangeShapes Go.WideShapes Go.ChangeAt Go.RowKit
structure OnlyIn (lo hi:Nat) (w w':World):Prop where
 os:w'.os=w.os
 tape:w'.tape=w.tape
 output:w'.output=w.output
 size:w.heap.size<=w'.heap.size
 block:∀ k,k<w.heap.size->¬ (lo<=k∧k<hi)->w'.heap[k]?=w.heap[k]?
theorem OnlyIn.of_only {lo hi c:Nat} {w w':World} (h:Only c w w') (hc:w.heap.size<=c∨(lo<=c∧c<hi)):OnlyIn lo hi w w' :=
 ⟨h.os,h.tape,h.output,h.size,fun k hk hn=>h.block k hk (fun e=>by subst e;rcases hc with q | q;omega;exact hn q)⟩
theorem row_in {lo hi:Nat} {w w':World} {b e s n:Nat} {v:Value} {xs:List Value} (h:w.ownsRow b e s v n xs) (Y:OnlyIn lo hi w w') (hd:∀ g,v.ownBlock=some g->¬ (lo<=g∧g<hi)):w'.ownsRow b e s v n xs:=by
 rcases h.2 with ⟨e1,e2⟩ | ⟨g,cap,cur,e1,hb,hg,r⟩
 ·
  exact⟨h.1,.inl ⟨e1,e2⟩⟩
 ·
  refine⟨h.1,.inr ⟨g,cap,cur,e1,hb,?_,r⟩⟩
  rw[Y.block g (Array.getElem?_eq_some_iff.1 hg).1 (hd g (by rw[e1];rfl))]
  exact hg
theorem own_apart {w:World} {base base' e e' s s' n n':Nat} {v v':Value} {xs xs':List Value} (h:w.ownsRow base e s v n xs) (h':w.ownsRow base' e' s' v' n' xs') (hne:e≠e'):∀ g,v.ownBlock=some g->v'.ownBlock≠some g:=by
 intro g hg hg'
 rcases h.2 with ⟨e1,_⟩ | ⟨x,cap,cur,e1,_,hx,_⟩
 ·
  rw[e1] at hg;cases hg
 ·
  rcases h'.2 with ⟨e2,_⟩ | ⟨y,cap',cur',e2,_,hy,_⟩
  ·
   rw[e2] at hg';cases hg'
  ·
   rw[e1] at hg
   rw[e2] at hg'
   cases hg
   cases hg'
   rw[hx] at hy
   cases hy
   exact hne rfl
end Go.Proofs.YtkeapmmochpcfaaGreat.Rp
namespace Go.Proofs.YtkeapmmochpcfaaGreat.Dr
open Go.ChangeShapes Go.WideShapes Go.ChangeAt Go.RowKit
theorem big_any (a:Option Addr) (len cap:Nat) (w:World):Calls Tryz.prog 5 #[.slice a len cap] w fun e w'=>e=.returned (.bool (decide (4096<(len:Int))))∧w'=w:=by
 go_enter Tryz.func5,Tryz.ntmps5
 go_wp2
 go_ret
 exact⟨by simp,rfl⟩
end Go.Proofs.YtkeapmmochpcfaaGreat.Dr
