/- l11Join of the specification: what two books come to, one Entry after the other. -/
import Derived.Test.YtkeapmmochpcfaaGreatBokQ
import Derived.Laws.AppendOwnNone
import Derived.Deep.RegionWith
import Derived.Deep.RegionHeld3
import Derived.Deep.Cut
import Derived.Deep.CutRange
set_option maxRecDepth 100000
set_option maxHeartbeats 32000000
set_option linter.unusedVariables false
namespace Go.Proofs.YtkeapmmochpcfaaGreat.En
open Go.ChangeShapes Go.WideShapes Go.ChangeAt Go.RowKit
open Rc (BelowBy BelowBy.one wp_region_below calls_below calls_same)
open Bk (Bytes okE newB okBk look Ris IsJoin)
attribute [local go_sem] str_gtr str_leq
abbrev five (w:World) (b o:Nat) (s u:ByteArray) (q m:Int) (f:Bool):Prop:=w.cell? ⟨b,o,none⟩=some (.string s)∧w.cell? ⟨b,o+1,none⟩=some (.string u)∧w.cell? ⟨b,o+2,none⟩=some (.int .i64 q)∧w.cell? ⟨b,o+3,none⟩=some (.int .i64 m)∧w.cell? ⟨b,o+4,none⟩=some (.bool f)
theorem five_kept {W w':World} {b o:Nat} {s u:ByteArray} {q m:Int} {f:Bool} (k:Below W.heap.size W w') (h:five W b o s u q m f):five w' b o s u q m f:=by
 obtain⟨h0,h1,h2,h3,h4⟩:=h
 exact⟨by rw[k.cell (by simpa using cell_block h0)];exact h0,by rw[k.cell (by simpa using cell_block h1)];exact h1,by rw[k.cell (by simpa using cell_block h2)];exact h2,by rw[k.cell (by simpa using cell_block h3)];exact h3,by rw[k.cell (by simpa using cell_block h4)];exact h4⟩
theorem five_rd {w:World} {b:Nat} {s u:ByteArray} {q m:Int} {f:Bool} (h:five w b 0 s u q m f):Rd w (some ⟨b,0,none⟩) [(s,u,q,m,f)] :=
 ⟨fun i hi=>by
  have hi0:i=0:=by simp at hi;omega
  subst hi0
  refine⟨b,0,rfl,fun j hj=>?_⟩
  obtain⟨h0,h1,h2,h3,h4⟩:=h
  match j,hj with
  | 0,_=>exact h0
  | 1,_=>exact h1
  | 2,_=>exact h2
  | 3,_=>exact h3
  | 4,_=>exact h4⟩
theorem five_grown {w w':World} {r:Option Nat} {b o:Nat} {s u:ByteArray} {q m:Int} {f:Bool} (k:w.grownBy w' r) (h:five w b o s u q m f) (hr:some b≠r):five w' b o s u q m f :=
 ⟨grown_cell1 k h.1 hr,grown_cell1 k h.2.1 hr,grown_cell1 k h.2.2.1 hr,grown_cell1 k h.2.2.2.1 hr,grown_cell1 k h.2.2.2.2 hr⟩
theorem spec_l11Join (aA aB:Option Addr) (cA cB:Nat) (A B:List Rw) (w:World) (hA:Rd w aA A) (hB:Rd w aB B) (hnA:aA=none->cA=0) (rA:Ris (toB A)) (rB:Ris (toB B)) (hl:A.length+B.length<=900) :
  Calls Tryz.prog 62 #[.slice aA A.length cA,.slice aB B.length cB] w fun e w'=>∃ v J,e=.returned v∧v≠.slice none 0 0∧Own w' w.heap.size v J∧IsJoin (toB A) (toB B) (toB J)∧J.length<=A.length+B.length∧Below w.heap.size w w':=by
 obtain⟨i0,hi0,hz0,hz1,hz2⟩:=info_parts infoRw
 have HRA:=hidIt hA
 have HRB:=hidIt hB
 have HST:=hidIt (fun i M k hi h hk h1 h2=>join_step (A:=A) (B:=B) (M:=M) (i:=i) (k:=k) rB hi h hk h1 h2)
 have HS0:=hidIt (show IsJoin (toB A) ((toB B).take 0) (toB A) from by rw[List.take_zero];exact Bk.join_start rA)
 have HSE:Hid ((toB B).take B.length=toB B):=hidIt (by rw[<- toB_length,List.take_length])
 clear hA hB rA rB
 generalize hla:A.length=la at *
 generalize hlb:B.length=lb at *
 have HLA:=hidIt hla
 have HLB:=hidIt hlb
 clear hla hlb
 go_enter Tryz.func62,Tryz.ntmps62
 go_upto_region 1 with fail
 go_cut [5] from 9 (fun s5 wx=>∃ g cp:Nat,s5=.slice (some ⟨g,0,none⟩) la cp∧la<=cp∧cp<=9223372036854775807∧Hid (Own wx w.heap.size (.slice (some ⟨g,0,none⟩) la cp) A)∧Hid (Below w.heap.size w wx))
 case first =>
  cases aA with
  | none =>
   have e:=hnA rfl
   subst e
   have eA:=HRA.out.none_nil
   have e0:la=0:=by rw[<- HLA.out,eA];rfl
   subst e0
   go_wp2_with (first | (at_builtin;refine wpList_append_own_none rfl _ _ 29 rfl w.heap.size 60 i0 5 Tryz.underlying29 hi0 _ _ _ rfl (Own.new w) rfl ?_))
   go_wp2_with (fail)
   go_meet
   case rel=>exact⟨_,0,rfl,by omega,by omega,hidIt (by rw[eA];exact Own.new w),hidIt ((Below.refl _ w).alloc (Nat.le_refl _) _)⟩
  | some x =>
   have hx:∃ b off,x=⟨b,off,none⟩∨la=0:=by
    rcases Nat.eq_zero_or_pos la with h | h
    ·
     exact⟨0,0,.inr h⟩
    ·
     obtain⟨b,off,e,_⟩:=HRA.out.cell 0 (by rw[HLA.out];exact h)
     cases e
     exact⟨b,off,.inl rfl⟩
   have hcl:∀ W:World,Below w.heap.size w W->∀ j u,(rcells A)[j]?=some u->W.cell? (x.add j)=some u:=by
    intro W k j u hj
    obtain⟨b,off,h | h⟩:=hx
    ·
     subst h
     exact (HRA.out.kept k).cells j u hj
    ·
     have:A=[]:=List.length_eq_zero_iff.1 (HLA.out.trans h)
     rw[this] at hj
     simp[rcells] at hj
   have HCL:=hidIt hcl
   clear hx hcl
   go_wp2_with (first | (at_builtin;refine wpList_append_own _ rfl _ _ 29 rfl w.heap.size 60 i0 (.agg #[.string ByteArray.empty,.string ByteArray.empty,.int .i64 0,.int .i64 0,.bool false]) 5 56 Tryz.underlying29 hi0 hz0 hz1 hz2 rfl (by decide) _ 0 [] rfl (Own.new w) x la _ (rcells A) rfl (by rw[rcells_length,HLA.out]) (HCL.out _ ((Below.refl _ w).alloc (Nat.le_refl _) _)) (rcells_one _) ?c3 ?c4 ?c5 ?_))
   case c3=>unfold maxLen;omega
   case c4=>omega
   case c5=>simp
   intro v' w9 hown hgrow hnil
   have HO9:Hid (Own w9 w.heap.size v' A):=hidIt (by
    unfold Own
    rw[HLA.out]
    first | exact hown | (rw[Nat.zero_add,List.nil_append] at hown;exact hown))
   have HB9:=hidIt (((Below.refl w.heap.size w).alloc (Nat.le_refl _) (.cells #[] 60)).grown hgrow (by simp) (fun z hz=>by simp[Value.ownBlock] at hz;omega))
   have hv9:v'≠.slice none 0 0:=by first | exact hnil | exact fun e=>by have:=(hnil.1 e).1;cases this
   obtain⟨g9,c9,ev9,h9c,h9m,_,_⟩:=HO9.out.some_form hv9
   rw[HLA.out] at ev9 h9c
   subst ev9
   clear hown hgrow hnil hv9
   go_wp2_with (fail)
   go_meet
   case rel=>exact⟨g9,c9,rfl,h9c,h9m,HO9,HB9⟩
 case rest =>
  obtain⟨g0,cp0,rfl,hc0,hm0,HO0,HB0⟩:=hcut
  clear HRA hnA
  go_wp2_with (fail)
  go_loopw [5,6] (fun z y wx=>∃ (i:Nat) (M:List Rw) (g cp:Nat),y=.int .i64 i∧z=.slice (some ⟨g,0,none⟩) M.length cp∧i<=lb∧M.length<=cp∧cp<=9223372036854775807∧M.length<=la+i∧Hid (Own wx w.heap.size (.slice (some ⟨g,0,none⟩) M.length cp) M)∧Hid (IsJoin (toB A) ((toB B).take i) (toB M))∧Hid (Below w.heap.size w wx)) (fun _ y _=>(lb - intOf y).toNat)
  case atStart=>exact⟨0,A,g0,cp0,rfl,by rw[HLA.out],by omega,by rw[HLA.out];exact hc0,hm0,by rw[HLA.out];omega,hidIt (by rw[HLA.out];exact HO0.out),HS0,HB0⟩
  case round =>
   obtain⟨i,M,g,cp,rfl,rfl,hi,hmc,hcm,hml,HO,HM,HB⟩:=hrel
   clear HO0 HB0 hc0 hm0 HS0
   by_cases hin:i<lb
   ·
    have hin':(i:Int)<(lb:Int):=by omega
    obtain⟨b,off,ea,x0,x1,x2,x3,x4⟩:=(HRB.out.kept HB.out).all (i:=i) (by rw[HLB.out];exact hin)
    subst ea
    have HJ:=hidIt (fun k hk h1 h2=>HST.out i M k hin HM.out hk h1 h2)
    have hkb:Hid (kat B i=bs (rat B i).1):=hidIt rfl
    generalize rat B i=x at x0 x1 x2 x3 x4 HJ hkb
    generalize kat B i=kb at HJ hkb
    obtain⟨s,u,q,m,f⟩:=x
    simp only at x0 x1 x2 x3 x4 hkb
    have HF:Hid (five wr b (off+i*5) s u q m f):=hidIt ⟨x0,x1,x2,x3,x4⟩
    clear x0 x1 x2 x3 x4 HM
    generalize hmm:M.length=mm at *
    have HML:=hidIt hmm
    clear hmm
    generalize wr=wB at *
    go_wp2_with (fail)
    go_hide hQ1
    go_loopw [7] (fun y wx=>∃ k:Nat,y=.int .i64 k∧k<=mm∧Hid (∀ j,j<k->kat M j<kb)∧Hid (Below wB.heap.size wB wx)) (fun y _=>(mm - intOf y).toNat)
    case atStart=>exact⟨0,rfl,by omega,hidIt (fun j hj=>by omega),hidIt (Below.refl _ _)⟩
    case round =>
     obtain⟨k,rfl,hk,HK,HBk⟩:=hrel
     have HOk:=hidIt (HO.out.kept HBk.out)
     obtain⟨x0,x1,x2,x3,x4⟩:=five_kept HBk.out HF.out
     haveI:=BelowBy.one wr
     have g0:=fun p:BelowBy wr=>p.cell x0
     by_cases hkm:k<mm
     ·
      have hkm':(k:Int)<(mm:Int):=by omega
      have hd:decide ((k:Int)<(mm:Int))=true:=decide_eq_true hkm'
      have hkM:k<M.length:=by rw[HML.out];exact hkm
      have y0:=HOk.out.at hkM (j:=0) (by omega)
      have y1:=HOk.out.at hkM (j:=1) (by omega)
      have y2:=HOk.out.at hkM (j:=2) (by omega)
      have y3:=HOk.out.at hkM (j:=3) (by omega)
      have y4:=HOk.out.at hkM (j:=4) (by omega)
      simp only[rcell,Nat.add_zero] at y0 y1 y2 y3 y4
      have HV:=hidIt (show kat M k=bs (rat M k).1 from rfl)
      have HIk:=hidIt (HJ.out k (by omega) HK.out)
      have CNw:=hidIt (fun W=>spec_Newer (s,u,q,m,f) (rat M k) W)
      generalize rat M k=y at y0 y1 y2 y3 y4 HV HIk CNw
      generalize hkM2:kat M k=km at HV HIk
      have HKM:=hidIt hkM2
      clear hkM2
      obtain⟨s',u',q',m',f'⟩:=y
      simp only[rv] at y0 y1 y2 y3 y4 HV CNw
      have f0:=fun p:BelowBy wr=>p.cell y0
      have hless:=less_of s' s
      by_cases hlt:bs s'<bs s
      ·
       rw[decide_eq_true hlt] at hless
       have hlt':Hid (km<kb):=hidIt (by rw[HV.out,hkb.out];exact hlt)
       clear hlt x0 x1 x2 x3 x4 y0 y1 y2 y3 y4
       go_wp2_with (fail)
       refine wp_region_below (by kernel_rfl) (by kernel_rfl) ?_
       repeat (go_big_quiet_step (fail))
       refine wpQuiet_nil ?_
       intro _ hw'
       obtain⟨pq,rfl⟩:=hw'
       have HB2:=hidIt (HBk.out.trans (pq.h.mono HBk.out.size))
       generalize pq.world=w2 at HB2 ⊢
       clear f0 g0
       go_wp2_with (fail)
       refine⟨⟨k+1,by simp,by omega,hidIt (fun j hj=>?_),HB2⟩,by simp[intOf];omega⟩
       rcases Nat.lt_or_ge j k with h' | h'
       ·
        exact HK.out j h'
       ·
        obtain rfl:j=k:=by omega
        rw[HKM.out]
        exact hlt'.out
      ·
       rw[decide_eq_false hlt] at hless
       have hnl:Hid (¬ km<kb):=hidIt (by rw[HV.out,hkb.out];exact hlt)
       have HI2:=hidIt (HIk.out (fun _=>hnl.out))
       have heq:=eq_of s' s
       clear hlt
       go_wp2_with (fail)
       refine wp_region_below (by kernel_rfl) (by kernel_rfl) ?_
       repeat (go_big_quiet_step (fail))
       refine wpQuiet_nil ?_
       intro _ hw'
       obtain⟨pq,rfl⟩:=hw'
       have k1:=pq.h
       generalize pq.world=w1 at k1 ⊢
       have HB1:=hidIt (HBk.out.trans (k1.mono HBk.out.size))
       have HO1:=hidIt (HOk.out.kept k1)
       have HF1:=hidIt (five_kept HB1.out HF.out)
       have HY1:Hid (five w1 g (k*5) s' u' q' m' f'):=hidIt (five_kept k1 ⟨y0,y1,y2,y3,y4⟩)
       clear f0 g0 k1 x0 x1 x2 x3 x4 y0 y1 y2 y3 y4 HOk hless
       obtain⟨z0,z1,z2,z3,z4⟩:=HF1.out
       obtain⟨y0,y1,y2,y3,y4⟩:=HY1.out
       haveI:=BelowBy.one w1
       have g0:=fun p:BelowBy w1=>p.cell z0
       have f0:=fun p:BelowBy w1=>p.cell y0
       by_cases hes:bs s'=bs s
       ·
        rw[decide_eq_true hes] at heq
        have hek:Hid (km=kb):=hidIt (by rw[HV.out,hkb.out];exact hes)
        have g1:=fun p:BelowBy w1=>p.cell z1
        have g2:=fun p:BelowBy w1=>p.cell z2
        have g3:=fun p:BelowBy w1=>p.cell z3
        have g4:=fun p:BelowBy w1=>p.cell z4
        have f1:=fun p:BelowBy w1=>p.cell y1
        have f2:=fun p:BelowBy w1=>p.cell y2
        have f3:=fun p:BelowBy w1=>p.cell y3
        have f4:=fun p:BelowBy w1=>p.cell y4
        clear hes z0 z1 z2 z3 z4 y0 y1 y2 y3 y4
        go_wp2_with (fail)
        subst hQ1
        go_wp2_with (fail)
        refine wp_region_below (by kernel_rfl) (by kernel_rfl) ?_
        repeat (go_big_quiet_step (fail))
        refine wpQuiet_nil ?_
        intro _ hw'
        obtain⟨pq,rfl⟩:=hw'
        have k2:=pq.h
        generalize pq.world=w2 at k2 ⊢
        haveI:=BelowBy.one w2
        have g0':=fun p:BelowBy w2=>(g0 ⟨p.world,k2.trans (p.h.mono k2.size)⟩)
        have g1':=fun p:BelowBy w2=>(g1 ⟨p.world,k2.trans (p.h.mono k2.size)⟩)
        have g2':=fun p:BelowBy w2=>(g2 ⟨p.world,k2.trans (p.h.mono k2.size)⟩)
        have g3':=fun p:BelowBy w2=>(g3 ⟨p.world,k2.trans (p.h.mono k2.size)⟩)
        have g4':=fun p:BelowBy w2=>(g4 ⟨p.world,k2.trans (p.h.mono k2.size)⟩)
        have f0':=fun p:BelowBy w2=>(f0 ⟨p.world,k2.trans (p.h.mono k2.size)⟩)
        have f1':=fun p:BelowBy w2=>(f1 ⟨p.world,k2.trans (p.h.mono k2.size)⟩)
        have f2':=fun p:BelowBy w2=>(f2 ⟨p.world,k2.trans (p.h.mono k2.size)⟩)
        have f3':=fun p:BelowBy w2=>(f3 ⟨p.world,k2.trans (p.h.mono k2.size)⟩)
        have f4':=fun p:BelowBy w2=>(f4 ⟨p.world,k2.trans (p.h.mono k2.size)⟩)
        simp only at f0' f1' f2' f3' f4' g0' g1' g2' g3' g4'
        have HB2:=hidIt (HB1.out.trans (k2.mono HB1.out.size))
        have HO2:=hidIt (HO1.out.kept k2)
        have HF2:=hidIt (five_kept k2 HF1.out)
        clear f0 f1 f2 f3 f4 g0 g1 g2 g3 g4 k2
        obtain⟨nw,hnw⟩:∃ nw,newB (toE (s,u,q,m,f)) (toE (s',u',q',m',f'))=nw:=⟨_,rfl⟩
        rw[hnw] at CNw
        have HNW:=hidIt hnw
        clear hnw
        go_wp2_with (fail)
        refine wp_region_below (by kernel_rfl) (by kernel_rfl) ?_
        repeat (go_big_quiet_step (first | (go_at_call 97;refine calls_below (CNw.out _))))
        refine wpQuiet_nil ?_
        intro _ hw'
        obtain⟨pq,rfl⟩:=hw'
        have k3:=pq.h
        generalize pq.world=w3 at k3 ⊢
        have HB3:=hidIt (HB2.out.trans (k3.mono HB2.out.size))
        have HO3:=hidIt (HO2.out.kept k3)
        have HF3:=hidIt (five_kept k3 HF2.out)
        clear f0' f1' f2' f3' f4' g0' g1' g2' g3' g4' k3
        have HB3w:=hidIt (HB.out.trans (HB3.out.mono HB.out.size))
        have hkM3:k<M.length:=by rw[HML.out];exact hkm
        cases nw with
        | false =>
         go_wp2_with (fail)
         exact⟨⟨i+1,M,g,cp,by simp,by rw[HML.out],by omega,by rw[HML.out];exact hmc,hcm,by rw[HML.out];omega,hidIt (by rw[HML.out];exact HO3.out),hidIt ((HI2.out).2.1 hkm hek.out HNW.out),HB3w⟩,by simp[intOf];omega⟩
        | true =>
         obtain⟨z0,z1,z2,z3,z4⟩:=HF3.out
         have y0:=HO3.out.at hkM3 (j:=0) (by omega)
         have y1:=HO3.out.at hkM3 (j:=1) (by omega)
         have y2:=HO3.out.at hkM3 (j:=2) (by omega)
         have y3:=HO3.out.at hkM3 (j:=3) (by omega)
         have y4:=HO3.out.at hkM3 (j:=4) (by omega)
         simp only[rcell,Nat.add_zero] at y0 y1 y2 y3 y4
         have q0:=HO3.out.free (k*5)
         have q1:=HO3.out.free (k*5+1)
         have q2:=HO3.out.free (k*5+2)
         have q3:=HO3.out.free (k*5+3)
         have q4:=HO3.out.free (k*5+4)
         have HO4:=hidIt (HO3.out.whole hkM3 (s,u,q,m,f))
         have hgB:w.heap.size<=g:=by obtain⟨cur,h,_⟩:=own_row HO3.out;exact h
         have HB4:=hidIt (((((HB3w.out.setCell (p:=⟨g,k*5,none⟩) hgB (.string s)).setCell (p:=⟨g,k*5+1,none⟩) hgB (.string u)).setCell (p:=⟨g,k*5+2,none⟩) hgB (.int .i64 q)).setCell (p:=⟨g,k*5+3,none⟩) hgB (.int .i64 m)).setCell (p:=⟨g,k*5+4,none⟩) hgB (.bool f))
         go_wp2_with (fail)
         exact⟨⟨i+1,M.set k (s,u,q,m,f),g,cp,by simp,by rw[List.length_set,HML.out],by omega,by rw[List.length_set,HML.out];exact hmc,hcm,by rw[List.length_set,HML.out];omega,hidIt (by rw[List.length_set,HML.out];exact HO4.out),hidIt ((HI2.out).1 hkm hek.out HNW.out),HB4⟩,by simp[intOf];omega⟩
       ·
        rw[decide_eq_false hes] at heq
        have hnk:Hid (km≠kb):=hidIt (by rw[HV.out,hkb.out];exact hes)
        have HFI:=hidIt ((HI2.out).2.2 (fun _=>hnk.out))
        clear hes z0 z1 z2 z3 z4 y0 y1 y2 y3 y4 HI2 HIk HJ
        go_wp2_with (fail)
        subst hQ1
        go_wp2_with (fail)
        refine wp_region_below (by kernel_rfl) (by kernel_rfl) ?_
        repeat (go_big_quiet_step (fail))
        refine wpQuiet_nil ?_
        intro _ hw'
        obtain⟨pq,rfl⟩:=hw'
        have k2:=pq.h
        generalize pq.world=w2 at k2 ⊢
        have HB2:=hidIt (HB1.out.trans (k2.mono HB1.out.size))
        have HO2:=hidIt (HO1.out.kept k2)
        have HF2:=hidIt (five_kept k2 HF1.out)
        have HBw:=hidIt (HB.out.trans (HB2.out.mono HB.out.size))
        have hkm2:(k:Int)<=(mm:Int):=by omega
        have hkle:k<=mm:=by omega
        clear k2 f0 g0
        have HTl:Hid ((M.take k).length=k):=hidIt (by rw[List.length_take,HML.out];omega)
        have HDl:Hid ((M.drop k).length=mm - k):=hidIt (by rw[List.length_drop,HML.out])
        have HE2:Hid ((w2.alloc (.cells #[] 60)).ownsRow w.heap.size 60 5 (.slice (some ⟨w2.heap.size,0,none⟩) 0 0) 0 []):=hidIt ((Own.new w2).mono HBw.out.size)
        by_cases hck:cp=k
        ·
         have HPC:=hidIt (fun W (hO:Own W w.heap.size (.slice (some ⟨g,0,none⟩) mm cp) M)=>show ∀ j u,(rcells (M.drop k))[j]?=some u->W.cell? ((⟨g,0,none⟩:Addr).add j)=some u from fun j u hj=>by
          have hd:M.drop k=[]:=List.length_eq_zero_iff.1 (by rw[HDl.out];omega)
          rw[hd] at hj
          simp[rcells] at hj)
         go_wp2_with (first | (at_builtin;refine wpList_append_own _ rfl _ _ 29 rfl w.heap.size 60 i0 (.agg #[.string ByteArray.empty,.string ByteArray.empty,.int .i64 0,.int .i64 0,.bool false]) 5 56 Tryz.underlying29 hi0 hz0 hz1 hz2 rfl (by decide) _ 0 [] rfl HE2.out ⟨g,0,none⟩ _ _ (rcells (M.drop k)) rfl (by rw[rcells_length,HDl.out];try omega) (HPC.out _ (HO2.out.alloc _)) (rcells_one _) ?c3 ?c4 ?c5 ?_))
         case c3=>unfold maxLen;omega
         case c4=>omega
         case c5=>have:=HBw.out.size;simp;omega
         intro v7 w7 hown7 hgrow7 hnil7
         have W7:=hidIt (((Below.refl w2.heap.size w2).alloc (Nat.le_refl _) (.cells #[] 60)).grown hgrow7 (by simp) (fun z hz=>by simp[Value.ownBlock] at hz;omega))
         have HO7:Hid (Own w7 w.heap.size v7 (M.drop k)):=hidIt (by
          unfold Own
          rw[HDl.out]
          first | exact hown7 | (rw[Nat.zero_add,List.nil_append] at hown7;exact hown7))
         have hv7:v7≠.slice none 0 0:=by first | exact hnil7 | exact fun e=>by have:=(hnil7.1 e).1;cases this
         obtain⟨g7,c7,ev7,h7c,h7m,h7b,h7l⟩:=HO7.out.some_form hv7
         rw[HDl.out] at ev7 h7c
         subst ev7
         have HM7:=hidIt (HO2.out.kept W7.out)
         have HF7:=hidIt (five_kept W7.out HF2.out)
         have HB7:=hidIt (HBw.out.trans (W7.out.mono HBw.out.size))
         clear hown7 hgrow7 hnil7 hv7 HE2
         go_wp2_with (fail)
         have HE8:Hid (Own ((w7.alloc (.cells #[] 60)).drew) w7.heap.size (.slice (some ⟨w7.heap.size,0,none⟩) 0 0) []):=hidIt (Own.new w7).drew
         have B8a:=hidIt (((Below.refl w7.heap.size w7).alloc (Nat.le_refl _) (.cells #[] 60)).drew)
         have HE8':Hid (Own (((w7.alloc (.cells #[] 60)).alloc (.cells #[.string s,.string u,.int .i64 q,.int .i64 m,.bool f] 60)).drew) w7.heap.size (.slice (some ⟨w7.heap.size,0,none⟩) 0 0) []):=hidIt (((Own.new w7).alloc (.cells #[.string s,.string u,.int .i64 q,.int .i64 m,.bool f] 60)).drew)
         have B8a':=hidIt ((((Below.refl w7.heap.size w7).alloc (Nat.le_refl _) (.cells #[] 60)).alloc (by simp) (.cells #[.string s,.string u,.int .i64 q,.int .i64 m,.bool f] 60)).drew)
         have HXa:Hid (five (((w7.alloc (.cells #[] 60)).alloc (.cells #[.string s,.string u,.int .i64 q,.int .i64 m,.bool f] 60)).drew) (w7.heap.size+1) 0 s u q m f):=hidIt ⟨by simp,by simp,by simp,by simp,by simp⟩
         have HMa':=hidIt (HM7.out.kept B8a'.out)
         have HE9:Hid (Own (((w7.alloc (.cells #[.string s,.string u,.int .i64 q,.int .i64 m,.bool f] 60)).alloc (.cells #[] 60)).drew) w7.heap.size (.slice (some ⟨w7.heap.size+1,0,none⟩) 0 0) []):=hidIt (by have:=((Own.new (w7.alloc (.cells #[.string s,.string u,.int .i64 q,.int .i64 m,.bool f] 60))).mono (b':=w7.heap.size) (by simp)).drew;simpa using this)
         have B9a:=hidIt ((((Below.refl w7.heap.size w7).alloc (Nat.le_refl _) (.cells #[.string s,.string u,.int .i64 q,.int .i64 m,.bool f] 60)).alloc (by simp) (.cells #[] 60)).drew)
         have HXc:Hid (five (((w7.alloc (.cells #[.string s,.string u,.int .i64 q,.int .i64 m,.bool f] 60)).alloc (.cells #[] 60)).drew) w7.heap.size 0 s u q m f):=hidIt ⟨by simp,by simp,by simp,by simp,by simp⟩
         have HMd:=hidIt (HM7.out.kept B9a.out)
         have B9z:=hidIt (((Below.refl w7.heap.size w7).alloc (Nat.le_refl _) (.cells #[.string s,.string u,.int .i64 q,.int .i64 m,.bool f] 60)).drew)
         have HMa:=hidIt (HM7.out.kept B8a.out)
         have hf:=HF7.out
         have S0:five w7.drew b (off+i*5) s u q m f:=hf
         have S1:five (w7.alloc (.cells #[] 60)).drew b (off+i*5) s u q m f:=five_kept B8a.out hf
         have S2:five ((w7.alloc (.cells #[] 60)).alloc (.cells #[.string s,.string u,.int .i64 q,.int .i64 m,.bool f] 60)).drew b (off+i*5) s u q m f:=five_kept B8a'.out hf
         have S3:five ((w7.alloc (.cells #[.string s,.string u,.int .i64 q,.int .i64 m,.bool f] 60)).alloc (.cells #[] 60)).drew b (off+i*5) s u q m f:=five_kept B9a.out hf
         have S4:five (w7.alloc (.cells #[.string s,.string u,.int .i64 q,.int .i64 m,.bool f] 60)).drew b (off+i*5) s u q m f:=five_kept B9z.out hf
         have hkc1:(k:Int)<=(cp:Int):=by omega
         have hkc2:(0:Int)<=(k:Int):=by omega
         go_region_held3 (fun w'=>five w' b (off+i*5) s u q m f)
          (first | (with_reducible assumption) | (with_reducible exact five_kept B8.out hf) | (with_reducible exact five_kept (B8.out.alloc B8.out.size _) hf) | (with_reducible exact five_kept B9.out hf) | (with_reducible exact five_kept B10.out hf) | (trace_state;fail))
          (first
          | (refine step_append (by rfl) (.tmp 75) (.tmp 78) (by rfl) w7.heap.size (.slice (some ⟨w7.heap.size,0,none⟩) 0 0) [] (M.take k) (by simp[Act.eval]) HE8.out ⟨g,0,none⟩ k cp HTl.out (by simp[Act.eval]<;>omega) (HMa.out.front k (by rw[HML.out];omega)) (by simp;omega) (by simp) ?_;intro v8 w8 o8 gr8 nil8;have B8:=hidIt (B8a.out.grown gr8 (by simp) (fun z hz=>by simp[Value.ownBlock] at hz;omega));have HO8:=hidIt o8;clear o8 gr8)
          | (refine step_append (by rfl) (.tmp 75) (.tmp 78) (by rfl) w7.heap.size (.slice (some ⟨w7.heap.size,0,none⟩) 0 0) [] (M.take k) (by simp[Act.eval]) HE8'.out ⟨g,0,none⟩ k cp HTl.out (by simp[Act.eval]<;>omega) (HMa'.out.front k (by rw[HML.out];omega)) (by simp;omega) (by simp;omega) ?_;intro v8 w8 o8 gr8 nil8;have HXb:Hid (five w8 (w7.heap.size+1) 0 s u q m f):=hidIt (five_grown gr8 HXa.out (by simp[Value.ownBlock]));have B8:=hidIt (B8a'.out.grown gr8 (by simp;omega) (fun z hz=>by simp[Value.ownBlock] at hz;omega));have HO8:=hidIt o8;clear o8 gr8)
          | (refine step_append (by rfl) (.tmp 75) (.tmp 78) (by rfl) w7.heap.size (.slice (some ⟨w7.heap.size+1,0,none⟩) 0 0) [] (M.take k) (by simp[Act.eval]) HE9.out ⟨g,0,none⟩ k cp HTl.out (by simp[Act.eval]<;>omega) (HMd.out.front k (by rw[HML.out];omega)) (by simp;omega) (by simp;omega) ?_;intro v8 w8 o8 gr8 nil8;have HXd:Hid (five w8 w7.heap.size 0 s u q m f):=hidIt (five_grown gr8 HXc.out (by simp[Value.ownBlock]));have B8:=hidIt (B9a.out.grown gr8 (by simp;omega) (fun z hz=>by simp[Value.ownBlock] at hz;omega));have HO8:=hidIt o8;clear o8 gr8)
          | (refine step_append (by rfl) (.tmp 79) (.tmp 84) (by rfl) w7.heap.size v8 (M.take k) [(s,u,q,m,f)] (by simp[Act.eval]) (HO8.out.alloc _) ⟨w8.heap.size,0,none⟩ 1 1 rfl (by simp[Act.eval]) (fresh w8 (s,u,q,m,f) 60) (by rw[HTl.out];omega) (by have:=B8.out.size;simp;omega) ?_;intro v9 w9 o9 gr9 nil9;have B9:=hidIt ((B8.out.alloc B8.out.size (.cells #[.string s,.string u,.int .i64 q,.int .i64 m,.bool f] 60)).grown gr9 (by have:=B8.out.size;simp;omega) (fun z hz=>(World.ownsRow.lt HO8.out z hz).1));have HO9:=hidIt o9;have HMc:=hidIt (HO7.out.kept B9.out);clear o9 gr9)
          | (refine step_append (by rfl) (.tmp 79) (.tmp 84) (by rfl) w7.heap.size v8 (M.take k) [(s,u,q,m,f)] (by simp[Act.eval]) HO8.out ⟨w7.heap.size+1,0,none⟩ 1 1 rfl (by simp[Act.eval]) (five_rd HXb.out).cells (by rw[HTl.out];omega) B8.out.size ?_;intro v9 w9 o9 gr9 nil9;have B9:=hidIt (B8.out.grown gr9 B8.out.size (fun z hz=>(World.ownsRow.lt HO8.out z hz).1));have HO9:=hidIt o9;have HMc:=hidIt (HO7.out.kept B9.out);clear o9 gr9)
          | (refine step_append (by rfl) (.tmp 79) (.tmp 84) (by rfl) w7.heap.size v8 (M.take k) [(s,u,q,m,f)] (by simp[Act.eval]) HO8.out ⟨w7.heap.size,0,none⟩ 1 1 rfl (by simp[Act.eval]) (five_rd HXd.out).cells (by rw[HTl.out];omega) B8.out.size ?_;intro v9 w9 o9 gr9 nil9;have B9:=hidIt (B8.out.grown gr9 B8.out.size (fun z hz=>(World.ownsRow.lt HO8.out z hz).1));have HO9:=hidIt o9;have HMc:=hidIt (HO7.out.kept B9.out);clear o9 gr9)
          | (refine step_append (by rfl) (.tmp 85) (.tmp 86) (by rfl) w7.heap.size v9 (M.take k++[(s,u,q,m,f)]) (M.drop k) (by simp[Act.eval]) HO9.out ⟨g7,0,none⟩ (mm - k) c7 HDl.out (by simp[Act.eval]) (by have:=HMc.out.front (mm - k) (by rw[HDl.out];exact Nat.le_refl _);rw[<- HDl.out,List.take_length] at this;exact this) (by rw[List.length_append,HTl.out];simp;omega) B9.out.size ?_;intro v10 w10 o10 gr10 nil10;have B10:=hidIt (B9.out.grown gr10 B9.out.size (fun z hz=>(World.ownsRow.lt HO9.out z hz).1));have HO10:=hidIt o10;have N10:=hidIt nil10;have N9:=hidIt nil9;have N8:=hidIt nil8;clear o10 gr10 nil10 nil9 nil8))
         all_goals
          have hv10:v10≠.slice none 0 0:=fun e=>by
           have h9:=(N10.out.1 e).1
           have:=(N9.out.1 h9).2
           omega
          obtain⟨g10,c10,ev10,h10c,h10m,h10b,h10l⟩:=HO10.out.some_form hv10
          subst ev10
          have HO11:=hidIt (HO10.out.mono (b':=w.heap.size) HB7.out.size)
          have HB11:=hidIt (HB7.out.trans (B10.out.mono HB7.out.size))
          have hlen:(M.take k++[(s,u,q,m,f)]++M.drop k).length=mm+1:=by rw[List.length_append,List.length_append,HTl.out,HDl.out];simp;omega
          have HLn:=hidIt hlen
          clear N10 N9 N8 HO10 hv10 hf S0 S1 S2 S3 S4 hlen
          go_wp2_with (fail)
          exact⟨⟨i+1,M.take k++[(s,u,q,m,f)]++M.drop k,g10,c10,by simp,rfl,by omega,h10c,h10m,by rw[HLn.out];omega,HO11,hidIt (by rw[List.append_assoc,List.singleton_append];exact HFI.out),HB11⟩,by simp[intOf];omega⟩
        ·
         have HPC:=hidIt (fun W (hO:Own W w.heap.size (.slice (some ⟨g,0,none⟩) mm cp) M)=>hO.piece k (by rw[HML.out];omega))
         go_wp2_with (first | (at_builtin;refine wpList_append_own _ rfl _ _ 29 rfl w.heap.size 60 i0 (.agg #[.string ByteArray.empty,.string ByteArray.empty,.int .i64 0,.int .i64 0,.bool false]) 5 56 Tryz.underlying29 hi0 hz0 hz1 hz2 rfl (by decide) _ 0 [] rfl HE2.out ⟨g,k*5,none⟩ _ _ (rcells (M.drop k)) rfl (by rw[rcells_length,HDl.out];try omega) (HPC.out _ (HO2.out.alloc _)) (rcells_one _) ?c3 ?c4 ?c5 ?_))
         case c3=>unfold maxLen;omega
         case c4=>omega
         case c5=>have:=HBw.out.size;simp;omega
         intro v7 w7 hown7 hgrow7 hnil7
         have W7:=hidIt (((Below.refl w2.heap.size w2).alloc (Nat.le_refl _) (.cells #[] 60)).grown hgrow7 (by simp) (fun z hz=>by simp[Value.ownBlock] at hz;omega))
         have HO7:Hid (Own w7 w.heap.size v7 (M.drop k)):=hidIt (by
          unfold Own
          rw[HDl.out]
          first | exact hown7 | (rw[Nat.zero_add,List.nil_append] at hown7;exact hown7))
         have hv7:v7≠.slice none 0 0:=by first | exact hnil7 | exact fun e=>by have:=(hnil7.1 e).1;cases this
         obtain⟨g7,c7,ev7,h7c,h7m,h7b,h7l⟩:=HO7.out.some_form hv7
         rw[HDl.out] at ev7 h7c
         subst ev7
         have HM7:=hidIt (HO2.out.kept W7.out)
         have HF7:=hidIt (five_kept W7.out HF2.out)
         have HB7:=hidIt (HBw.out.trans (W7.out.mono HBw.out.size))
         clear hown7 hgrow7 hnil7 hv7 HE2
         go_wp2_with (fail)
         have HE8:Hid (Own ((w7.alloc (.cells #[] 60)).drew) w7.heap.size (.slice (some ⟨w7.heap.size,0,none⟩) 0 0) []):=hidIt (Own.new w7).drew
         have B8a:=hidIt (((Below.refl w7.heap.size w7).alloc (Nat.le_refl _) (.cells #[] 60)).drew)
         have HE8':Hid (Own (((w7.alloc (.cells #[] 60)).alloc (.cells #[.string s,.string u,.int .i64 q,.int .i64 m,.bool f] 60)).drew) w7.heap.size (.slice (some ⟨w7.heap.size,0,none⟩) 0 0) []):=hidIt (((Own.new w7).alloc (.cells #[.string s,.string u,.int .i64 q,.int .i64 m,.bool f] 60)).drew)
         have B8a':=hidIt ((((Below.refl w7.heap.size w7).alloc (Nat.le_refl _) (.cells #[] 60)).alloc (by simp) (.cells #[.string s,.string u,.int .i64 q,.int .i64 m,.bool f] 60)).drew)
         have HXa:Hid (five (((w7.alloc (.cells #[] 60)).alloc (.cells #[.string s,.string u,.int .i64 q,.int .i64 m,.bool f] 60)).drew) (w7.heap.size+1) 0 s u q m f):=hidIt ⟨by simp,by simp,by simp,by simp,by simp⟩
         have HMa':=hidIt (HM7.out.kept B8a'.out)
         have HE9:Hid (Own (((w7.alloc (.cells #[.string s,.string u,.int .i64 q,.int .i64 m,.bool f] 60)).alloc (.cells #[] 60)).drew) w7.heap.size (.slice (some ⟨w7.heap.size+1,0,none⟩) 0 0) []):=hidIt (by have:=((Own.new (w7.alloc (.cells #[.string s,.string u,.int .i64 q,.int .i64 m,.bool f] 60))).mono (b':=w7.heap.size) (by simp)).drew;simpa using this)
         have B9a:=hidIt ((((Below.refl w7.heap.size w7).alloc (Nat.le_refl _) (.cells #[.string s,.string u,.int .i64 q,.int .i64 m,.bool f] 60)).alloc (by simp) (.cells #[] 60)).drew)
         have HXc:Hid (five (((w7.alloc (.cells #[.string s,.string u,.int .i64 q,.int .i64 m,.bool f] 60)).alloc (.cells #[] 60)).drew) w7.heap.size 0 s u q m f):=hidIt ⟨by simp,by simp,by simp,by simp,by simp⟩
         have HMd:=hidIt (HM7.out.kept B9a.out)
         have B9z:=hidIt (((Below.refl w7.heap.size w7).alloc (Nat.le_refl _) (.cells #[.string s,.string u,.int .i64 q,.int .i64 m,.bool f] 60)).drew)
         have HMa:=hidIt (HM7.out.kept B8a.out)
         have hf:=HF7.out
         have S0:five w7.drew b (off+i*5) s u q m f:=hf
         have S1:five (w7.alloc (.cells #[] 60)).drew b (off+i*5) s u q m f:=five_kept B8a.out hf
         have S2:five ((w7.alloc (.cells #[] 60)).alloc (.cells #[.string s,.string u,.int .i64 q,.int .i64 m,.bool f] 60)).drew b (off+i*5) s u q m f:=five_kept B8a'.out hf
         have S3:five ((w7.alloc (.cells #[.string s,.string u,.int .i64 q,.int .i64 m,.bool f] 60)).alloc (.cells #[] 60)).drew b (off+i*5) s u q m f:=five_kept B9a.out hf
         have S4:five (w7.alloc (.cells #[.string s,.string u,.int .i64 q,.int .i64 m,.bool f] 60)).drew b (off+i*5) s u q m f:=five_kept B9z.out hf
         have hkc1:(k:Int)<=(cp:Int):=by omega
         have hkc2:(0:Int)<=(k:Int):=by omega
         go_region_held3 (fun w'=>five w' b (off+i*5) s u q m f)
          (first | (with_reducible assumption) | (with_reducible exact five_kept B8.out hf) | (with_reducible exact five_kept (B8.out.alloc B8.out.size _) hf) | (with_reducible exact five_kept B9.out hf) | (with_reducible exact five_kept B10.out hf) | (trace_state;fail))
          (first
          | (refine step_append (by rfl) (.tmp 75) (.tmp 78) (by rfl) w7.heap.size (.slice (some ⟨w7.heap.size,0,none⟩) 0 0) [] (M.take k) (by simp[Act.eval]) HE8.out ⟨g,0,none⟩ k cp HTl.out (by simp[Act.eval]<;>omega) (HMa.out.front k (by rw[HML.out];omega)) (by simp;omega) (by simp) ?_;intro v8 w8 o8 gr8 nil8;have B8:=hidIt (B8a.out.grown gr8 (by simp) (fun z hz=>by simp[Value.ownBlock] at hz;omega));have HO8:=hidIt o8;clear o8 gr8)
          | (refine step_append (by rfl) (.tmp 75) (.tmp 78) (by rfl) w7.heap.size (.slice (some ⟨w7.heap.size,0,none⟩) 0 0) [] (M.take k) (by simp[Act.eval]) HE8'.out ⟨g,0,none⟩ k cp HTl.out (by simp[Act.eval]<;>omega) (HMa'.out.front k (by rw[HML.out];omega)) (by simp;omega) (by simp;omega) ?_;intro v8 w8 o8 gr8 nil8;have HXb:Hid (five w8 (w7.heap.size+1) 0 s u q m f):=hidIt (five_grown gr8 HXa.out (by simp[Value.ownBlock]));have B8:=hidIt (B8a'.out.grown gr8 (by simp;omega) (fun z hz=>by simp[Value.ownBlock] at hz;omega));have HO8:=hidIt o8;clear o8 gr8)
          | (refine step_append (by rfl) (.tmp 75) (.tmp 78) (by rfl) w7.heap.size (.slice (some ⟨w7.heap.size+1,0,none⟩) 0 0) [] (M.take k) (by simp[Act.eval]) HE9.out ⟨g,0,none⟩ k cp HTl.out (by simp[Act.eval]<;>omega) (HMd.out.front k (by rw[HML.out];omega)) (by simp;omega) (by simp;omega) ?_;intro v8 w8 o8 gr8 nil8;have HXd:Hid (five w8 w7.heap.size 0 s u q m f):=hidIt (five_grown gr8 HXc.out (by simp[Value.ownBlock]));have B8:=hidIt (B9a.out.grown gr8 (by simp;omega) (fun z hz=>by simp[Value.ownBlock] at hz;omega));have HO8:=hidIt o8;clear o8 gr8)
          | (refine step_append (by rfl) (.tmp 79) (.tmp 84) (by rfl) w7.heap.size v8 (M.take k) [(s,u,q,m,f)] (by simp[Act.eval]) (HO8.out.alloc _) ⟨w8.heap.size,0,none⟩ 1 1 rfl (by simp[Act.eval]) (fresh w8 (s,u,q,m,f) 60) (by rw[HTl.out];omega) (by have:=B8.out.size;simp;omega) ?_;intro v9 w9 o9 gr9 nil9;have B9:=hidIt ((B8.out.alloc B8.out.size (.cells #[.string s,.string u,.int .i64 q,.int .i64 m,.bool f] 60)).grown gr9 (by have:=B8.out.size;simp;omega) (fun z hz=>(World.ownsRow.lt HO8.out z hz).1));have HO9:=hidIt o9;have HMc:=hidIt (HO7.out.kept B9.out);clear o9 gr9)
          | (refine step_append (by rfl) (.tmp 79) (.tmp 84) (by rfl) w7.heap.size v8 (M.take k) [(s,u,q,m,f)] (by simp[Act.eval]) HO8.out ⟨w7.heap.size+1,0,none⟩ 1 1 rfl (by simp[Act.eval]) (five_rd HXb.out).cells (by rw[HTl.out];omega) B8.out.size ?_;intro v9 w9 o9 gr9 nil9;have B9:=hidIt (B8.out.grown gr9 B8.out.size (fun z hz=>(World.ownsRow.lt HO8.out z hz).1));have HO9:=hidIt o9;have HMc:=hidIt (HO7.out.kept B9.out);clear o9 gr9)
          | (refine step_append (by rfl) (.tmp 79) (.tmp 84) (by rfl) w7.heap.size v8 (M.take k) [(s,u,q,m,f)] (by simp[Act.eval]) HO8.out ⟨w7.heap.size,0,none⟩ 1 1 rfl (by simp[Act.eval]) (five_rd HXd.out).cells (by rw[HTl.out];omega) B8.out.size ?_;intro v9 w9 o9 gr9 nil9;have B9:=hidIt (B8.out.grown gr9 B8.out.size (fun z hz=>(World.ownsRow.lt HO8.out z hz).1));have HO9:=hidIt o9;have HMc:=hidIt (HO7.out.kept B9.out);clear o9 gr9)
          | (refine step_append (by rfl) (.tmp 85) (.tmp 86) (by rfl) w7.heap.size v9 (M.take k++[(s,u,q,m,f)]) (M.drop k) (by simp[Act.eval]) HO9.out ⟨g7,0,none⟩ (mm - k) c7 HDl.out (by simp[Act.eval]) (by have:=HMc.out.front (mm - k) (by rw[HDl.out];exact Nat.le_refl _);rw[<- HDl.out,List.take_length] at this;exact this) (by rw[List.length_append,HTl.out];simp;omega) B9.out.size ?_;intro v10 w10 o10 gr10 nil10;have B10:=hidIt (B9.out.grown gr10 B9.out.size (fun z hz=>(World.ownsRow.lt HO9.out z hz).1));have HO10:=hidIt o10;have N10:=hidIt nil10;have N9:=hidIt nil9;have N8:=hidIt nil8;clear o10 gr10 nil10 nil9 nil8))
         all_goals
          have hv10:v10≠.slice none 0 0:=fun e=>by
           have h9:=(N10.out.1 e).1
           have:=(N9.out.1 h9).2
           omega
          obtain⟨g10,c10,ev10,h10c,h10m,h10b,h10l⟩:=HO10.out.some_form hv10
          subst ev10
          have HO11:=hidIt (HO10.out.mono (b':=w.heap.size) HB7.out.size)
          have HB11:=hidIt (HB7.out.trans (B10.out.mono HB7.out.size))
          have hlen:(M.take k++[(s,u,q,m,f)]++M.drop k).length=mm+1:=by rw[List.length_append,List.length_append,HTl.out,HDl.out];simp;omega
          have HLn:=hidIt hlen
          clear N10 N9 N8 HO10 hv10 hf S0 S1 S2 S3 S4 hlen
          go_wp2_with (fail)
          exact⟨⟨i+1,M.take k++[(s,u,q,m,f)]++M.drop k,g10,c10,by simp,rfl,by omega,h10c,h10m,by rw[HLn.out];omega,HO11,hidIt (by rw[List.append_assoc,List.singleton_append];exact HFI.out),HB11⟩,by simp[intOf];omega⟩
     ·
      have hkm':¬ (k:Int)<(mm:Int):=by omega
      have HFI:=hidIt ((HJ.out k (by omega) HK.out (fun h=>by omega)).2.2 (fun h=>by omega))
      clear HJ
      go_wp2_with (fail)
      refine wp_region_below (by kernel_rfl) (by kernel_rfl) ?_
      repeat (go_big_quiet_step (fail))
      refine wpQuiet_nil ?_
      intro _ hw'
      obtain⟨pq,rfl⟩:=hw'
      have k1:=pq.h
      generalize pq.world=w1 at k1 ⊢
      have HB1:=hidIt (HBk.out.trans (k1.mono HBk.out.size))
      have HO1:=hidIt (HOk.out.kept k1)
      have HF1:=hidIt (five_kept HB1.out HF.out)
      haveI:=BelowBy.one w1
      clear g0 k1 x0 x1 x2 x3 x4 HOk
      go_wp2_with (fail)
      subst hQ1
      go_wp2_with (fail)
      refine wp_region_below (by kernel_rfl) (by kernel_rfl) ?_
      repeat (go_big_quiet_step (fail))
      refine wpQuiet_nil ?_
      intro _ hw'
      obtain⟨pq,rfl⟩:=hw'
      have k2:=pq.h
      generalize pq.world=w2 at k2 ⊢
      have HB2:=hidIt (HB1.out.trans (k2.mono HB1.out.size))
      have HO2:=hidIt (HO1.out.kept k2)
      have HF2:=hidIt (five_kept k2 HF1.out)
      have HBw:=hidIt (HB.out.trans (HB2.out.mono HB.out.size))
      have hkm2:(k:Int)<=(mm:Int):=by omega
      have hkle:k<=mm:=by omega
      clear k2
      have HTl:Hid ((M.take k).length=k):=hidIt (by rw[List.length_take,HML.out];omega)
      have HDl:Hid ((M.drop k).length=mm - k):=hidIt (by rw[List.length_drop,HML.out])
      have HE2:Hid ((w2.alloc (.cells #[] 60)).ownsRow w.heap.size 60 5 (.slice (some ⟨w2.heap.size,0,none⟩) 0 0) 0 []):=hidIt ((Own.new w2).mono HBw.out.size)
      by_cases hck:cp=k
      ·
       have HPC:=hidIt (fun W (hO:Own W w.heap.size (.slice (some ⟨g,0,none⟩) mm cp) M)=>show ∀ j u,(rcells (M.drop k))[j]?=some u->W.cell? ((⟨g,0,none⟩:Addr).add j)=some u from fun j u hj=>by
        have hd:M.drop k=[]:=List.length_eq_zero_iff.1 (by rw[HDl.out];omega)
        rw[hd] at hj
        simp[rcells] at hj)
       go_wp2_with (first | (at_builtin;refine wpList_append_own _ rfl _ _ 29 rfl w.heap.size 60 i0 (.agg #[.string ByteArray.empty,.string ByteArray.empty,.int .i64 0,.int .i64 0,.bool false]) 5 56 Tryz.underlying29 hi0 hz0 hz1 hz2 rfl (by decide) _ 0 [] rfl HE2.out ⟨g,0,none⟩ _ _ (rcells (M.drop k)) rfl (by rw[rcells_length,HDl.out];try omega) (HPC.out _ (HO2.out.alloc _)) (rcells_one _) ?c3 ?c4 ?c5 ?_))
       case c3=>unfold maxLen;omega
       case c4=>omega
       case c5=>have:=HBw.out.size;simp;omega
       intro v7 w7 hown7 hgrow7 hnil7
       have W7:=hidIt (((Below.refl w2.heap.size w2).alloc (Nat.le_refl _) (.cells #[] 60)).grown hgrow7 (by simp) (fun z hz=>by simp[Value.ownBlock] at hz;omega))
       have HO7:Hid (Own w7 w.heap.size v7 (M.drop k)):=hidIt (by
        unfold Own
        rw[HDl.out]
        first | exact hown7 | (rw[Nat.zero_add,List.nil_append] at hown7;exact hown7))
       have hv7:v7≠.slice none 0 0:=by first | exact hnil7 | exact fun e=>by have:=(hnil7.1 e).1;cases this
       obtain⟨g7,c7,ev7,h7c,h7m,h7b,h7l⟩:=HO7.out.some_form hv7
       rw[HDl.out] at ev7 h7c
       subst ev7
       have HM7:=hidIt (HO2.out.kept W7.out)
       have HF7:=hidIt (five_kept W7.out HF2.out)
       have HB7:=hidIt (HBw.out.trans (W7.out.mono HBw.out.size))
       clear hown7 hgrow7 hnil7 hv7 HE2
       go_wp2_with (fail)
       have HE8:Hid (Own ((w7.alloc (.cells #[] 60)).drew) w7.heap.size (.slice (some ⟨w7.heap.size,0,none⟩) 0 0) []):=hidIt (Own.new w7).drew
       have B8a:=hidIt (((Below.refl w7.heap.size w7).alloc (Nat.le_refl _) (.cells #[] 60)).drew)
       have HE8':Hid (Own (((w7.alloc (.cells #[] 60)).alloc (.cells #[.string s,.string u,.int .i64 q,.int .i64 m,.bool f] 60)).drew) w7.heap.size (.slice (some ⟨w7.heap.size,0,none⟩) 0 0) []):=hidIt (((Own.new w7).alloc (.cells #[.string s,.string u,.int .i64 q,.int .i64 m,.bool f] 60)).drew)
       have B8a':=hidIt ((((Below.refl w7.heap.size w7).alloc (Nat.le_refl _) (.cells #[] 60)).alloc (by simp) (.cells #[.string s,.string u,.int .i64 q,.int .i64 m,.bool f] 60)).drew)
       have HXa:Hid (five (((w7.alloc (.cells #[] 60)).alloc (.cells #[.string s,.string u,.int .i64 q,.int .i64 m,.bool f] 60)).drew) (w7.heap.size+1) 0 s u q m f):=hidIt ⟨by simp,by simp,by simp,by simp,by simp⟩
       have HMa':=hidIt (HM7.out.kept B8a'.out)
       have HE9:Hid (Own (((w7.alloc (.cells #[.string s,.string u,.int .i64 q,.int .i64 m,.bool f] 60)).alloc (.cells #[] 60)).drew) w7.heap.size (.slice (some ⟨w7.heap.size+1,0,none⟩) 0 0) []):=hidIt (by have:=((Own.new (w7.alloc (.cells #[.string s,.string u,.int .i64 q,.int .i64 m,.bool f] 60))).mono (b':=w7.heap.size) (by simp)).drew;simpa using this)
       have B9a:=hidIt ((((Below.refl w7.heap.size w7).alloc (Nat.le_refl _) (.cells #[.string s,.string u,.int .i64 q,.int .i64 m,.bool f] 60)).alloc (by simp) (.cells #[] 60)).drew)
       have HXc:Hid (five (((w7.alloc (.cells #[.string s,.string u,.int .i64 q,.int .i64 m,.bool f] 60)).alloc (.cells #[] 60)).drew) w7.heap.size 0 s u q m f):=hidIt ⟨by simp,by simp,by simp,by simp,by simp⟩
       have HMd:=hidIt (HM7.out.kept B9a.out)
       have B9z:=hidIt (((Below.refl w7.heap.size w7).alloc (Nat.le_refl _) (.cells #[.string s,.string u,.int .i64 q,.int .i64 m,.bool f] 60)).drew)
       have HMa:=hidIt (HM7.out.kept B8a.out)
       have hf:=HF7.out
       have S0:five w7.drew b (off+i*5) s u q m f:=hf
       have S1:five (w7.alloc (.cells #[] 60)).drew b (off+i*5) s u q m f:=five_kept B8a.out hf
       have S2:five ((w7.alloc (.cells #[] 60)).alloc (.cells #[.string s,.string u,.int .i64 q,.int .i64 m,.bool f] 60)).drew b (off+i*5) s u q m f:=five_kept B8a'.out hf
       have S3:five ((w7.alloc (.cells #[.string s,.string u,.int .i64 q,.int .i64 m,.bool f] 60)).alloc (.cells #[] 60)).drew b (off+i*5) s u q m f:=five_kept B9a.out hf
       have S4:five (w7.alloc (.cells #[.string s,.string u,.int .i64 q,.int .i64 m,.bool f] 60)).drew b (off+i*5) s u q m f:=five_kept B9z.out hf
       have hkc1:(k:Int)<=(cp:Int):=by omega
       have hkc2:(0:Int)<=(k:Int):=by omega
       go_region_held3 (fun w'=>five w' b (off+i*5) s u q m f)
        (first | (with_reducible assumption) | (with_reducible exact five_kept B8.out hf) | (with_reducible exact five_kept (B8.out.alloc B8.out.size _) hf) | (with_reducible exact five_kept B9.out hf) | (with_reducible exact five_kept B10.out hf) | (trace_state;fail))
        (first
        | (refine step_append (by rfl) (.tmp 75) (.tmp 78) (by rfl) w7.heap.size (.slice (some ⟨w7.heap.size,0,none⟩) 0 0) [] (M.take k) (by simp[Act.eval]) HE8.out ⟨g,0,none⟩ k cp HTl.out (by simp[Act.eval]<;>omega) (HMa.out.front k (by rw[HML.out];omega)) (by simp;omega) (by simp) ?_;intro v8 w8 o8 gr8 nil8;have B8:=hidIt (B8a.out.grown gr8 (by simp) (fun z hz=>by simp[Value.ownBlock] at hz;omega));have HO8:=hidIt o8;clear o8 gr8)
        | (refine step_append (by rfl) (.tmp 75) (.tmp 78) (by rfl) w7.heap.size (.slice (some ⟨w7.heap.size,0,none⟩) 0 0) [] (M.take k) (by simp[Act.eval]) HE8'.out ⟨g,0,none⟩ k cp HTl.out (by simp[Act.eval]<;>omega) (HMa'.out.front k (by rw[HML.out];omega)) (by simp;omega) (by simp;omega) ?_;intro v8 w8 o8 gr8 nil8;have HXb:Hid (five w8 (w7.heap.size+1) 0 s u q m f):=hidIt (five_grown gr8 HXa.out (by simp[Value.ownBlock]));have B8:=hidIt (B8a'.out.grown gr8 (by simp;omega) (fun z hz=>by simp[Value.ownBlock] at hz;omega));have HO8:=hidIt o8;clear o8 gr8)
        | (refine step_append (by rfl) (.tmp 75) (.tmp 78) (by rfl) w7.heap.size (.slice (some ⟨w7.heap.size+1,0,none⟩) 0 0) [] (M.take k) (by simp[Act.eval]) HE9.out ⟨g,0,none⟩ k cp HTl.out (by simp[Act.eval]<;>omega) (HMd.out.front k (by rw[HML.out];omega)) (by simp;omega) (by simp;omega) ?_;intro v8 w8 o8 gr8 nil8;have HXd:Hid (five w8 w7.heap.size 0 s u q m f):=hidIt (five_grown gr8 HXc.out (by simp[Value.ownBlock]));have B8:=hidIt (B9a.out.grown gr8 (by simp;omega) (fun z hz=>by simp[Value.ownBlock] at hz;omega));have HO8:=hidIt o8;clear o8 gr8)
        | (refine step_append (by rfl) (.tmp 79) (.tmp 84) (by rfl) w7.heap.size v8 (M.take k) [(s,u,q,m,f)] (by simp[Act.eval]) (HO8.out.alloc _) ⟨w8.heap.size,0,none⟩ 1 1 rfl (by simp[Act.eval]) (fresh w8 (s,u,q,m,f) 60) (by rw[HTl.out];omega) (by have:=B8.out.size;simp;omega) ?_;intro v9 w9 o9 gr9 nil9;have B9:=hidIt ((B8.out.alloc B8.out.size (.cells #[.string s,.string u,.int .i64 q,.int .i64 m,.bool f] 60)).grown gr9 (by have:=B8.out.size;simp;omega) (fun z hz=>(World.ownsRow.lt HO8.out z hz).1));have HO9:=hidIt o9;have HMc:=hidIt (HO7.out.kept B9.out);clear o9 gr9)
        | (refine step_append (by rfl) (.tmp 79) (.tmp 84) (by rfl) w7.heap.size v8 (M.take k) [(s,u,q,m,f)] (by simp[Act.eval]) HO8.out ⟨w7.heap.size+1,0,none⟩ 1 1 rfl (by simp[Act.eval]) (five_rd HXb.out).cells (by rw[HTl.out];omega) B8.out.size ?_;intro v9 w9 o9 gr9 nil9;have B9:=hidIt (B8.out.grown gr9 B8.out.size (fun z hz=>(World.ownsRow.lt HO8.out z hz).1));have HO9:=hidIt o9;have HMc:=hidIt (HO7.out.kept B9.out);clear o9 gr9)
        | (refine step_append (by rfl) (.tmp 79) (.tmp 84) (by rfl) w7.heap.size v8 (M.take k) [(s,u,q,m,f)] (by simp[Act.eval]) HO8.out ⟨w7.heap.size,0,none⟩ 1 1 rfl (by simp[Act.eval]) (five_rd HXd.out).cells (by rw[HTl.out];omega) B8.out.size ?_;intro v9 w9 o9 gr9 nil9;have B9:=hidIt (B8.out.grown gr9 B8.out.size (fun z hz=>(World.ownsRow.lt HO8.out z hz).1));have HO9:=hidIt o9;have HMc:=hidIt (HO7.out.kept B9.out);clear o9 gr9)
        | (refine step_append (by rfl) (.tmp 85) (.tmp 86) (by rfl) w7.heap.size v9 (M.take k++[(s,u,q,m,f)]) (M.drop k) (by simp[Act.eval]) HO9.out ⟨g7,0,none⟩ (mm - k) c7 HDl.out (by simp[Act.eval]) (by have:=HMc.out.front (mm - k) (by rw[HDl.out];exact Nat.le_refl _);rw[<- HDl.out,List.take_length] at this;exact this) (by rw[List.length_append,HTl.out];simp;omega) B9.out.size ?_;intro v10 w10 o10 gr10 nil10;have B10:=hidIt (B9.out.grown gr10 B9.out.size (fun z hz=>(World.ownsRow.lt HO9.out z hz).1));have HO10:=hidIt o10;have N10:=hidIt nil10;have N9:=hidIt nil9;have N8:=hidIt nil8;clear o10 gr10 nil10 nil9 nil8))
       all_goals
        have hv10:v10≠.slice none 0 0:=fun e=>by
         have h9:=(N10.out.1 e).1
         have:=(N9.out.1 h9).2
         omega
        obtain⟨g10,c10,ev10,h10c,h10m,h10b,h10l⟩:=HO10.out.some_form hv10
        subst ev10
        have HO11:=hidIt (HO10.out.mono (b':=w.heap.size) HB7.out.size)
        have HB11:=hidIt (HB7.out.trans (B10.out.mono HB7.out.size))
        have hlen:(M.take k++[(s,u,q,m,f)]++M.drop k).length=mm+1:=by rw[List.length_append,List.length_append,HTl.out,HDl.out];simp;omega
        have HLn:=hidIt hlen
        clear N10 N9 N8 HO10 hv10 hf S0 S1 S2 S3 S4 hlen
        go_wp2_with (fail)
        exact⟨⟨i+1,M.take k++[(s,u,q,m,f)]++M.drop k,g10,c10,by simp,rfl,by omega,h10c,h10m,by rw[HLn.out];omega,HO11,hidIt (by rw[List.append_assoc,List.singleton_append];exact HFI.out),HB11⟩,by simp[intOf];omega⟩
      ·
       have HPC:=hidIt (fun W (hO:Own W w.heap.size (.slice (some ⟨g,0,none⟩) mm cp) M)=>hO.piece k (by rw[HML.out];omega))
       go_wp2_with (first | (at_builtin;refine wpList_append_own _ rfl _ _ 29 rfl w.heap.size 60 i0 (.agg #[.string ByteArray.empty,.string ByteArray.empty,.int .i64 0,.int .i64 0,.bool false]) 5 56 Tryz.underlying29 hi0 hz0 hz1 hz2 rfl (by decide) _ 0 [] rfl HE2.out ⟨g,k*5,none⟩ _ _ (rcells (M.drop k)) rfl (by rw[rcells_length,HDl.out];try omega) (HPC.out _ (HO2.out.alloc _)) (rcells_one _) ?c3 ?c4 ?c5 ?_))
       case c3=>unfold maxLen;omega
       case c4=>omega
       case c5=>have:=HBw.out.size;simp;omega
       intro v7 w7 hown7 hgrow7 hnil7
       have W7:=hidIt (((Below.refl w2.heap.size w2).alloc (Nat.le_refl _) (.cells #[] 60)).grown hgrow7 (by simp) (fun z hz=>by simp[Value.ownBlock] at hz;omega))
       have HO7:Hid (Own w7 w.heap.size v7 (M.drop k)):=hidIt (by
        unfold Own
        rw[HDl.out]
        first | exact hown7 | (rw[Nat.zero_add,List.nil_append] at hown7;exact hown7))
       have hv7:v7≠.slice none 0 0:=by first | exact hnil7 | exact fun e=>by have:=(hnil7.1 e).1;cases this
       obtain⟨g7,c7,ev7,h7c,h7m,h7b,h7l⟩:=HO7.out.some_form hv7
       rw[HDl.out] at ev7 h7c
       subst ev7
       have HM7:=hidIt (HO2.out.kept W7.out)
       have HF7:=hidIt (five_kept W7.out HF2.out)
       have HB7:=hidIt (HBw.out.trans (W7.out.mono HBw.out.size))
       clear hown7 hgrow7 hnil7 hv7 HE2
       go_wp2_with (fail)
       have HE8:Hid (Own ((w7.alloc (.cells #[] 60)).drew) w7.heap.size (.slice (some ⟨w7.heap.size,0,none⟩) 0 0) []):=hidIt (Own.new w7).drew
       have B8a:=hidIt (((Below.refl w7.heap.size w7).alloc (Nat.le_refl _) (.cells #[] 60)).drew)
       have HE8':Hid (Own (((w7.alloc (.cells #[] 60)).alloc (.cells #[.string s,.string u,.int .i64 q,.int .i64 m,.bool f] 60)).drew) w7.heap.size (.slice (some ⟨w7.heap.size,0,none⟩) 0 0) []):=hidIt (((Own.new w7).alloc (.cells #[.string s,.string u,.int .i64 q,.int .i64 m,.bool f] 60)).drew)
       have B8a':=hidIt ((((Below.refl w7.heap.size w7).alloc (Nat.le_refl _) (.cells #[] 60)).alloc (by simp) (.cells #[.string s,.string u,.int .i64 q,.int .i64 m,.bool f] 60)).drew)
       have HXa:Hid (five (((w7.alloc (.cells #[] 60)).alloc (.cells #[.string s,.string u,.int .i64 q,.int .i64 m,.bool f] 60)).drew) (w7.heap.size+1) 0 s u q m f):=hidIt ⟨by simp,by simp,by simp,by simp,by simp⟩
       have HMa':=hidIt (HM7.out.kept B8a'.out)
       have HE9:Hid (Own (((w7.alloc (.cells #[.string s,.string u,.int .i64 q,.int .i64 m,.bool f] 60)).alloc (.cells #[] 60)).drew) w7.heap.size (.slice (some ⟨w7.heap.size+1,0,none⟩) 0 0) []):=hidIt (by have:=((Own.new (w7.alloc (.cells #[.string s,.string u,.int .i64 q,.int .i64 m,.bool f] 60))).mono (b':=w7.heap.size) (by simp)).drew;simpa using this)
       have B9a:=hidIt ((((Below.refl w7.heap.size w7).alloc (Nat.le_refl _) (.cells #[.string s,.string u,.int .i64 q,.int .i64 m,.bool f] 60)).alloc (by simp) (.cells #[] 60)).drew)
       have HXc:Hid (five (((w7.alloc (.cells #[.string s,.string u,.int .i64 q,.int .i64 m,.bool f] 60)).alloc (.cells #[] 60)).drew) w7.heap.size 0 s u q m f):=hidIt ⟨by simp,by simp,by simp,by simp,by simp⟩
       have HMd:=hidIt (HM7.out.kept B9a.out)
       have B9z:=hidIt (((Below.refl w7.heap.size w7).alloc (Nat.le_refl _) (.cells #[.string s,.string u,.int .i64 q,.int .i64 m,.bool f] 60)).drew)
       have HMa:=hidIt (HM7.out.kept B8a.out)
       have hf:=HF7.out
       have S0:five w7.drew b (off+i*5) s u q m f:=hf
       have S1:five (w7.alloc (.cells #[] 60)).drew b (off+i*5) s u q m f:=five_kept B8a.out hf
       have S2:five ((w7.alloc (.cells #[] 60)).alloc (.cells #[.string s,.string u,.int .i64 q,.int .i64 m,.bool f] 60)).drew b (off+i*5) s u q m f:=five_kept B8a'.out hf
       have S3:five ((w7.alloc (.cells #[.string s,.string u,.int .i64 q,.int .i64 m,.bool f] 60)).alloc (.cells #[] 60)).drew b (off+i*5) s u q m f:=five_kept B9a.out hf
       have S4:five (w7.alloc (.cells #[.string s,.string u,.int .i64 q,.int .i64 m,.bool f] 60)).drew b (off+i*5) s u q m f:=five_kept B9z.out hf
       have hkc1:(k:Int)<=(cp:Int):=by omega
       have hkc2:(0:Int)<=(k:Int):=by omega
       go_region_held3 (fun w'=>five w' b (off+i*5) s u q m f)
        (first | (with_reducible assumption) | (with_reducible exact five_kept B8.out hf) | (with_reducible exact five_kept (B8.out.alloc B8.out.size _) hf) | (with_reducible exact five_kept B9.out hf) | (with_reducible exact five_kept B10.out hf) | (trace_state;fail))
        (first
        | (refine step_append (by rfl) (.tmp 75) (.tmp 78) (by rfl) w7.heap.size (.slice (some ⟨w7.heap.size,0,none⟩) 0 0) [] (M.take k) (by simp[Act.eval]) HE8.out ⟨g,0,none⟩ k cp HTl.out (by simp[Act.eval]<;>omega) (HMa.out.front k (by rw[HML.out];omega)) (by simp;omega) (by simp) ?_;intro v8 w8 o8 gr8 nil8;have B8:=hidIt (B8a.out.grown gr8 (by simp) (fun z hz=>by simp[Value.ownBlock] at hz;omega));have HO8:=hidIt o8;clear o8 gr8)
        | (refine step_append (by rfl) (.tmp 75) (.tmp 78) (by rfl) w7.heap.size (.slice (some ⟨w7.heap.size,0,none⟩) 0 0) [] (M.take k) (by simp[Act.eval]) HE8'.out ⟨g,0,none⟩ k cp HTl.out (by simp[Act.eval]<;>omega) (HMa'.out.front k (by rw[HML.out];omega)) (by simp;omega) (by simp;omega) ?_;intro v8 w8 o8 gr8 nil8;have HXb:Hid (five w8 (w7.heap.size+1) 0 s u q m f):=hidIt (five_grown gr8 HXa.out (by simp[Value.ownBlock]));have B8:=hidIt (B8a'.out.grown gr8 (by simp;omega) (fun z hz=>by simp[Value.ownBlock] at hz;omega));have HO8:=hidIt o8;clear o8 gr8)
        | (refine step_append (by rfl) (.tmp 75) (.tmp 78) (by rfl) w7.heap.size (.slice (some ⟨w7.heap.size+1,0,none⟩) 0 0) [] (M.take k) (by simp[Act.eval]) HE9.out ⟨g,0,none⟩ k cp HTl.out (by simp[Act.eval]<;>omega) (HMd.out.front k (by rw[HML.out];omega)) (by simp;omega) (by simp;omega) ?_;intro v8 w8 o8 gr8 nil8;have HXd:Hid (five w8 w7.heap.size 0 s u q m f):=hidIt (five_grown gr8 HXc.out (by simp[Value.ownBlock]));have B8:=hidIt (B9a.out.grown gr8 (by simp;omega) (fun z hz=>by simp[Value.ownBlock] at hz;omega));have HO8:=hidIt o8;clear o8 gr8)
        | (refine step_append (by rfl) (.tmp 79) (.tmp 84) (by rfl) w7.heap.size v8 (M.take k) [(s,u,q,m,f)] (by simp[Act.eval]) (HO8.out.alloc _) ⟨w8.heap.size,0,none⟩ 1 1 rfl (by simp[Act.eval]) (fresh w8 (s,u,q,m,f) 60) (by rw[HTl.out];omega) (by have:=B8.out.size;simp;omega) ?_;intro v9 w9 o9 gr9 nil9;have B9:=hidIt ((B8.out.alloc B8.out.size (.cells #[.string s,.string u,.int .i64 q,.int .i64 m,.bool f] 60)).grown gr9 (by have:=B8.out.size;simp;omega) (fun z hz=>(World.ownsRow.lt HO8.out z hz).1));have HO9:=hidIt o9;have HMc:=hidIt (HO7.out.kept B9.out);clear o9 gr9)
        | (refine step_append (by rfl) (.tmp 79) (.tmp 84) (by rfl) w7.heap.size v8 (M.take k) [(s,u,q,m,f)] (by simp[Act.eval]) HO8.out ⟨w7.heap.size+1,0,none⟩ 1 1 rfl (by simp[Act.eval]) (five_rd HXb.out).cells (by rw[HTl.out];omega) B8.out.size ?_;intro v9 w9 o9 gr9 nil9;have B9:=hidIt (B8.out.grown gr9 B8.out.size (fun z hz=>(World.ownsRow.lt HO8.out z hz).1));have HO9:=hidIt o9;have HMc:=hidIt (HO7.out.kept B9.out);clear o9 gr9)
        | (refine step_append (by rfl) (.tmp 79) (.tmp 84) (by rfl) w7.heap.size v8 (M.take k) [(s,u,q,m,f)] (by simp[Act.eval]) HO8.out ⟨w7.heap.size,0,none⟩ 1 1 rfl (by simp[Act.eval]) (five_rd HXd.out).cells (by rw[HTl.out];omega) B8.out.size ?_;intro v9 w9 o9 gr9 nil9;have B9:=hidIt (B8.out.grown gr9 B8.out.size (fun z hz=>(World.ownsRow.lt HO8.out z hz).1));have HO9:=hidIt o9;have HMc:=hidIt (HO7.out.kept B9.out);clear o9 gr9)
        | (refine step_append (by rfl) (.tmp 85) (.tmp 86) (by rfl) w7.heap.size v9 (M.take k++[(s,u,q,m,f)]) (M.drop k) (by simp[Act.eval]) HO9.out ⟨g7,0,none⟩ (mm - k) c7 HDl.out (by simp[Act.eval]) (by have:=HMc.out.front (mm - k) (by rw[HDl.out];exact Nat.le_refl _);rw[<- HDl.out,List.take_length] at this;exact this) (by rw[List.length_append,HTl.out];simp;omega) B9.out.size ?_;intro v10 w10 o10 gr10 nil10;have B10:=hidIt (B9.out.grown gr10 B9.out.size (fun z hz=>(World.ownsRow.lt HO9.out z hz).1));have HO10:=hidIt o10;have N10:=hidIt nil10;have N9:=hidIt nil9;have N8:=hidIt nil8;clear o10 gr10 nil10 nil9 nil8))
       all_goals
        have hv10:v10≠.slice none 0 0:=fun e=>by
         have h9:=(N10.out.1 e).1
         have:=(N9.out.1 h9).2
         omega
        obtain⟨g10,c10,ev10,h10c,h10m,h10b,h10l⟩:=HO10.out.some_form hv10
        subst ev10
        have HO11:=hidIt (HO10.out.mono (b':=w.heap.size) HB7.out.size)
        have HB11:=hidIt (HB7.out.trans (B10.out.mono HB7.out.size))
        have hlen:(M.take k++[(s,u,q,m,f)]++M.drop k).length=mm+1:=by rw[List.length_append,List.length_append,HTl.out,HDl.out];simp;omega
        have HLn:=hidIt hlen
        clear N10 N9 N8 HO10 hv10 hf S0 S1 S2 S3 S4 hlen
        go_wp2_with (fail)
        exact⟨⟨i+1,M.take k++[(s,u,q,m,f)]++M.drop k,g10,c10,by simp,rfl,by omega,h10c,h10m,by rw[HLn.out];omega,HO11,hidIt (by rw[List.append_assoc,List.singleton_append];exact HFI.out),HB11⟩,by simp[intOf];omega⟩
   ·
    have hin':¬ (i:Int)<(lb:Int):=by omega
    have HI:Hid (i=lb):=hidIt (by omega)
    have HE:Hid (IsJoin (toB A) (toB B) (toB M)):=hidIt (by have:=HM.out;rw[HI.out,HSE.out] at this;exact this)
    go_wp2_with (fail)
    go_ret
    first | exact⟨_,M,rfl,(fun e=>by cases e),HO.out,HE.out,by omega,HB.out⟩ | exact⟨_,rfl,(fun e=>by cases e),M,HO.out,HE.out,by omega,HB.out⟩
end Go.Proofs.YtkeapmmochpcfaaGreat.En
