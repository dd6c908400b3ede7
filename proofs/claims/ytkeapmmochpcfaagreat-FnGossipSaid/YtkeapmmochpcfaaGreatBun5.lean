/- l12Merge of the specification. (Written out of BokJ by wip/mkMem.py.) -/
import Derived.Test.YtkeapmmochpcfaaGreatBun4
import Derived.Laws.AppendOwnNone
import Derived.Deep.RegionWith
import Derived.Deep.RegionHeld3
import Derived.Deep.Cut
import Derived.Deep.CutRange
import Derived.Test.YtkeapmmochpcfaaGreatBoxM
import Derived.Deep.LoopGhost
set_option maxRecDepth 100000
set_option maxHeartbeats 32000000
set_option linter.unusedVariables false
namespace Go.Proofs.YtkeapmmochpcfaaGreat.Mm
open Go.ChangeShapes Go.WideShapes Go.ChangeAt Go.RowKit
open Rc (BelowBy BelowBy.one wp_region_below calls_below calls_same)
open Mk (okE newB okBk look Ris IsJoin)
abbrev five (w:World) (b o:Nat) (s u q:Int):Prop:=w.cell? ⟨b,o,none⟩=some (.int .i64 s)∧w.cell? ⟨b,o+1,none⟩=some (.int .i64 u)∧w.cell? ⟨b,o+2,none⟩=some (.int .i64 q)
theorem five_kept {W w':World} {b o:Nat} {s u q:Int} (k:Below W.heap.size W w') (h:five W b o s u q):five w' b o s u q:=by
 obtain⟨h0,h1,h2⟩:=h
 exact⟨by rw[k.cell (by simpa using cell_block h0)];exact h0,by rw[k.cell (by simpa using cell_block h1)];exact h1,by rw[k.cell (by simpa using cell_block h2)];exact h2⟩
theorem five_rd {w:World} {b:Nat} {s u q:Int} (h:five w b 0 s u q):Rd w (some ⟨b,0,none⟩) [(s,u,q)] :=
 ⟨fun i hi=>by
  have hi0:i=0:=by simp at hi;omega
  subst hi0
  refine⟨b,0,rfl,fun j hj=>?_⟩
  obtain⟨h0,h1,h2⟩:=h
  match j,hj with
  | 0,_=>exact h0
  | 1,_=>exact h1
  | 2,_=>exact h2⟩
theorem five_grown {w w':World} {r:Option Nat} {b o:Nat} {s u q:Int} (k:w.grownBy w' r) (h:five w b o s u q) (hr:some b≠r):five w' b o s u q :=
 ⟨grown_cell1 k h.1 hr,grown_cell1 k h.2.1 hr,grown_cell1 k h.2.2 hr⟩
theorem spec_l12Merge (aA aB:Option Addr) (cA cB:Nat) (A B:List Rw) (w:World) (hA:Rd w aA A) (hB:Rd w aB B) (hnA:aA=none->cA=0) (rA:Ris (toB A)) (rB:Ris (toB B)) (hl:A.length+B.length<=900) :
  Calls Tryz.prog 63 #[.slice aA A.length cA,.slice aB B.length cB] w fun e w'=>∃ v J,e=.returned v∧v≠.slice none 0 0∧Own w' w.heap.size v J∧IsJoin (toB A) (toB B) (toB J)∧J.length<=A.length+B.length∧Below w.heap.size w w':=by
 obtain⟨i0,hi0,hz0,hz1,hz2⟩:=info_parts infoRw
 have HRA:=hidIt hA
 have HRB:=hidIt hB
 have HST:=hidIt (fun i M k hi h hk h1 h2=>join_step (A:=A) (B:=B) (M:=M) (i:=i) (k:=k) rB hi h hk h1 h2)
 have HS0:=hidIt (show IsJoin (toB A) ((toB B).take 0) (toB A) from by rw[List.take_zero];exact Mk.join_start rA)
 have HSE:Hid ((toB B).take B.length=toB B):=hidIt (by rw[<- toB_length,List.take_length])
 clear hA hB rA rB
 generalize hla:A.length=la at *
 generalize hlb:B.length=lb at *
 have HLA:=hidIt hla
 have HLB:=hidIt hlb
 clear hla hlb
 go_enter Tryz.func63,Tryz.ntmps63
 go_upto_region 1 with fail
 go_cut [5] from 9 (fun s5 wx=>∃ g cp:Nat,s5=.slice (some ⟨g,0,none⟩) la cp∧la<=cp∧cp<=9223372036854775807∧Hid (Own wx w.heap.size (.slice (some ⟨g,0,none⟩) la cp) A)∧Hid (Below w.heap.size w wx))
 case first =>
  cases aA with
  | none =>
   have e:=hnA rfl
   subst e
   have eA:=HRA.out.none_nil
   have e0:la=0:=by rw[<- HLA.out,eA];rfl
   subst e0
   go_wp2_with (first | (at_builtin;refine wpList_append_own_none rfl _ _ 30 rfl w.heap.size 62 i0 3 Tryz.underlying30 hi0 _ _ _ rfl (Own.new w) rfl ?_))
   go_wp2_with (fail)
   go_meet
   case rel=>exact⟨_,0,rfl,by omega,by omega,hidIt (by rw[eA];exact Own.new w),hidIt ((Below.refl _ w).alloc (Nat.le_refl _) _)⟩
  | some x =>
   have hx:∃ b off,x=⟨b,off,none⟩∨la=0:=by
    rcases Nat.eq_zero_or_pos la with h | h
    ·
     exact⟨0,0,.inr h⟩
    ·
     obtain⟨b,off,e,_⟩:=HRA.out.cell 0 (by rw[HLA.out];exact h)
     cases e
     exact⟨b,off,.inl rfl⟩
   have hcl:∀ W:World,Below w.heap.size w W->∀ j u,(rcells A)[j]?=some u->W.cell? (x.add j)=some u:=by
    intro W k j u hj
    obtain⟨b,off,h | h⟩:=hx
    ·
     subst h
     exact (HRA.out.kept k).cells j u hj
    ·
     have:A=[]:=List.length_eq_zero_iff.1 (HLA.out.trans h)
     rw[this] at hj
     simp[rcells] at hj
   have HCL:=hidIt hcl
   clear hx hcl
   go_wp2_with (first | (at_builtin;refine wpList_append_own _ rfl _ _ 30 rfl w.heap.size 62 i0 (.agg #[.int .i64 0,.int .i64 0,.int .i64 0]) 3 24 Tryz.underlying30 hi0 hz0 hz1 hz2 rfl (by decide) _ 0 [] rfl (Own.new w) x la _ (rcells A) rfl (by rw[rcells_length,HLA.out]) (HCL.out _ ((Below.refl _ w).alloc (Nat.le_refl _) _)) (rcells_one _) ?k1c3 ?k1c4 ?k1c5 ?_))
   case k1c3=>unfold maxLen;omega
   case k1c4=>omega
   intro v' w9 hown hgrow hnil
   have HO9:Hid (Own w9 w.heap.size v' A):=hidIt (by
    unfold Own
    rw[HLA.out]
    first | exact hown | (rw[Nat.zero_add,List.nil_append] at hown;exact hown))
   have HB9:=hidIt (((Below.refl w.heap.size w).alloc (Nat.le_refl _) (.cells #[] 62)).grown hgrow (by simp) (fun z hz=>by simp[Value.ownBlock] at hz;omega))
   have hv9:v'≠.slice none 0 0:=by first | exact hnil | exact fun e=>by have:=(hnil.1 e).1;cases this
   obtain⟨g9,c9,ev9,h9c,h9m,_,_⟩:=HO9.out.some_form hv9
   rw[HLA.out] at ev9 h9c
   subst ev9
   clear hown hgrow hnil hv9
   go_wp2_with (fail)
   go_meet
   case rel=>exact⟨g9,c9,rfl,h9c,h9m,HO9,HB9⟩
 case rest =>
  obtain⟨g0,cp0,rfl,hc0,hm0,HO0,HB0⟩:=hcut
  clear HRA hnA
  go_wp2_with (fail)
  go_loopw [5,6] (fun z y wx=>∃ (i:Nat) (M:List Rw) (g cp:Nat),y=.int .i64 i∧z=.slice (some ⟨g,0,none⟩) M.length cp∧i<=lb∧M.length<=cp∧cp<=9223372036854775807∧M.length<=la+i∧Hid (Own wx w.heap.size (.slice (some ⟨g,0,none⟩) M.length cp) M)∧Hid (IsJoin (toB A) ((toB B).take i) (toB M))∧Hid (Below w.heap.size w wx)) (fun _ y _=>(lb - intOf y).toNat)
  case atStart=>exact⟨0,A,g0,cp0,rfl,by rw[HLA.out],by omega,by rw[HLA.out];exact hc0,hm0,by rw[HLA.out];omega,hidIt (by rw[HLA.out];exact HO0.out),HS0,HB0⟩
  case round =>
   obtain⟨i,M,g,cp,rfl,rfl,hi,hmc,hcm,hml,HO,HM,HB⟩:=hrel
   clear HO0 HB0 hc0 hm0 HS0
   by_cases hin:i<lb
   ·
    have hin':(i:Int)<(lb:Int):=by omega
    obtain⟨b,off,ea,x0,x1,x2⟩:=(HRB.out.kept HB.out).all (i:=i) (by rw[HLB.out];exact hin)
    subst ea
    have HJ:=hidIt (fun k hk h1 h2=>HST.out i M k hin HM.out hk h1 h2)
    have hkb:Hid (kat B i=(rat B i).1):=hidIt rfl
    generalize rat B i=x at x0 x1 x2 HJ hkb
    generalize kat B i=kb at HJ hkb
    obtain⟨s,u,q⟩:=x
    simp only at x0 x1 x2 hkb
    have HF:Hid (five wr b (off+i*3) s u q):=hidIt ⟨x0,x1,x2⟩
    clear x0 x1 x2 HM
    generalize hmm:M.length=mm at *
    have HML:=hidIt hmm
    clear hmm
    generalize wr=wB at *
    go_wp2_with (fail)
    go_hide hQ1
    go_loopw [7] (fun y wx=>∃ k:Nat,y=.int .i64 k∧k<=mm∧Hid (∀ j,j<k->kat M j<kb)∧Hid (Below wB.heap.size wB wx)) (fun y _=>(mm - intOf y).toNat)
    case atStart=>exact⟨0,rfl,by omega,hidIt (fun j hj=>by omega),hidIt (Below.refl _ _)⟩
    case round =>
     obtain⟨k,rfl,hk,HK,HBk⟩:=hrel
     have HOk:=hidIt (HO.out.kept HBk.out)
     obtain⟨x0,x1,x2⟩:=five_kept HBk.out HF.out
     haveI:=BelowBy.one wr
     have g0:=fun p:BelowBy wr=>p.cell x0
     by_cases hkm:k<mm
     ·
      have hkm':(k:Int)<(mm:Int):=by omega
      have hd:decide ((k:Int)<(mm:Int))=true:=decide_eq_true hkm'
      have hkM:k<M.length:=by rw[HML.out];exact hkm
      have y0:=HOk.out.at hkM (j:=0) (by omega)
      have y1:=HOk.out.at hkM (j:=1) (by omega)
      have y2:=HOk.out.at hkM (j:=2) (by omega)
      simp only[rcell,Nat.add_zero] at y0 y1 y2
      have HV:=hidIt (show kat M k=(rat M k).1 from rfl)
      have HIk:=hidIt (HJ.out k (by omega) HK.out)
      have CNw:=hidIt (fun W=>spec_Stronger (s,u,q) (rat M k) W)
      generalize rat M k=y at y0 y1 y2 HV HIk CNw
      generalize hkM2:kat M k=km at HV HIk
      have HKM:=hidIt hkM2
      clear hkM2
      obtain⟨s',u',q'⟩:=y
      simp only[rv] at y0 y1 y2 HV CNw
      have f0:=fun p:BelowBy wr=>p.cell y0
      by_cases hlt:s'<s
      ·
       have hless:decide (s'<s)=true:=decide_eq_true hlt
       have hlt':Hid (km<kb):=hidIt (by rw[HV.out,hkb.out];exact hlt)
       clear hlt x0 x1 x2 y0 y1 y2
       go_wp2_with (fail)
       refine wp_region_below (by kernel_rfl) (by kernel_rfl) ?_
       repeat (go_big_quiet_step (fail))
       refine wpQuiet_nil ?_
       intro _ hw'
       obtain⟨pq,rfl⟩:=hw'
       have HB2:=hidIt (HBk.out.trans (pq.h.mono HBk.out.size))
       generalize pq.world=w2 at HB2 ⊢
       clear f0 g0
       go_wp2_with (fail)
       refine⟨⟨k+1,by simp,by omega,hidIt (fun j hj=>?_),HB2⟩,by simp[intOf];omega⟩
       rcases Nat.lt_or_ge j k with h' | h'
       ·
        exact HK.out j h'
       ·
        obtain rfl:j=k:=by omega
        rw[HKM.out]
        exact hlt'.out
      ·
       have hless:decide (s'<s)=false:=decide_eq_false hlt
       have hnl:Hid (¬ km<kb):=hidIt (by rw[HV.out,hkb.out];exact hlt)
       have HI2:=hidIt (HIk.out (fun _=>by first | exact hnl.out | exact Int.not_lt.1 hnl.out))
       clear hlt
       go_wp2_with (fail)
       refine wp_region_below (by kernel_rfl) (by kernel_rfl) ?_
       repeat (go_big_quiet_step (fail))
       refine wpQuiet_nil ?_
       intro _ hw'
       obtain⟨pq,rfl⟩:=hw'
       have k1:=pq.h
       generalize pq.world=w1 at k1 ⊢
       have HB1:=hidIt (HBk.out.trans (k1.mono HBk.out.size))
       have HO1:=hidIt (HOk.out.kept k1)
       have HF1:=hidIt (five_kept HB1.out HF.out)
       have HY1:Hid (five w1 g (k*3) s' u' q'):=hidIt (five_kept k1 ⟨y0,y1,y2⟩)
       clear f0 g0 k1 x0 x1 x2 y0 y1 y2 HOk hless
       obtain⟨z0,z1,z2⟩:=HF1.out
       obtain⟨y0,y1,y2⟩:=HY1.out
       haveI:=BelowBy.one w1
       have g0:=fun p:BelowBy w1=>p.cell z0
       have f0:=fun p:BelowBy w1=>p.cell y0
       by_cases hes:s'=s
       ·
        have heq:(s'==s)=true:=by simpa using hes
        have hek:Hid (km=kb):=hidIt (by rw[HV.out,hkb.out];exact hes)
        have g1:=fun p:BelowBy w1=>p.cell z1
        have g2:=fun p:BelowBy w1=>p.cell z2
        have f1:=fun p:BelowBy w1=>p.cell y1
        have f2:=fun p:BelowBy w1=>p.cell y2
        clear hes z0 z1 z2 y0 y1 y2
        go_wp2_with (fail)
        subst hQ1
        go_wp2_with (fail)
        refine wp_region_below (by kernel_rfl) (by kernel_rfl) ?_
        repeat (go_big_quiet_step (fail))
        refine wpQuiet_nil ?_
        intro _ hw'
        obtain⟨pq,rfl⟩:=hw'
        have k2:=pq.h
        generalize pq.world=w2 at k2 ⊢
        haveI:=BelowBy.one w2
        have g0':=fun p:BelowBy w2=>(g0 ⟨p.world,k2.trans (p.h.mono k2.size)⟩)
        have g1':=fun p:BelowBy w2=>(g1 ⟨p.world,k2.trans (p.h.mono k2.size)⟩)
        have g2':=fun p:BelowBy w2=>(g2 ⟨p.world,k2.trans (p.h.mono k2.size)⟩)
        have f0':=fun p:BelowBy w2=>(f0 ⟨p.world,k2.trans (p.h.mono k2.size)⟩)
        have f1':=fun p:BelowBy w2=>(f1 ⟨p.world,k2.trans (p.h.mono k2.size)⟩)
        have f2':=fun p:BelowBy w2=>(f2 ⟨p.world,k2.trans (p.h.mono k2.size)⟩)
        simp only at f0' f1' f2' g0' g1' g2'
        have HB2:=hidIt (HB1.out.trans (k2.mono HB1.out.size))
        have HO2:=hidIt (HO1.out.kept k2)
        have HF2:=hidIt (five_kept k2 HF1.out)
        clear f0 f1 f2 g0 g1 g2 k2
        obtain⟨nw,hnw⟩:∃ nw,newB (toE (s,u,q)) (toE (s',u',q'))=nw:=⟨_,rfl⟩
        rw[hnw] at CNw
        have HNW:=hidIt hnw
        clear hnw
        go_wp2_with (fail)
        refine wp_region_below (by kernel_rfl) (by kernel_rfl) ?_
        repeat (go_big_quiet_step (first | (go_at_call 98;refine calls_below (CNw.out _))))
        refine wpQuiet_nil ?_
        intro _ hw'
        obtain⟨pq,rfl⟩:=hw'
        have k3:=pq.h
        generalize pq.world=w3 at k3 ⊢
        have HB3:=hidIt (HB2.out.trans (k3.mono HB2.out.size))
        have HO3:=hidIt (HO2.out.kept k3)
        have HF3:=hidIt (five_kept k3 HF2.out)
        clear f0' f1' f2' g0' g1' g2' k3
        have HB3w:=hidIt (HB.out.trans (HB3.out.mono HB.out.size))
        have hkM3:k<M.length:=by rw[HML.out];exact hkm
        cases nw with
        | false =>
         go_wp2_with (fail)
         exact⟨⟨i+1,M,g,cp,by simp,by rw[HML.out],by omega,by rw[HML.out];exact hmc,hcm,by rw[HML.out];omega,hidIt (by rw[HML.out];exact HO3.out),hidIt ((HI2.out).2.1 hkm hek.out HNW.out),HB3w⟩,by simp[intOf];omega⟩
        | true =>
         obtain⟨z0,z1,z2⟩:=HF3.out
         have y0:=HO3.out.at hkM3 (j:=0) (by omega)
         have y1:=HO3.out.at hkM3 (j:=1) (by omega)
         have y2:=HO3.out.at hkM3 (j:=2) (by omega)
         simp only[rcell,Nat.add_zero] at y0 y1 y2
         have q0:=HO3.out.free (k*3)
         have q1:=HO3.out.free (k*3+1)
         have q2:=HO3.out.free (k*3+2)
         have HO4:=hidIt (HO3.out.whole hkM3 (s,u,q))
         have hgB:w.heap.size<=g:=by obtain⟨cur,h,_⟩:=own_row HO3.out;exact h
         have HB4:=hidIt (((HB3w.out.setCell (p:=⟨g,k*3,none⟩) hgB (.int .i64 s)).setCell (p:=⟨g,k*3+1,none⟩) hgB (.int .i64 u)).setCell (p:=⟨g,k*3+2,none⟩) hgB (.int .i64 q))
         go_wp2_with (fail)
         exact⟨⟨i+1,M.set k (s,u,q),g,cp,by simp,by rw[List.length_set,HML.out],by omega,by rw[List.length_set,HML.out];exact hmc,hcm,by rw[List.length_set,HML.out];omega,hidIt (by rw[List.length_set,HML.out];exact HO4.out),hidIt ((HI2.out).1 hkm hek.out HNW.out),HB4⟩,by simp[intOf];omega⟩
       ·
        have heq:(s'==s)=false:=by simpa using hes
        have hnk:Hid (km≠kb):=hidIt (by rw[HV.out,hkb.out];exact hes)
        have HFI:=hidIt ((HI2.out).2.2 (fun _=>hnk.out))
        clear hes z0 z1 z2 y0 y1 y2 HI2 HIk HJ
        go_wp2_with (fail)
        subst hQ1
        go_wp2_with (fail)
        refine wp_region_below (by kernel_rfl) (by kernel_rfl) ?_
        repeat (go_big_quiet_step (fail))
        refine wpQuiet_nil ?_
        intro _ hw'
        obtain⟨pq,rfl⟩:=hw'
        have k2:=pq.h
        generalize pq.world=w2 at k2 ⊢
        have HB2:=hidIt (HB1.out.trans (k2.mono HB1.out.size))
        have HO2:=hidIt (HO1.out.kept k2)
        have HF2:=hidIt (five_kept k2 HF1.out)
        have HBw:=hidIt (HB.out.trans (HB2.out.mono HB.out.size))
        have hkm2:(k:Int)<=(mm:Int):=by omega
        have hkle:k<=mm:=by omega
        clear k2 f0 g0
        have HTl:Hid ((M.take k).length=k):=hidIt (by rw[List.length_take,HML.out];omega)
        have HDl:Hid ((M.drop k).length=mm - k):=hidIt (by rw[List.length_drop,HML.out])
        have HE2:Hid ((w2.alloc (.cells #[] 62)).ownsRow w.heap.size 62 3 (.slice (some ⟨w2.heap.size,0,none⟩) 0 0) 0 []):=hidIt ((Own.new w2).mono HBw.out.size)
        by_cases hck:cp=k
        ·
         have HPC:=hidIt (fun W (hO:Own W w.heap.size (.slice (some ⟨g,0,none⟩) mm cp) M)=>show ∀ j u,(rcells (M.drop k))[j]?=some u->W.cell? ((⟨g,0,none⟩:Addr).add j)=some u from fun j u hj=>by
          have hd:M.drop k=[]:=List.length_eq_zero_iff.1 (by rw[HDl.out];omega)
          rw[hd] at hj
          simp[rcells] at hj)
         go_wp2_with (first | (at_builtin;refine wpList_append_own _ rfl _ _ 30 rfl w.heap.size 62 i0 (.agg #[.int .i64 0,.int .i64 0,.int .i64 0]) 3 24 Tryz.underlying30 hi0 hz0 hz1 hz2 rfl (by decide) _ 0 [] rfl HE2.out ⟨g,0,none⟩ _ _ (rcells (M.drop k)) rfl (by rw[rcells_length,HDl.out];try omega) (HPC.out _ (HO2.out.alloc _)) (rcells_one _) ?k2c3 ?k2c4 ?k2c5 ?_))
         case k2c3=>unfold maxLen;omega
         case k2c4=>omega
         case k2c5=>have:=HBw.out.size;simp;omega
         intro v7 w7 hown7 hgrow7 hnil7
         have W7:=hidIt (((Below.refl w2.heap.size w2).alloc (Nat.le_refl _) (.cells #[] 62)).grown hgrow7 (by simp) (fun z hz=>by simp[Value.ownBlock] at hz;omega))
         have HO7:Hid (Own w7 w.heap.size v7 (M.drop k)):=hidIt (by
          unfold Own
          rw[HDl.out]
          first | exact hown7 | (rw[Nat.zero_add,List.nil_append] at hown7;exact hown7))
         have hv7:v7≠.slice none 0 0:=by first | exact hnil7 | exact fun e=>by have:=(hnil7.1 e).1;cases this
         obtain⟨g7,c7,ev7,h7c,h7m,h7b,h7l⟩:=HO7.out.some_form hv7
         rw[HDl.out] at ev7 h7c
         subst ev7
         have HM7:=hidIt (HO2.out.kept W7.out)
         have HF7:=hidIt (five_kept W7.out HF2.out)
         have HB7:=hidIt (HBw.out.trans (W7.out.mono HBw.out.size))
         clear hown7 hgrow7 hnil7 hv7 HE2
         go_wp2_with (fail)
         have HE8:Hid (Own ((w7.alloc (.cells #[] 62)).drew) w7.heap.size (.slice (some ⟨w7.heap.size,0,none⟩) 0 0) []):=hidIt (Own.new w7).drew
         have B8a:=hidIt (((Below.refl w7.heap.size w7).alloc (Nat.le_refl _) (.cells #[] 62)).drew)
         have HE8':Hid (Own (((w7.alloc (.cells #[] 62)).alloc (.cells #[.int .i64 s,.int .i64 u,.int .i64 q] 62)).drew) w7.heap.size (.slice (some ⟨w7.heap.size,0,none⟩) 0 0) []):=hidIt (((Own.new w7).alloc (.cells #[.int .i64 s,.int .i64 u,.int .i64 q] 62)).drew)
         have B8a':=hidIt ((((Below.refl w7.heap.size w7).alloc (Nat.le_refl _) (.cells #[] 62)).alloc (by simp) (.cells #[.int .i64 s,.int .i64 u,.int .i64 q] 62)).drew)
         have HXa:Hid (five (((w7.alloc (.cells #[] 62)).alloc (.cells #[.int .i64 s,.int .i64 u,.int .i64 q] 62)).drew) (w7.heap.size+1) 0 s u q):=hidIt ⟨by simp,by simp,by simp⟩
         have HMa':=hidIt (HM7.out.kept B8a'.out)
         have HE9:Hid (Own (((w7.alloc (.cells #[.int .i64 s,.int .i64 u,.int .i64 q] 62)).alloc (.cells #[] 62)).drew) w7.heap.size (.slice (some ⟨w7.heap.size+1,0,none⟩) 0 0) []):=hidIt (by have:=((Own.new (w7.alloc (.cells #[.int .i64 s,.int .i64 u,.int .i64 q] 62))).mono (b':=w7.heap.size) (by simp)).drew;simpa using this)
         have B9a:=hidIt ((((Below.refl w7.heap.size w7).alloc (Nat.le_refl _) (.cells #[.int .i64 s,.int .i64 u,.int .i64 q] 62)).alloc (by simp) (.cells #[] 62)).drew)
         have HXc:Hid (five (((w7.alloc (.cells #[.int .i64 s,.int .i64 u,.int .i64 q] 62)).alloc (.cells #[] 62)).drew) w7.heap.size 0 s u q):=hidIt ⟨by simp,by simp,by simp⟩
         have HMd:=hidIt (HM7.out.kept B9a.out)
         have B9z:=hidIt (((Below.refl w7.heap.size w7).alloc (Nat.le_refl _) (.cells #[.int .i64 s,.int .i64 u,.int .i64 q] 62)).drew)
         have HMa:=hidIt (HM7.out.kept B8a.out)
         have hf:=HF7.out
         have S0:five w7.drew b (off+i*3) s u q:=hf
         have S1:five (w7.alloc (.cells #[] 62)).drew b (off+i*3) s u q:=five_kept B8a.out hf
         have S2:five ((w7.alloc (.cells #[] 62)).alloc (.cells #[.int .i64 s,.int .i64 u,.int .i64 q] 62)).drew b (off+i*3) s u q:=five_kept B8a'.out hf
         have S3:five ((w7.alloc (.cells #[.int .i64 s,.int .i64 u,.int .i64 q] 62)).alloc (.cells #[] 62)).drew b (off+i*3) s u q:=five_kept B9a.out hf
         have S4:five (w7.alloc (.cells #[.int .i64 s,.int .i64 u,.int .i64 q] 62)).drew b (off+i*3) s u q:=five_kept B9z.out hf
         have hkc1:(k:Int)<=(cp:Int):=by omega
         have hkc2:(0:Int)<=(k:Int):=by omega
         go_region_held3 (fun w'=>five w' b (off+i*3) s u q)
          (first | (with_reducible assumption) | (with_reducible exact five_kept B8.out hf) | (with_reducible exact five_kept (B8.out.alloc B8.out.size _) hf) | (with_reducible exact five_kept B9.out hf) | (with_reducible exact five_kept B10.out hf) | (trace_state;fail))
          (first
          | (refine step_append (by rfl) (.tmp 75) (.tmp 78) (by rfl) w7.heap.size (.slice (some ⟨w7.heap.size,0,none⟩) 0 0) [] (M.take k) (by simp[Act.eval]) HE8.out ⟨g,0,none⟩ k cp HTl.out (by simp[Act.eval]<;>omega) (HMa.out.front k (by rw[HML.out];omega)) (by simp;omega) (by simp) ?_;intro v8 w8 o8 gr8 nil8;have B8:=hidIt (B8a.out.grown gr8 (by simp) (fun z hz=>by simp[Value.ownBlock] at hz;omega));have HO8:=hidIt o8;clear o8 gr8)
          | (refine step_append (by rfl) (.tmp 75) (.tmp 78) (by rfl) w7.heap.size (.slice (some ⟨w7.heap.size,0,none⟩) 0 0) [] (M.take k) (by simp[Act.eval]) HE8'.out ⟨g,0,none⟩ k cp HTl.out (by simp[Act.eval]<;>omega) (HMa'.out.front k (by rw[HML.out];omega)) (by simp;omega) (by simp;omega) ?_;intro v8 w8 o8 gr8 nil8;have HXb:Hid (five w8 (w7.heap.size+1) 0 s u q):=hidIt (five_grown gr8 HXa.out (by simp[Value.ownBlock]));have B8:=hidIt (B8a'.out.grown gr8 (by simp;omega) (fun z hz=>by simp[Value.ownBlock] at hz;omega));have HO8:=hidIt o8;clear o8 gr8)
          | (refine step_append (by rfl) (.tmp 75) (.tmp 78) (by rfl) w7.heap.size (.slice (some ⟨w7.heap.size+1,0,none⟩) 0 0) [] (M.take k) (by simp[Act.eval]) HE9.out ⟨g,0,none⟩ k cp HTl.out (by simp[Act.eval]<;>omega) (HMd.out.front k (by rw[HML.out];omega)) (by simp;omega) (by simp;omega) ?_;intro v8 w8 o8 gr8 nil8;have HXd:Hid (five w8 w7.heap.size 0 s u q):=hidIt (five_grown gr8 HXc.out (by simp[Value.ownBlock]));have B8:=hidIt (B9a.out.grown gr8 (by simp;omega) (fun z hz=>by simp[Value.ownBlock] at hz;omega));have HO8:=hidIt o8;clear o8 gr8)
          | (refine step_append (by rfl) (.tmp 79) (.tmp 84) (by rfl) w7.heap.size v8 (M.take k) [(s,u,q)] (by simp[Act.eval]) (HO8.out.alloc _) ⟨w8.heap.size,0,none⟩ 1 1 rfl (by simp[Act.eval]) (fresh w8 (s,u,q) 62) (by rw[HTl.out];omega) (by have:=B8.out.size;simp;omega) ?_;intro v9 w9 o9 gr9 nil9;have B9:=hidIt ((B8.out.alloc B8.out.size (.cells #[.int .i64 s,.int .i64 u,.int .i64 q] 62)).grown gr9 (by have:=B8.out.size;simp;omega) (fun z hz=>(World.ownsRow.lt HO8.out z hz).1));have HO9:=hidIt o9;have HMc:=hidIt (HO7.out.kept B9.out);clear o9 gr9)
          | (refine step_append (by rfl) (.tmp 79) (.tmp 84) (by rfl) w7.heap.size v8 (M.take k) [(s,u,q)] (by simp[Act.eval]) HO8.out ⟨w7.heap.size+1,0,none⟩ 1 1 rfl (by simp[Act.eval]) (five_rd HXb.out).cells (by rw[HTl.out];omega) B8.out.size ?_;intro v9 w9 o9 gr9 nil9;have B9:=hidIt (B8.out.grown gr9 B8.out.size (fun z hz=>(World.ownsRow.lt HO8.out z hz).1));have HO9:=hidIt o9;have HMc:=hidIt (HO7.out.kept B9.out);clear o9 gr9)
          | (refine step_append (by rfl) (.tmp 79) (.tmp 84) (by rfl) w7.heap.size v8 (M.take k) [(s,u,q)] (by simp[Act.eval]) HO8.out ⟨w7.heap.size,0,none⟩ 1 1 rfl (by simp[Act.eval]) (five_rd HXd.out).cells (by rw[HTl.out];omega) B8.out.size ?_;intro v9 w9 o9 gr9 nil9;have B9:=hidIt (B8.out.grown gr9 B8.out.size (fun z hz=>(World.ownsRow.lt HO8.out z hz).1));have HO9:=hidIt o9;have HMc:=hidIt (HO7.out.kept B9.out);clear o9 gr9)
          | (refine step_append (by rfl) (.tmp 85) (.tmp 86) (by rfl) w7.heap.size v9 (M.take k++[(s,u,q)]) (M.drop k) (by simp[Act.eval]) HO9.out ⟨g7,0,none⟩ (mm - k) c7 HDl.out (by simp[Act.eval]) (by have:=HMc.out.front (mm - k) (by rw[HDl.out];exact Nat.le_refl _);rw[<- HDl.out,List.take_length] at this;exact this) (by rw[List.length_append,HTl.out];simp;omega) B9.out.size ?_;intro v10 w10 o10 gr10 nil10;have B10:=hidIt (B9.out.grown gr10 B9.out.size (fun z hz=>(World.ownsRow.lt HO9.out z hz).1));have HO10:=hidIt o10;have N10:=hidIt nil10;have N9:=hidIt nil9;have N8:=hidIt nil8;clear o10 gr10 nil10 nil9 nil8))
         all_goals
          have hv10:v10≠.slice none 0 0:=fun e=>by
           have h9:=(N10.out.1 e).1
           have:=(N9.out.1 h9).2
           omega
          obtain⟨g10,c10,ev10,h10c,h10m,h10b,h10l⟩:=HO10.out.some_form hv10
          subst ev10
          have HO11:=hidIt (HO10.out.mono (b':=w.heap.size) HB7.out.size)
          have HB11:=hidIt (HB7.out.trans (B10.out.mono HB7.out.size))
          have hlen:(M.take k++[(s,u,q)]++M.drop k).length=mm+1:=by rw[List.length_append,List.length_append,HTl.out,HDl.out];simp;omega
          have HLn:=hidIt hlen
          clear N10 N9 N8 HO10 hv10 hf S0 S1 S2 S3 S4 hlen
          go_wp2_with (fail)
          exact⟨⟨i+1,M.take k++[(s,u,q)]++M.drop k,g10,c10,by simp,rfl,by omega,h10c,h10m,by rw[HLn.out];omega,HO11,hidIt (by rw[List.append_assoc,List.singleton_append];exact HFI.out),HB11⟩,by simp[intOf];omega⟩
        ·
         have HPC:=hidIt (fun W (hO:Own W w.heap.size (.slice (some ⟨g,0,none⟩) mm cp) M)=>hO.piece k (by rw[HML.out];omega))
         go_wp2_with (first | (at_builtin;refine wpList_append_own _ rfl _ _ 30 rfl w.heap.size 62 i0 (.agg #[.int .i64 0,.int .i64 0,.int .i64 0]) 3 24 Tryz.underlying30 hi0 hz0 hz1 hz2 rfl (by decide) _ 0 [] rfl HE2.out ⟨g,k*3,none⟩ _ _ (rcells (M.drop k)) rfl (by rw[rcells_length,HDl.out];try omega) (HPC.out _ (HO2.out.alloc _)) (rcells_one _) ?k3c3 ?k3c4 ?k3c5 ?_))
         case k3c3=>unfold maxLen;omega
         case k3c4=>omega
         case k3c5=>have:=HBw.out.size;simp;omega
         intro v7 w7 hown7 hgrow7 hnil7
         have W7:=hidIt (((Below.refl w2.heap.size w2).alloc (Nat.le_refl _) (.cells #[] 62)).grown hgrow7 (by simp) (fun z hz=>by simp[Value.ownBlock] at hz;omega))
         have HO7:Hid (Own w7 w.heap.size v7 (M.drop k)):=hidIt (by
          unfold Own
          rw[HDl.out]
          first | exact hown7 | (rw[Nat.zero_add,List.nil_append] at hown7;exact hown7))
         have hv7:v7≠.slice none 0 0:=by first | exact hnil7 | exact fun e=>by have:=(hnil7.1 e).1;cases this
         obtain⟨g7,c7,ev7,h7c,h7m,h7b,h7l⟩:=HO7.out.some_form hv7
         rw[HDl.out] at ev7 h7c
         subst ev7
         have HM7:=hidIt (HO2.out.kept W7.out)
         have HF7:=hidIt (five_kept W7.out HF2.out)
         have HB7:=hidIt (HBw.out.trans (W7.out.mono HBw.out.size))
         clear hown7 hgrow7 hnil7 hv7 HE2
         go_wp2_with (fail)
         have HE8:Hid (Own ((w7.alloc (.cells #[] 62)).drew) w7.heap.size (.slice (some ⟨w7.heap.size,0,none⟩) 0 0) []):=hidIt (Own.new w7).drew
         have B8a:=hidIt (((Below.refl w7.heap.size w7).alloc (Nat.le_refl _) (.cells #[] 62)).drew)
         have HE8':Hid (Own (((w7.alloc (.cells #[] 62)).alloc (.cells #[.int .i64 s,.int .i64 u,.int .i64 q] 62)).drew) w7.heap.size (.slice (some ⟨w7.heap.size,0,none⟩) 0 0) []):=hidIt (((Own.new w7).alloc (.cells #[.int .i64 s,.int .i64 u,.int .i64 q] 62)).drew)
         have B8a':=hidIt ((((Below.refl w7.heap.size w7).alloc (Nat.le_refl _) (.cells #[] 62)).alloc (by simp) (.cells #[.int .i64 s,.int .i64 u,.int .i64 q] 62)).drew)
         have HXa:Hid (five (((w7.alloc (.cells #[] 62)).alloc (.cells #[.int .i64 s,.int .i64 u,.int .i64 q] 62)).drew) (w7.heap.size+1) 0 s u q):=hidIt ⟨by simp,by simp,by simp⟩
         have HMa':=hidIt (HM7.out.kept B8a'.out)
         have HE9:Hid (Own (((w7.alloc (.cells #[.int .i64 s,.int .i64 u,.int .i64 q] 62)).alloc (.cells #[] 62)).drew) w7.heap.size (.slice (some ⟨w7.heap.size+1,0,none⟩) 0 0) []):=hidIt (by have:=((Own.new (w7.alloc (.cells #[.int .i64 s,.int .i64 u,.int .i64 q] 62))).mono (b':=w7.heap.size) (by simp)).drew;simpa using this)
         have B9a:=hidIt ((((Below.refl w7.heap.size w7).alloc (Nat.le_refl _) (.cells #[.int .i64 s,.int .i64 u,.int .i64 q] 62)).alloc (by simp) (.cells #[] 62)).drew)
         have HXc:Hid (five (((w7.alloc (.cells #[.int .i64 s,.int .i64 u,.int .i64 q] 62)).alloc (.cells #[] 62)).drew) w7.heap.size 0 s u q):=hidIt ⟨by simp,by simp,by simp⟩
         have HMd:=hidIt (HM7.out.kept B9a.out)
         have B9z:=hidIt (((Below.refl w7.heap.size w7).alloc (Nat.le_refl _) (.cells #[.int .i64 s,.int .i64 u,.int .i64 q] 62)).drew)
         have HMa:=hidIt (HM7.out.kept B8a.out)
         have hf:=HF7.out
         have S0:five w7.drew b (off+i*3) s u q:=hf
         have S1:five (w7.alloc (.cells #[] 62)).drew b (off+i*3) s u q:=five_kept B8a.out hf
         have S2:five ((w7.alloc (.cells #[] 62)).alloc (.cells #[.int .i64 s,.int .i64 u,.int .i64 q] 62)).drew b (off+i*3) s u q:=five_kept B8a'.out hf
         have S3:five ((w7.alloc (.cells #[.int .i64 s,.int .i64 u,.int .i64 q] 62)).alloc (.cells #[] 62)).drew b (off+i*3) s u q:=five_kept B9a.out hf
         have S4:five (w7.alloc (.cells #[.int .i64 s,.int .i64 u,.int .i64 q] 62)).drew b (off+i*3) s u q:=five_kept B9z.out hf
         have hkc1:(k:Int)<=(cp:Int):=by omega
         have hkc2:(0:Int)<=(k:Int):=by omega
         go_region_held3 (fun w'=>five w' b (off+i*3) s u q)
          (first | (with_reducible assumption) | (with_reducible exact five_kept B8.out hf) | (with_reducible exact five_kept (B8.out.alloc B8.out.size _) hf) | (with_reducible exact five_kept B9.out hf) | (with_reducible exact five_kept B10.out hf) | (trace_state;fail))
          (first
          | (refine step_append (by rfl) (.tmp 75) (.tmp 78) (by rfl) w7.heap.size (.slice (some ⟨w7.heap.size,0,none⟩) 0 0) [] (M.take k) (by simp[Act.eval]) HE8.out ⟨g,0,none⟩ k cp HTl.out (by simp[Act.eval]<;>omega) (HMa.out.front k (by rw[HML.out];omega)) (by simp;omega) (by simp) ?_;intro v8 w8 o8 gr8 nil8;have B8:=hidIt (B8a.out.grown gr8 (by simp) (fun z hz=>by simp[Value.ownBlock] at hz;omega));have HO8:=hidIt o8;clear o8 gr8)
          | (refine step_append (by rfl) (.tmp 75) (.tmp 78) (by rfl) w7.heap.size (.slice (some ⟨w7.heap.size,0,none⟩) 0 0) [] (M.take k) (by simp[Act.eval]) HE8'.out ⟨g,0,none⟩ k cp HTl.out (by simp[Act.eval]<;>omega) (HMa'.out.front k (by rw[HML.out];omega)) (by simp;omega) (by simp;omega) ?_;intro v8 w8 o8 gr8 nil8;have HXb:Hid (five w8 (w7.heap.size+1) 0 s u q):=hidIt (five_grown gr8 HXa.out (by simp[Value.ownBlock]));have B8:=hidIt (B8a'.out.grown gr8 (by simp;omega) (fun z hz=>by simp[Value.ownBlock] at hz;omega));have HO8:=hidIt o8;clear o8 gr8)
          | (refine step_append (by rfl) (.tmp 75) (.tmp 78) (by rfl) w7.heap.size (.slice (some ⟨w7.heap.size+1,0,none⟩) 0 0) [] (M.take k) (by simp[Act.eval]) HE9.out ⟨g,0,none⟩ k cp HTl.out (by simp[Act.eval]<;>omega) (HMd.out.front k (by rw[HML.out];omega)) (by simp;omega) (by simp;omega) ?_;intro v8 w8 o8 gr8 nil8;have HXd:Hid (five w8 w7.heap.size 0 s u q):=hidIt (five_grown gr8 HXc.out (by simp[Value.ownBlock]));have B8:=hidIt (B9a.out.grown gr8 (by simp;omega) (fun z hz=>by simp[Value.ownBlock] at hz;omega));have HO8:=hidIt o8;clear o8 gr8)
          | (refine step_append (by rfl) (.tmp 79) (.tmp 84) (by rfl) w7.heap.size v8 (M.take k) [(s,u,q)] (by simp[Act.eval]) (HO8.out.alloc _) ⟨w8.heap.size,0,none⟩ 1 1 rfl (by simp[Act.eval]) (fresh w8 (s,u,q) 62) (by rw[HTl.out];omega) (by have:=B8.out.size;simp;omega) ?_;intro v9 w9 o9 gr9 nil9;have B9:=hidIt ((B8.out.alloc B8.out.size (.cells #[.int .i64 s,.int .i64 u,.int .i64 q] 62)).grown gr9 (by have:=B8.out.size;simp;omega) (fun z hz=>(World.ownsRow.lt HO8.out z hz).1));have HO9:=hidIt o9;have HMc:=hidIt (HO7.out.kept B9.out);clear o9 gr9)
          | (refine step_append (by rfl) (.tmp 79) (.tmp 84) (by rfl) w7.heap.size v8 (M.take k) [(s,u,q)] (by simp[Act.eval]) HO8.out ⟨w7.heap.size+1,0,none⟩ 1 1 rfl (by simp[Act.eval]) (five_rd HXb.out).cells (by rw[HTl.out];omega) B8.out.size ?_;intro v9 w9 o9 gr9 nil9;have B9:=hidIt (B8.out.grown gr9 B8.out.size (fun z hz=>(World.ownsRow.lt HO8.out z hz).1));have HO9:=hidIt o9;have HMc:=hidIt (HO7.out.kept B9.out);clear o9 gr9)
          | (refine step_append (by rfl) (.tmp 79) (.tmp 84) (by rfl) w7.heap.size v8 (M.take k) [(s,u,q)] (by simp[Act.eval]) HO8.out ⟨w7.heap.size,0,none⟩ 1 1 rfl (by simp[Act.eval]) (five_rd HXd.out).cells (by rw[HTl.out];omega) B8.out.size ?_;intro v9 w9 o9 gr9 nil9;have B9:=hidIt (B8.out.grown gr9 B8.out.size (fun z hz=>(World.ownsRow.lt HO8.out z hz).1));have HO9:=hidIt o9;have HMc:=hidIt (HO7.out.kept B9.out);clear o9 gr9)
          | (refine step_append (by rfl) (.tmp 85) (.tmp 86) (by rfl) w7.heap.size v9 (M.take k++[(s,u,q)]) (M.drop k) (by simp[Act.eval]) HO9.out ⟨g7,0,none⟩ (mm - k) c7 HDl.out (by simp[Act.eval]) (by have:=HMc.out.front (mm - k) (by rw[HDl.out];exact Nat.le_refl _);rw[<- HDl.out,List.take_length] at this;exact this) (by rw[List.length_append,HTl.out];simp;omega) B9.out.size ?_;intro v10 w10 o10 gr10 nil10;have B10:=hidIt (B9.out.grown gr10 B9.out.size (fun z hz=>(World.ownsRow.lt HO9.out z hz).1));have HO10:=hidIt o10;have N10:=hidIt nil10;have N9:=hidIt nil9;have N8:=hidIt nil8;clear o10 gr10 nil10 nil9 nil8))
         all_goals
          have hv10:v10≠.slice none 0 0:=fun e=>by
           have h9:=(N10.out.1 e).1
           have:=(N9.out.1 h9).2
           omega
          obtain⟨g10,c10,ev10,h10c,h10m,h10b,h10l⟩:=HO10.out.some_form hv10
          subst ev10
          have HO11:=hidIt (HO10.out.mono (b':=w.heap.size) HB7.out.size)
          have HB11:=hidIt (HB7.out.trans (B10.out.mono HB7.out.size))
          have hlen:(M.take k++[(s,u,q)]++M.drop k).length=mm+1:=by rw[List.length_append,List.length_append,HTl.out,HDl.out];simp;omega
          have HLn:=hidIt hlen
          clear N10 N9 N8 HO10 hv10 hf S0 S1 S2 S3 S4 hlen
          go_wp2_with (fail)
          exact⟨⟨i+1,M.take k++[(s,u,q)]++M.drop k,g10,c10,by simp,rfl,by omega,h10c,h10m,by rw[HLn.out];omega,HO11,hidIt (by rw[List.append_assoc,List.singleton_append];exact HFI.out),HB11⟩,by simp[intOf];omega⟩
     ·
      have hkm':¬ (k:Int)<(mm:Int):=by omega
      have HFI:=hidIt ((HJ.out k (by omega) HK.out (fun h=>by omega)).2.2 (fun h=>by omega))
      clear HJ
      go_wp2_with (fail)
      refine wp_region_below (by kernel_rfl) (by kernel_rfl) ?_
      repeat (go_big_quiet_step (fail))
      refine wpQuiet_nil ?_
      intro _ hw'
      obtain⟨pq,rfl⟩:=hw'
      have k1:=pq.h
      generalize pq.world=w1 at k1 ⊢
      have HB1:=hidIt (HBk.out.trans (k1.mono HBk.out.size))
      have HO1:=hidIt (HOk.out.kept k1)
      have HF1:=hidIt (five_kept HB1.out HF.out)
      haveI:=BelowBy.one w1
      clear g0 k1 x0 x1 x2 HOk
      go_wp2_with (fail)
      subst hQ1
      go_wp2_with (fail)
      refine wp_region_below (by kernel_rfl) (by kernel_rfl) ?_
      repeat (go_big_quiet_step (fail))
      refine wpQuiet_nil ?_
      intro _ hw'
      obtain⟨pq,rfl⟩:=hw'
      have k2:=pq.h
      generalize pq.world=w2 at k2 ⊢
      have HB2:=hidIt (HB1.out.trans (k2.mono HB1.out.size))
      have HO2:=hidIt (HO1.out.kept k2)
      have HF2:=hidIt (five_kept k2 HF1.out)
      have HBw:=hidIt (HB.out.trans (HB2.out.mono HB.out.size))
      have hkm2:(k:Int)<=(mm:Int):=by omega
      have hkle:k<=mm:=by omega
      clear k2
      have HTl:Hid ((M.take k).length=k):=hidIt (by rw[List.length_take,HML.out];omega)
      have HDl:Hid ((M.drop k).length=mm - k):=hidIt (by rw[List.length_drop,HML.out])
      have HE2:Hid ((w2.alloc (.cells #[] 62)).ownsRow w.heap.size 62 3 (.slice (some ⟨w2.heap.size,0,none⟩) 0 0) 0 []):=hidIt ((Own.new w2).mono HBw.out.size)
      by_cases hck:cp=k
      ·
       have HPC:=hidIt (fun W (hO:Own W w.heap.size (.slice (some ⟨g,0,none⟩) mm cp) M)=>show ∀ j u,(rcells (M.drop k))[j]?=some u->W.cell? ((⟨g,0,none⟩:Addr).add j)=some u from fun j u hj=>by
        have hd:M.drop k=[]:=List.length_eq_zero_iff.1 (by rw[HDl.out];omega)
        rw[hd] at hj
        simp[rcells] at hj)
       go_wp2_with (first | (at_builtin;refine wpList_append_own _ rfl _ _ 30 rfl w.heap.size 62 i0 (.agg #[.int .i64 0,.int .i64 0,.int .i64 0]) 3 24 Tryz.underlying30 hi0 hz0 hz1 hz2 rfl (by decide) _ 0 [] rfl HE2.out ⟨g,0,none⟩ _ _ (rcells (M.drop k)) rfl (by rw[rcells_length,HDl.out];try omega) (HPC.out _ (HO2.out.alloc _)) (rcells_one _) ?k4c3 ?k4c4 ?k4c5 ?_))
       case k4c3=>unfold maxLen;omega
       case k4c4=>omega
       case k4c5=>have:=HBw.out.size;simp;omega
       intro v7 w7 hown7 hgrow7 hnil7
       have W7:=hidIt (((Below.refl w2.heap.size w2).alloc (Nat.le_refl _) (.cells #[] 62)).grown hgrow7 (by simp) (fun z hz=>by simp[Value.ownBlock] at hz;omega))
       have HO7:Hid (Own w7 w.heap.size v7 (M.drop k)):=hidIt (by
        unfold Own
        rw[HDl.out]
        first | exact hown7 | (rw[Nat.zero_add,List.nil_append] at hown7;exact hown7))
       have hv7:v7≠.slice none 0 0:=by first | exact hnil7 | exact fun e=>by have:=(hnil7.1 e).1;cases this
       obtain⟨g7,c7,ev7,h7c,h7m,h7b,h7l⟩:=HO7.out.some_form hv7
       rw[HDl.out] at ev7 h7c
       subst ev7
       have HM7:=hidIt (HO2.out.kept W7.out)
       have HF7:=hidIt (five_kept W7.out HF2.out)
       have HB7:=hidIt (HBw.out.trans (W7.out.mono HBw.out.size))
       clear hown7 hgrow7 hnil7 hv7 HE2
       go_wp2_with (fail)
       have HE8:Hid (Own ((w7.alloc (.cells #[] 62)).drew) w7.heap.size (.slice (some ⟨w7.heap.size,0,none⟩) 0 0) []):=hidIt (Own.new w7).drew
       have B8a:=hidIt (((Below.refl w7.heap.size w7).alloc (Nat.le_refl _) (.cells #[] 62)).drew)
       have HE8':Hid (Own (((w7.alloc (.cells #[] 62)).alloc (.cells #[.int .i64 s,.int .i64 u,.int .i64 q] 62)).drew) w7.heap.size (.slice (some ⟨w7.heap.size,0,none⟩) 0 0) []):=hidIt (((Own.new w7).alloc (.cells #[.int .i64 s,.int .i64 u,.int .i64 q] 62)).drew)
       have B8a':=hidIt ((((Below.refl w7.heap.size w7).alloc (Nat.le_refl _) (.cells #[] 62)).alloc (by simp) (.cells #[.int .i64 s,.int .i64 u,.int .i64 q] 62)).drew)
       have HXa:Hid (five (((w7.alloc (.cells #[] 62)).alloc (.cells #[.int .i64 s,.int .i64 u,.int .i64 q] 62)).drew) (w7.heap.size+1) 0 s u q):=hidIt ⟨by simp,by simp,by simp⟩
       have HMa':=hidIt (HM7.out.kept B8a'.out)
       have HE9:Hid (Own (((w7.alloc (.cells #[.int .i64 s,.int .i64 u,.int .i64 q] 62)).alloc (.cells #[] 62)).drew) w7.heap.size (.slice (some ⟨w7.heap.size+1,0,none⟩) 0 0) []):=hidIt (by have:=((Own.new (w7.alloc (.cells #[.int .i64 s,.int .i64 u,.int .i64 q] 62))).mono (b':=w7.heap.size) (by simp)).drew;simpa using this)
       have B9a:=hidIt ((((Below.refl w7.heap.size w7).alloc (Nat.le_refl _) (.cells #[.int .i64 s,.int .i64 u,.int .i64 q] 62)).alloc (by simp) (.cells #[] 62)).drew)
       have HXc:Hid (five (((w7.alloc (.cells #[.int .i64 s,.int .i64 u,.int .i64 q] 62)).alloc (.cells #[] 62)).drew) w7.heap.size 0 s u q):=hidIt ⟨by simp,by simp,by simp⟩
       have HMd:=hidIt (HM7.out.kept B9a.out)
       have B9z:=hidIt (((Below.refl w7.heap.size w7).alloc (Nat.le_refl _) (.cells #[.int .i64 s,.int .i64 u,.int .i64 q] 62)).drew)
       have HMa:=hidIt (HM7.out.kept B8a.out)
       have hf:=HF7.out
       have S0:five w7.drew b (off+i*3) s u q:=hf
       have S1:five (w7.alloc (.cells #[] 62)).drew b (off+i*3) s u q:=five_kept B8a.out hf
       have S2:five ((w7.alloc (.cells #[] 62)).alloc (.cells #[.int .i64 s,.int .i64 u,.int .i64 q] 62)).drew b (off+i*3) s u q:=five_kept B8a'.out hf
       have S3:five ((w7.alloc (.cells #[.int .i64 s,.int .i64 u,.int .i64 q] 62)).alloc (.cells #[] 62)).drew b (off+i*3) s u q:=five_kept B9a.out hf
       have S4:five (w7.alloc (.cells #[.int .i64 s,.int .i64 u,.int .i64 q] 62)).drew b (off+i*3) s u q:=five_kept B9z.out hf
       have hkc1:(k:Int)<=(cp:Int):=by omega
       have hkc2:(0:Int)<=(k:Int):=by omega
       go_region_held3 (fun w'=>five w' b (off+i*3) s u q)
        (first | (with_reducible assumption) | (with_reducible exact five_kept B8.out hf) | (with_reducible exact five_kept (B8.out.alloc B8.out.size _) hf) | (with_reducible exact five_kept B9.out hf) | (with_reducible exact five_kept B10.out hf) | (trace_state;fail))
        (first
        | (refine step_append (by rfl) (.tmp 75) (.tmp 78) (by rfl) w7.heap.size (.slice (some ⟨w7.heap.size,0,none⟩) 0 0) [] (M.take k) (by simp[Act.eval]) HE8.out ⟨g,0,none⟩ k cp HTl.out (by simp[Act.eval]<;>omega) (HMa.out.front k (by rw[HML.out];omega)) (by simp;omega) (by simp) ?_;intro v8 w8 o8 gr8 nil8;have B8:=hidIt (B8a.out.grown gr8 (by simp) (fun z hz=>by simp[Value.ownBlock] at hz;omega));have HO8:=hidIt o8;clear o8 gr8)
        | (refine step_append (by rfl) (.tmp 75) (.tmp 78) (by rfl) w7.heap.size (.slice (some ⟨w7.heap.size,0,none⟩) 0 0) [] (M.take k) (by simp[Act.eval]) HE8'.out ⟨g,0,none⟩ k cp HTl.out (by simp[Act.eval]<;>omega) (HMa'.out.front k (by rw[HML.out];omega)) (by simp;omega) (by simp;omega) ?_;intro v8 w8 o8 gr8 nil8;have HXb:Hid (five w8 (w7.heap.size+1) 0 s u q):=hidIt (five_grown gr8 HXa.out (by simp[Value.ownBlock]));have B8:=hidIt (B8a'.out.grown gr8 (by simp;omega) (fun z hz=>by simp[Value.ownBlock] at hz;omega));have HO8:=hidIt o8;clear o8 gr8)
        | (refine step_append (by rfl) (.tmp 75) (.tmp 78) (by rfl) w7.heap.size (.slice (some ⟨w7.heap.size+1,0,none⟩) 0 0) [] (M.take k) (by simp[Act.eval]) HE9.out ⟨g,0,none⟩ k cp HTl.out (by simp[Act.eval]<;>omega) (HMd.out.front k (by rw[HML.out];omega)) (by simp;omega) (by simp;omega) ?_;intro v8 w8 o8 gr8 nil8;have HXd:Hid (five w8 w7.heap.size 0 s u q):=hidIt (five_grown gr8 HXc.out (by simp[Value.ownBlock]));have B8:=hidIt (B9a.out.grown gr8 (by simp;omega) (fun z hz=>by simp[Value.ownBlock] at hz;omega));have HO8:=hidIt o8;clear o8 gr8)
        | (refine step_append (by rfl) (.tmp 79) (.tmp 84) (by rfl) w7.heap.size v8 (M.take k) [(s,u,q)] (by simp[Act.eval]) (HO8.out.alloc _) ⟨w8.heap.size,0,none⟩ 1 1 rfl (by simp[Act.eval]) (fresh w8 (s,u,q) 62) (by rw[HTl.out];omega) (by have:=B8.out.size;simp;omega) ?_;intro v9 w9 o9 gr9 nil9;have B9:=hidIt ((B8.out.alloc B8.out.size (.cells #[.int .i64 s,.int .i64 u,.int .i64 q] 62)).grown gr9 (by have:=B8.out.size;simp;omega) (fun z hz=>(World.ownsRow.lt HO8.out z hz).1));have HO9:=hidIt o9;have HMc:=hidIt (HO7.out.kept B9.out);clear o9 gr9)
        | (refine step_append (by rfl) (.tmp 79) (.tmp 84) (by rfl) w7.heap.size v8 (M.take k) [(s,u,q)] (by simp[Act.eval]) HO8.out ⟨w7.heap.size+1,0,none⟩ 1 1 rfl (by simp[Act.eval]) (five_rd HXb.out).cells (by rw[HTl.out];omega) B8.out.size ?_;intro v9 w9 o9 gr9 nil9;have B9:=hidIt (B8.out.grown gr9 B8.out.size (fun z hz=>(World.ownsRow.lt HO8.out z hz).1));have HO9:=hidIt o9;have HMc:=hidIt (HO7.out.kept B9.out);clear o9 gr9)
        | (refine step_append (by rfl) (.tmp 79) (.tmp 84) (by rfl) w7.heap.size v8 (M.take k) [(s,u,q)] (by simp[Act.eval]) HO8.out ⟨w7.heap.size,0,none⟩ 1 1 rfl (by simp[Act.eval]) (five_rd HXd.out).cells (by rw[HTl.out];omega) B8.out.size ?_;intro v9 w9 o9 gr9 nil9;have B9:=hidIt (B8.out.grown gr9 B8.out.size (fun z hz=>(World.ownsRow.lt HO8.out z hz).1));have HO9:=hidIt o9;have HMc:=hidIt (HO7.out.kept B9.out);clear o9 gr9)
        | (refine step_append (by rfl) (.tmp 85) (.tmp 86) (by rfl) w7.heap.size v9 (M.take k++[(s,u,q)]) (M.drop k) (by simp[Act.eval]) HO9.out ⟨g7,0,none⟩ (mm - k) c7 HDl.out (by simp[Act.eval]) (by have:=HMc.out.front (mm - k) (by rw[HDl.out];exact Nat.le_refl _);rw[<- HDl.out,List.take_length] at this;exact this) (by rw[List.length_append,HTl.out];simp;omega) B9.out.size ?_;intro v10 w10 o10 gr10 nil10;have B10:=hidIt (B9.out.grown gr10 B9.out.size (fun z hz=>(World.ownsRow.lt HO9.out z hz).1));have HO10:=hidIt o10;have N10:=hidIt nil10;have N9:=hidIt nil9;have N8:=hidIt nil8;clear o10 gr10 nil10 nil9 nil8))
       all_goals
        have hv10:v10≠.slice none 0 0:=fun e=>by
         have h9:=(N10.out.1 e).1
         have:=(N9.out.1 h9).2
         omega
        obtain⟨g10,c10,ev10,h10c,h10m,h10b,h10l⟩:=HO10.out.some_form hv10
        subst ev10
        have HO11:=hidIt (HO10.out.mono (b':=w.heap.size) HB7.out.size)
        have HB11:=hidIt (HB7.out.trans (B10.out.mono HB7.out.size))
        have hlen:(M.take k++[(s,u,q)]++M.drop k).length=mm+1:=by rw[List.length_append,List.length_append,HTl.out,HDl.out];simp;omega
        have HLn:=hidIt hlen
        clear N10 N9 N8 HO10 hv10 hf S0 S1 S2 S3 S4 hlen
        go_wp2_with (fail)
        exact⟨⟨i+1,M.take k++[(s,u,q)]++M.drop k,g10,c10,by simp,rfl,by omega,h10c,h10m,by rw[HLn.out];omega,HO11,hidIt (by rw[List.append_assoc,List.singleton_append];exact HFI.out),HB11⟩,by simp[intOf];omega⟩
      ·
       have HPC:=hidIt (fun W (hO:Own W w.heap.size (.slice (some ⟨g,0,none⟩) mm cp) M)=>hO.piece k (by rw[HML.out];omega))
       go_wp2_with (first | (at_builtin;refine wpList_append_own _ rfl _ _ 30 rfl w.heap.size 62 i0 (.agg #[.int .i64 0,.int .i64 0,.int .i64 0]) 3 24 Tryz.underlying30 hi0 hz0 hz1 hz2 rfl (by decide) _ 0 [] rfl HE2.out ⟨g,k*3,none⟩ _ _ (rcells (M.drop k)) rfl (by rw[rcells_length,HDl.out];try omega) (HPC.out _ (HO2.out.alloc _)) (rcells_one _) ?k5c3 ?k5c4 ?k5c5 ?_))
       case k5c3=>unfold maxLen;omega
       case k5c4=>omega
       case k5c5=>have:=HBw.out.size;simp;omega
       intro v7 w7 hown7 hgrow7 hnil7
       have W7:=hidIt (((Below.refl w2.heap.size w2).alloc (Nat.le_refl _) (.cells #[] 62)).grown hgrow7 (by simp) (fun z hz=>by simp[Value.ownBlock] at hz;omega))
       have HO7:Hid (Own w7 w.heap.size v7 (M.drop k)):=hidIt (by
        unfold Own
        rw[HDl.out]
        first | exact hown7 | (rw[Nat.zero_add,List.nil_append] at hown7;exact hown7))
       have hv7:v7≠.slice none 0 0:=by first | exact hnil7 | exact fun e=>by have:=(hnil7.1 e).1;cases this
       obtain⟨g7,c7,ev7,h7c,h7m,h7b,h7l⟩:=HO7.out.some_form hv7
       rw[HDl.out] at ev7 h7c
       subst ev7
       have HM7:=hidIt (HO2.out.kept W7.out)
       have HF7:=hidIt (five_kept W7.out HF2.out)
       have HB7:=hidIt (HBw.out.trans (W7.out.mono HBw.out.size))
       clear hown7 hgrow7 hnil7 hv7 HE2
       go_wp2_with (fail)
       have HE8:Hid (Own ((w7.alloc (.cells #[] 62)).drew) w7.heap.size (.slice (some ⟨w7.heap.size,0,none⟩) 0 0) []):=hidIt (Own.new w7).drew
       have B8a:=hidIt (((Below.refl w7.heap.size w7).alloc (Nat.le_refl _) (.cells #[] 62)).drew)
       have HE8':Hid (Own (((w7.alloc (.cells #[] 62)).alloc (.cells #[.int .i64 s,.int .i64 u,.int .i64 q] 62)).drew) w7.heap.size (.slice (some ⟨w7.heap.size,0,none⟩) 0 0) []):=hidIt (((Own.new w7).alloc (.cells #[.int .i64 s,.int .i64 u,.int .i64 q] 62)).drew)
       have B8a':=hidIt ((((Below.refl w7.heap.size w7).alloc (Nat.le_refl _) (.cells #[] 62)).alloc (by simp) (.cells #[.int .i64 s,.int .i64 u,.int .i64 q] 62)).drew)
       have HXa:Hid (five (((w7.alloc (.cells #[] 62)).alloc (.cells #[.int .i64 s,.int .i64 u,.int .i64 q] 62)).drew) (w7.heap.size+1) 0 s u q):=hidIt ⟨by simp,by simp,by simp⟩
       have HMa':=hidIt (HM7.out.kept B8a'.out)
       have HE9:Hid (Own (((w7.alloc (.cells #[.int .i64 s,.int .i64 u,.int .i64 q] 62)).alloc (.cells #[] 62)).drew) w7.heap.size (.slice (some ⟨w7.heap.size+1,0,none⟩) 0 0) []):=hidIt (by have:=((Own.new (w7.alloc (.cells #[.int .i64 s,.int .i64 u,.int .i64 q] 62))).mono (b':=w7.heap.size) (by simp)).drew;simpa using this)
       have B9a:=hidIt ((((Below.refl w7.heap.size w7).alloc (Nat.le_refl _) (.cells #[.int .i64 s,.int .i64 u,.int .i64 q] 62)).alloc (by simp) (.cells #[] 62)).drew)
       have HXc:Hid (five (((w7.alloc (.cells #[.int .i64 s,.int .i64 u,.int .i64 q] 62)).alloc (.cells #[] 62)).drew) w7.heap.size 0 s u q):=hidIt ⟨by simp,by simp,by simp⟩
       have HMd:=hidIt (HM7.out.kept B9a.out)
       have B9z:=hidIt (((Below.refl w7.heap.size w7).alloc (Nat.le_refl _) (.cells #[.int .i64 s,.int .i64 u,.int .i64 q] 62)).drew)
       have HMa:=hidIt (HM7.out.kept B8a.out)
       have hf:=HF7.out
       have S0:five w7.drew b (off+i*3) s u q:=hf
       have S1:five (w7.alloc (.cells #[] 62)).drew b (off+i*3) s u q:=five_kept B8a.out hf
       have S2:five ((w7.alloc (.cells #[] 62)).alloc (.cells #[.int .i64 s,.int .i64 u,.int .i64 q] 62)).drew b (off+i*3) s u q:=five_kept B8a'.out hf
       have S3:five ((w7.alloc (.cells #[.int .i64 s,.int .i64 u,.int .i64 q] 62)).alloc (.cells #[] 62)).drew b (off+i*3) s u q:=five_kept B9a.out hf
       have S4:five (w7.alloc (.cells #[.int .i64 s,.int .i64 u,.int .i64 q] 62)).drew b (off+i*3) s u q:=five_kept B9z.out hf
       have hkc1:(k:Int)<=(cp:Int):=by omega
       have hkc2:(0:Int)<=(k:Int):=by omega
       go_region_held3 (fun w'=>five w' b (off+i*3) s u q)
        (first | (with_reducible assumption) | (with_reducible exact five_kept B8.out hf) | (with_reducible exact five_kept (B8.out.alloc B8.out.size _) hf) | (with_reducible exact five_kept B9.out hf) | (with_reducible exact five_kept B10.out hf) | (trace_state;fail))
        (first
        | (refine step_append (by rfl) (.tmp 75) (.tmp 78) (by rfl) w7.heap.size (.slice (some ⟨w7.heap.size,0,none⟩) 0 0) [] (M.take k) (by simp[Act.eval]) HE8.out ⟨g,0,none⟩ k cp HTl.out (by simp[Act.eval]<;>omega) (HMa.out.front k (by rw[HML.out];omega)) (by simp;omega) (by simp) ?_;intro v8 w8 o8 gr8 nil8;have B8:=hidIt (B8a.out.grown gr8 (by simp) (fun z hz=>by simp[Value.ownBlock] at hz;omega));have HO8:=hidIt o8;clear o8 gr8)
        | (refine step_append (by rfl) (.tmp 75) (.tmp 78) (by rfl) w7.heap.size (.slice (some ⟨w7.heap.size,0,none⟩) 0 0) [] (M.take k) (by simp[Act.eval]) HE8'.out ⟨g,0,none⟩ k cp HTl.out (by simp[Act.eval]<;>omega) (HMa'.out.front k (by rw[HML.out];omega)) (by simp;omega) (by simp;omega) ?_;intro v8 w8 o8 gr8 nil8;have HXb:Hid (five w8 (w7.heap.size+1) 0 s u q):=hidIt (five_grown gr8 HXa.out (by simp[Value.ownBlock]));have B8:=hidIt (B8a'.out.grown gr8 (by simp;omega) (fun z hz=>by simp[Value.ownBlock] at hz;omega));have HO8:=hidIt o8;clear o8 gr8)
        | (refine step_append (by rfl) (.tmp 75) (.tmp 78) (by rfl) w7.heap.size (.slice (some ⟨w7.heap.size+1,0,none⟩) 0 0) [] (M.take k) (by simp[Act.eval]) HE9.out ⟨g,0,none⟩ k cp HTl.out (by simp[Act.eval]<;>omega) (HMd.out.front k (by rw[HML.out];omega)) (by simp;omega) (by simp;omega) ?_;intro v8 w8 o8 gr8 nil8;have HXd:Hid (five w8 w7.heap.size 0 s u q):=hidIt (five_grown gr8 HXc.out (by simp[Value.ownBlock]));have B8:=hidIt (B9a.out.grown gr8 (by simp;omega) (fun z hz=>by simp[Value.ownBlock] at hz;omega));have HO8:=hidIt o8;clear o8 gr8)
        | (refine step_append (by rfl) (.tmp 79) (.tmp 84) (by rfl) w7.heap.size v8 (M.take k) [(s,u,q)] (by simp[Act.eval]) (HO8.out.alloc _) ⟨w8.heap.size,0,none⟩ 1 1 rfl (by simp[Act.eval]) (fresh w8 (s,u,q) 62) (by rw[HTl.out];omega) (by have:=B8.out.size;simp;omega) ?_;intro v9 w9 o9 gr9 nil9;have B9:=hidIt ((B8.out.alloc B8.out.size (.cells #[.int .i64 s,.int .i64 u,.int .i64 q] 62)).grown gr9 (by have:=B8.out.size;simp;omega) (fun z hz=>(World.ownsRow.lt HO8.out z hz).1));have HO9:=hidIt o9;have HMc:=hidIt (HO7.out.kept B9.out);clear o9 gr9)
        | (refine step_append (by rfl) (.tmp 79) (.tmp 84) (by rfl) w7.heap.size v8 (M.take k) [(s,u,q)] (by simp[Act.eval]) HO8.out ⟨w7.heap.size+1,0,none⟩ 1 1 rfl (by simp[Act.eval]) (five_rd HXb.out).cells (by rw[HTl.out];omega) B8.out.size ?_;intro v9 w9 o9 gr9 nil9;have B9:=hidIt (B8.out.grown gr9 B8.out.size (fun z hz=>(World.ownsRow.lt HO8.out z hz).1));have HO9:=hidIt o9;have HMc:=hidIt (HO7.out.kept B9.out);clear o9 gr9)
        | (refine step_append (by rfl) (.tmp 79) (.tmp 84) (by rfl) w7.heap.size v8 (M.take k) [(s,u,q)] (by simp[Act.eval]) HO8.out ⟨w7.heap.size,0,none⟩ 1 1 rfl (by simp[Act.eval]) (five_rd HXd.out).cells (by rw[HTl.out];omega) B8.out.size ?_;intro v9 w9 o9 gr9 nil9;have B9:=hidIt (B8.out.grown gr9 B8.out.size (fun z hz=>(World.ownsRow.lt HO8.out z hz).1));have HO9:=hidIt o9;have HMc:=hidIt (HO7.out.kept B9.out);clear o9 gr9)
        | (refine step_append (by rfl) (.tmp 85) (.tmp 86) (by rfl) w7.heap.size v9 (M.take k++[(s,u,q)]) (M.drop k) (by simp[Act.eval]) HO9.out ⟨g7,0,none⟩ (mm - k) c7 HDl.out (by simp[Act.eval]) (by have:=HMc.out.front (mm - k) (by rw[HDl.out];exact Nat.le_refl _);rw[<- HDl.out,List.take_length] at this;exact this) (by rw[List.length_append,HTl.out];simp;omega) B9.out.size ?_;intro v10 w10 o10 gr10 nil10;have B10:=hidIt (B9.out.grown gr10 B9.out.size (fun z hz=>(World.ownsRow.lt HO9.out z hz).1));have HO10:=hidIt o10;have N10:=hidIt nil10;have N9:=hidIt nil9;have N8:=hidIt nil8;clear o10 gr10 nil10 nil9 nil8))
       all_goals
        have hv10:v10≠.slice none 0 0:=fun e=>by
         have h9:=(N10.out.1 e).1
         have:=(N9.out.1 h9).2
         omega
        obtain⟨g10,c10,ev10,h10c,h10m,h10b,h10l⟩:=HO10.out.some_form hv10
        subst ev10
        have HO11:=hidIt (HO10.out.mono (b':=w.heap.size) HB7.out.size)
        have HB11:=hidIt (HB7.out.trans (B10.out.mono HB7.out.size))
        have hlen:(M.take k++[(s,u,q)]++M.drop k).length=mm+1:=by rw[List.length_append,List.length_append,HTl.out,HDl.out];simp;omega
        have HLn:=hidIt hlen
        clear N10 N9 N8 HO10 hv10 hf S0 S1 S2 S3 S4 hlen
        go_wp2_with (fail)
        exact⟨⟨i+1,M.take k++[(s,u,q)]++M.drop k,g10,c10,by simp,rfl,by omega,h10c,h10m,by rw[HLn.out];omega,HO11,hidIt (by rw[List.append_assoc,List.singleton_append];exact HFI.out),HB11⟩,by simp[intOf];omega⟩
   ·
    have hin':¬ (i:Int)<(lb:Int):=by omega
    have HI:Hid (i=lb):=hidIt (by omega)
    have HE:Hid (IsJoin (toB A) (toB B) (toB M)):=hidIt (by have:=HM.out;rw[HI.out,HSE.out] at this;exact this)
    go_wp2_with (fail)
    go_ret
    first | exact⟨_,M,rfl,(fun e=>by cases e),HO.out,HE.out,by omega,HB.out⟩ | exact⟨_,rfl,(fun e=>by cases e),M,HO.out,HE.out,by omega,HB.out⟩
end Go.Proofs.YtkeapmmochpcfaaGreat.Mm
namespace Go.Proofs.YtkeapmmochpcfaaGreat.Mm
open Go.ChangeShapes Go.WideShapes Go.ChangeAt Go.RowKit
open Rc (BelowBy BelowBy.one wp_region_below calls_below calls_same)
open Mk (okE newB okBk look Ris)
def inB (n lo hi:Int):Bool:=decide (lo<=n)&&decide (n<=hi)
theorem okE_eq (x:Rw):okE (toE x)=(inB x.1 0 7&&(inB x.2.1 0 1000000&&inB x.2.2 0 2)):=by
 obtain⟨a,b,c⟩:=x
 simp only[okE,toE,inB,Bool.and_assoc]
 rfl
theorem spec_l1In (n lo hi:Int) (w:World):Calls Tryz.prog 60 #[.int .i64 n,.int .i64 lo,.int .i64 hi] w fun e w'=>e=.returned (.bool (inB n lo hi))∧w'=w:=by
 unfold inB
 by_cases h:lo<=n
 ·
  have h':decide (lo<=n)=true:=decide_eq_true h
  rw[h',Bool.true_and]
  go_enter Tryz.func60,Tryz.ntmps60
  go_wp2
  go_ret
  exact⟨rfl,rfl⟩
 ·
  have h':decide (lo<=n)=false:=decide_eq_false h
  rw[h',Bool.false_and]
  go_enter Tryz.func60,Tryz.ntmps60
  go_wp2
  go_ret
  exact⟨rfl,rfl⟩
theorem spec_l9Time (n:Int) (w:World):Calls Tryz.prog 61 #[.int .i64 n] w fun e w'=>e=.returned (.bool (inB n 0 1000000))∧w'=w:=by
 have C:=hidIt (fun W=>spec_l1In n 0 1000000 W)
 go_enter Tryz.func61,Tryz.ntmps61
 go_wp2_with (fail)
 refine (C.out _).mono ?_
 rintro e w1 ⟨rfl,rfl⟩
 go_wp2_with (fail)
 go_ret
 exact⟨rfl,rfl⟩
theorem spec_MembersOk (a:Option Addr) (cap:Nat) (L:List Rw) (w:World) (h:Rd w a L) (hl:L.length<=9223372036854775807) :
  Calls Tryz.prog 36 #[.slice a L.length cap] w fun e w'=>e=.returned (.bool (okBk (toB L)))∧Below w.heap.size w w':=by
 have N1:Hid (¬ L.length<=8->okBk (toB L)=false):=hidIt book_no1
 have N2:Hid (∀ i,i<L.length->okE (toE (rat L i))=false->okBk (toB L)=false):=hidIt (fun i hi h=>book_no2 hi h)
 have N3:Hid (∀ i,i+1<L.length->¬ kat L i<kat L (i+1)->okBk (toB L)=false):=hidIt (fun i hi h=>book_no3 hi h)
 have N4:Hid (L.length<=8->(∀ i,i<L.length->okE (toE (rat L i))=true)->(∀ i,i+1<L.length->kat L i<kat L (i+1))->okBk (toB L)=true):=hidIt book_yes
 generalize okBk (toB L)=r at N1 N2 N3 N4 ⊢
 have HR:=hidIt h
 clear h
 generalize hn:L.length=m at *
 have HN:=hidIt hn
 clear hn
 by_cases h80:m<=8
 ·
  have h80':¬ (8:Int)<(m:Int):=by omega
  go_enter Tryz.func36,Tryz.ntmps36
  go_wp2_with (fail)
  go_loopw [3] (fun y wx=>∃ i:Nat,y=.int .i64 i∧i<=m∧Hid (∀ j,j<i->okE (toE (rat L j))=true)∧Hid (∀ j,j+1<i->kat L j<kat L (j+1))∧Hid (Below w.heap.size w wx)) (fun y _=>(m - intOf y).toNat)
  case atStart=>exact⟨0,rfl,by omega,hidIt (fun j hj=>by omega),hidIt (fun j hj=>by omega),hidIt (Below.refl _ _)⟩
  case round =>
   obtain⟨i,rfl,hi,HO,HK,HB⟩:=hrel
   by_cases hin:i<m
   ·
    have hin':(i:Int)<(m:Int):=by omega
    have HRx:=hidIt (HR.out.kept HB.out)
    obtain⟨b,off,ea,c0,c1,c2⟩:=HRx.out.all (i:=i) (by rw[HN.out];exact hin)
    subst ea
    obtain⟨ok,hok⟩:∃ ok,okE (toE (rat L i))=ok:=⟨_,rfl⟩
    have HOK:=hidIt hok
    rw[okE_eq] at hok
    have hkey:Hid (kat L i=(rat L i).1):=hidIt rfl
    generalize rat L i=x at c0 c1 c2 hok hkey
    obtain⟨xi,xt,xs⟩:=x
    simp only at c0 c1 c2 hok hkey
    have C1:=hidIt (fun n lo hi W=>spec_l1In n lo hi W)
    have C2:=hidIt (fun n W=>spec_l9Time n W)
    obtain⟨k1,e1⟩:∃ k,inB xi 0 7=k:=⟨_,rfl⟩
    obtain⟨k2,e2⟩:∃ k,inB xt 0 1000000=k:=⟨_,rfl⟩
    obtain⟨k3,e3⟩:∃ k,inB xs 0 2=k:=⟨_,rfl⟩
    rw[e1,e2,e3] at hok
    have BX:=hidIt (Bo.Box.new wr #[.int .i64 xi,.int .i64 xt,.int .i64 xs] 62)
    have HBz:=hidIt (HB.out.alloc HB.out.size (.cells #[.int .i64 xi,.int .i64 xt,.int .i64 xs] 62))
    have HRz:=hidIt (HRx.out.alloc (.cells #[.int .i64 xi,.int .i64 xt,.int .i64 xs] 62))
    cases ok with
    | false =>
     have er:=N2.out i hin HOK.out
     subst er
     go_wp2_with (fail)
     generalize wr.alloc (.cells #[.int .i64 xi,.int .i64 xt,.int .i64 xs] 62)=wz at BX HBz HRz ⊢
     haveI:=BelowBy.one wz
     have g0:=fun p:BelowBy wz=>p.cell (BX.out.c 0 rfl)
     have g1:=fun p:BelowBy wz=>p.cell (BX.out.c 1 rfl)
     have g2:=fun p:BelowBy wz=>p.cell (BX.out.c 2 rfl)
     cases k1<;>cases k2<;>cases k3<;>simp only[Bool.and_true,Bool.and_false,Bool.true_eq_false] at hok
     all_goals
      refine wp_region_below (by kernel_rfl) (by kernel_rfl) ?_
      repeat (go_big_quiet_step (first | (go_at_call 60;refine calls_same (C1.out _ _ _ _)) | (go_at_call 61;refine calls_same (C2.out _ _))))
      refine wpQuiet_nil ?_
      intro _ hw'
      obtain⟨pq,rfl⟩:=hw'
      have HB1:=hidIt (HBz.out.trans (pq.h.mono HBz.out.size))
      generalize pq.world=w2 at HB1 ⊢
      clear g0 g1 g2
      go_wp2_with (fail)
      go_ret
      exact⟨rfl,HB1.out⟩
    | true =>
     obtain⟨rfl,rfl,rfl⟩:k1=true∧k2=true∧k3=true:=by cases k1<;>cases k2<;>cases k3<;>simp_all
     have HO':Hid (∀ j,j<i+1->okE (toE (rat L j))=true):=hidIt (fun j hj=>by
      rcases Nat.lt_succ_iff_lt_or_eq.1 hj with h | h
      ·
       exact HO.out j h
      ·
       subst h;exact HOK.out)
     clear hok
     rcases Nat.eq_zero_or_pos i with hz | hp
     ·
      subst hz
      simp only[Nat.zero_mul,Nat.add_zero] at c0 c1 c2
      go_wp2_with (fail)
      generalize wr.alloc (.cells #[.int .i64 xi,.int .i64 xt,.int .i64 xs] 62)=wz at BX HBz HRz ⊢
      haveI:=BelowBy.one wz
      have g0:=fun p:BelowBy wz=>p.cell (BX.out.c 0 rfl)
      have g1:=fun p:BelowBy wz=>p.cell (BX.out.c 1 rfl)
      have g2:=fun p:BelowBy wz=>p.cell (BX.out.c 2 rfl)
      refine wp_region_below (by kernel_rfl) (by kernel_rfl) ?_
      repeat (go_big_quiet_step (first | (go_at_call 60;refine calls_same (C1.out _ _ _ _)) | (go_at_call 61;refine calls_same (C2.out _ _))))
      refine wpQuiet_nil ?_
      intro _ hw'
      obtain⟨pq,rfl⟩:=hw'
      have HB1:=hidIt (HBz.out.trans (pq.h.mono HBz.out.size))
      generalize pq.world=w2 at HB1 ⊢
      clear g0 g1 g2
      go_wp2_with (fail)
      exact⟨⟨1,by simp,by omega,HO',hidIt (fun j hj=>by omega),HB1⟩,by simp[intOf];omega⟩
     ·
      obtain⟨j,rfl⟩:∃ j,i=j+1:=⟨i - 1,by omega⟩
      have hpos:(0:Int)<((j:Int)+1):=by omega
      have hj8:(j:Int)<=8:=by omega
      have hj0:(0:Int)<=(j:Int):=by omega
      obtain⟨pk,epk⟩:∃ pk,(rat L j).1=pk:=⟨_,rfl⟩
      have hkj:Hid (kat L j=pk):=hidIt epk
      have EPK:=hidIt epk
      clear epk
      go_wp2_with (fail)
      generalize wr.alloc (.cells #[.int .i64 xi,.int .i64 xt,.int .i64 xs] 62)=wz at BX HBz HRz ⊢
      haveI:=BelowBy.one wz
      have g0:=fun p:BelowBy wz=>p.cell (BX.out.c 0 rfl)
      have g1:=fun p:BelowBy wz=>p.cell (BX.out.c 1 rfl)
      have g2:=fun p:BelowBy wz=>p.cell (BX.out.c 2 rfl)
      obtain⟨b',off',ea2,q0,_⟩:=HRz.out.all (i:=j) (by rw[HN.out];omega)
      cases ea2
      rw[EPK.out] at q0
      have k0:=fun p:BelowBy wz=>p.cell q0
      clear q0
      by_cases hlt:pk<xi
      ·
       have hd:decide (xi<=pk)=false:=decide_eq_false (by omega)
       have HK':Hid (∀ q,q+1<j+1+1->kat L q<kat L (q+1)):=hidIt (fun q hq=>by
        rcases Nat.lt_succ_iff_lt_or_eq.1 (show q+1<j+1+1 from hq) with h | h
        ·
         exact HK.out q h
        ·
         have:q=j:=by omega
         subst this
         rw[hkj.out,hkey.out]
         exact hlt)
       clear hlt
       refine wp_region_below (by kernel_rfl) (by kernel_rfl) ?_
       repeat (go_big_quiet_step (first | (go_at_call 60;refine calls_same (C1.out _ _ _ _)) | (go_at_call 61;refine calls_same (C2.out _ _))))
       refine wpQuiet_nil ?_
       intro _ hw'
       obtain⟨pq,rfl⟩:=hw'
       have HB1:=hidIt (HBz.out.trans (pq.h.mono HBz.out.size))
       generalize pq.world=w2 at HB1 ⊢
       clear g0 g1 g2 k0
       go_wp2_with (fail)
       exact⟨⟨j+1+1,by simp,by omega,HO',HK',HB1⟩,by simp[intOf];omega⟩
      ·
       have er:=N3.out j (by omega) (by rw[hkj.out,hkey.out];omega)
       have hd:decide (xi<=pk)=true:=decide_eq_true (by omega)
       subst er
       clear hlt
       refine wp_region_below (by kernel_rfl) (by kernel_rfl) ?_
       repeat (go_big_quiet_step (first | (go_at_call 60;refine calls_same (C1.out _ _ _ _)) | (go_at_call 61;refine calls_same (C2.out _ _))))
       refine wpQuiet_nil ?_
       intro _ hw'
       obtain⟨pq,rfl⟩:=hw'
       have HB1:=hidIt (HBz.out.trans (pq.h.mono HBz.out.size))
       generalize pq.world=w2 at HB1 ⊢
       clear g0 g1 g2 k0
       go_wp2_with (fail)
       go_ret
       exact⟨rfl,HB1.out⟩
   ·
    have hin':¬ (i:Int)<(m:Int):=by omega
    have HI:Hid (i=m):=hidIt (by omega)
    have er:=N4.out h80 (fun j hj=>HO.out j (by have:=HI.out;omega)) (fun j hj=>HK.out j (by have:=HI.out;omega))
    subst er
    go_wp2_with (fail)
    go_ret
    exact⟨rfl,HB.out⟩
 ·
  have h80':(8:Int)<(m:Int):=by omega
  have er:=N1.out h80
  subst er
  go_enter Tryz.func36,Tryz.ntmps36
  go_wp2
  go_ret
  exact⟨rfl,Below.refl _ _⟩
end Go.Proofs.YtkeapmmochpcfaaGreat.Mm
namespace Go.Proofs.YtkeapmmochpcfaaGreat.Mk
theorem ris_short:∀ (L:List En) (lo:Int),Ris L->(∀ e∈L,lo<=e.key∧e.key<=7)->L.length<=(8 - lo).toNat
 | [],lo,_,_=>by simp
 | a::L,lo,h,k=>by
  obtain⟨h1,h2⟩:=ris_cons.1 h
  have ha:=k a (List.mem_cons_self ..)
  have:=ris_short L (a.key+1) h2 (fun e he=>⟨by have:=h1 e he;omega,(k e (List.mem_cons_of_mem _ he)).2⟩)
  simp only[List.length_cons]
  omega
theorem okE_key {e:En} (h:okE e=true):0<=e.key∧e.key<=7:=by
 unfold okE at h
 simp only[Bool.and_eq_true,decide_eq_true_eq] at h
 exact⟨h.1.1.1.1.1,h.1.1.1.1.2⟩
def mergeB (A B:List En):List En:=if okBk A=true∧okBk B=true then mergeE A B else []
theorem merge_no {A B:List En} (h:¬ (okBk A=true∧okBk B=true)):mergeB A B=[]:=if_neg h
theorem merge_of {A B J:List En} (hA:okBk A=true) (hB:okBk B=true) (h:IsJoin A B J):mergeB A B=J:=by
 unfold mergeB
 rw[if_pos ⟨hA,hB⟩]
 exact (merge_join A B (ok_ris hA) (ok_ris hB)).unique h
theorem merge_ok {A B J:List En} (hA:okBk A=true) (hB:okBk B=true) (h:IsJoin A B J):okBk J=true:=by
 have hall:∀ e∈J,okE e=true:=fun e he=>by
  rcases h.mem he with q | q
  ·
   exact ok_all hA q
  ·
   exact ok_all hB q
 exact ok_mk (ris_short J 0 h.ris (fun e he=>okE_key (hall e he))) hall h.ris
end Go.Proofs.YtkeapmmochpcfaaGreat.Mk
namespace Go.Proofs.YtkeapmmochpcfaaGreat.Mm
open Go.ChangeShapes Go.WideShapes Go.ChangeAt Go.RowKit
open Mk (okE newB okBk look Ris IsJoin mergeB)
end Go.Proofs.YtkeapmmochpcfaaGreat.Mm
namespace Go.Proofs.YtkeapmmochpcfaaGreat.Mm
open Go.ChangeShapes Go.WideShapes Go.ChangeAt Go.RowKit
open Rc (BelowBy BelowBy.one wp_region_below calls_below calls_same)
open Mk (okE newB okBk look Ris IsJoin mergeB)
theorem impl_memberIdOk (n:Int) (w:World):Calls Tryz.prog 106 #[.int .i64 n] w fun e w'=>e=.returned (.bool (inB n 0 7))∧w'=w:=by
 unfold inB
 rw[show decide (n<=7)=decide (n<8) from decide_eq_decide.2 (by omega)]
 by_cases h:0<=n
 ·
  have h':decide ((0:Int)<=n)=true:=decide_eq_true h
  rw[h',Bool.true_and]
  go_enter Tryz.func106,Tryz.ntmps106
  go_wp2
  go_ret
  exact⟨rfl,rfl⟩
 ·
  have h':decide ((0:Int)<=n)=false:=decide_eq_false h
  rw[h',Bool.false_and]
  go_enter Tryz.func106,Tryz.ntmps106
  go_wp2
  go_ret
  exact⟨rfl,rfl⟩
theorem impl_timeOk (n:Int) (w:World):Calls Tryz.prog 101 #[.int .i64 n] w fun e w'=>e=.returned (.bool (inB n 0 1000000))∧w'=w:=by
 unfold inB
 by_cases h:0<=n
 ·
  have h':decide ((0:Int)<=n)=true:=decide_eq_true h
  rw[h',Bool.true_and]
  go_enter Tryz.func101,Tryz.ntmps101
  go_wp2
  go_ret
  exact⟨rfl,rfl⟩
 ·
  have h':decide ((0:Int)<=n)=false:=decide_eq_false h
  rw[h',Bool.false_and]
  go_enter Tryz.func101,Tryz.ntmps101
  go_wp2
  go_ret
  exact⟨rfl,rfl⟩
theorem impl_memberOk (x:Rw) (w:World):Calls Tryz.prog 68 #[rv x] w fun e w'=>e=.returned (.bool (okE (toE x)))∧Below w.heap.size w w':=by
 rw[okE_eq]
 obtain⟨a,b,c⟩:=x
 simp only
 have C1:=hidIt (fun W=>impl_memberIdOk a W)
 have C2:=hidIt (fun W=>impl_timeOk b W)
 generalize inB a 0 7=k1 at C1 ⊢
 generalize inB b 0 1000000=k2 at C2 ⊢
 unfold inB
 have HB:=hidIt ((Below.refl w.heap.size w).alloc (Nat.le_refl _) (.cells #[.int .i64 a,.int .i64 b,.int .i64 c] 62))
 cases k1 with
 | false =>
  rw[Bool.false_and]
  go_enter Tryz.func68,Tryz.ntmps68
  go_wp2_with (fail)
  refine (C1.out _).mono ?_
  rintro e w1 ⟨rfl,rfl⟩
  go_wp2_with (fail)
  go_ret
  exact⟨rfl,HB.out⟩
 | true =>
  rw[Bool.true_and]
  cases k2 with
  | false =>
   rw[Bool.false_and]
   go_enter Tryz.func68,Tryz.ntmps68
   go_wp2_with (fail)
   refine (C1.out _).mono ?_
   rintro e w1 ⟨rfl,rfl⟩
   go_wp2_with (fail)
   refine (C2.out _).mono ?_
   rintro e w1 ⟨rfl,rfl⟩
   go_wp2_with (fail)
   go_ret
   exact⟨rfl,HB.out⟩
  | true =>
   rw[Bool.true_and]
   by_cases h:0<=c
   ·
    have h':decide ((0:Int)<=c)=true:=decide_eq_true h
    rw[h',Bool.true_and]
    go_enter Tryz.func68,Tryz.ntmps68
    go_wp2_with (fail)
    refine (C1.out _).mono ?_
    rintro e w1 ⟨rfl,rfl⟩
    go_wp2_with (fail)
    refine (C2.out _).mono ?_
    rintro e w1 ⟨rfl,rfl⟩
    go_wp2_with (fail)
    go_ret
    exact⟨rfl,HB.out⟩
   ·
    have h':decide ((0:Int)<=c)=false:=decide_eq_false h
    rw[h',Bool.false_and]
    go_enter Tryz.func68,Tryz.ntmps68
    go_wp2_with (fail)
    refine (C1.out _).mono ?_
    rintro e w1 ⟨rfl,rfl⟩
    go_wp2_with (fail)
    refine (C2.out _).mono ?_
    rintro e w1 ⟨rfl,rfl⟩
    go_wp2_with (fail)
    go_ret
    exact⟨rfl,HB.out⟩
theorem book_all {L:List Rw} (h2:∀ i,i<L.length->okE (toE (rat L i))=true) (h3:∀ i,i+1<L.length->kat L i<kat L (i+1)):okBk (toB L)=true:=by
 have hr:=ris_of h3
 refine book_yes ?_ h2 h3
 have:=Mk.ris_short (toB L) 0 hr (fun e he=>by
  obtain⟨x,hx,rfl⟩:=List.mem_map.1 he
  obtain⟨i,hi,rfl⟩:=List.mem_iff_getElem.1 hx
  have:=h2 i hi
  rw[rat_at hi] at this
  exact Mk.okE_key this)
 rw[List.length_map] at this
 exact this
theorem impl_MembersOk (a:Option Addr) (cap:Nat) (L:List Rw) (w:World) (h:Rd w a L) (hl:L.length<=9223372036854775807) :
  Calls Tryz.prog 41 #[.slice a L.length cap] w fun e w'=>e=.returned (.bool (okBk (toB L)))∧Below w.heap.size w w':=by
 have N2:Hid (∀ i,i<L.length->okE (toE (rat L i))=false->okBk (toB L)=false):=hidIt (fun i hi h=>book_no2 hi h)
 have N3:Hid (∀ i,i+1<L.length->¬ kat L i<kat L (i+1)->okBk (toB L)=false):=hidIt (fun i hi h=>book_no3 hi h)
 have N4:Hid ((∀ i,i<L.length->okE (toE (rat L i))=true)->(∀ i,i+1<L.length->kat L i<kat L (i+1))->okBk (toB L)=true):=hidIt book_all
 generalize okBk (toB L)=r at N2 N3 N4 ⊢
 have HR:=hidIt h
 clear h
 generalize hn:L.length=m at *
 have HN:=hidIt hn
 clear hn
 go_enter Tryz.func41,Tryz.ntmps41
 go_wp2_with (fail)
 go_loopw [7] (fun y wx=>∃ i:Nat,y=.int .i64 i∧i<=m∧Hid (∀ j,j<i->okE (toE (rat L j))=true)∧Hid (∀ j,j+1<i->kat L j<kat L (j+1))∧Hid (Below w.heap.size w wx)) (fun y _=>(m - intOf y).toNat)
 case atStart=>exact⟨0,rfl,by omega,hidIt (fun j hj=>by omega),hidIt (fun j hj=>by omega),hidIt (Below.refl _ _)⟩
 case round =>
  obtain⟨i,rfl,hi,HO,HK,HB⟩:=hrel
  by_cases hin:i<m
  ·
   have hin':(i:Int)<(m:Int):=by omega
   have HRx:=hidIt (HR.out.kept HB.out)
   obtain⟨b,off,ea,c0,c1,c2⟩:=HRx.out.all (i:=i) (by rw[HN.out];exact hin)
   subst ea
   have CE:=hidIt (fun W=>impl_memberOk (rat L i) W)
   obtain⟨ok,hok⟩:∃ ok,okE (toE (rat L i))=ok:=⟨_,rfl⟩
   rw[hok] at CE
   have HOK:=hidIt hok
   clear hok
   have hkey:Hid (kat L i=(rat L i).1):=hidIt rfl
   generalize rat L i=x at c0 c1 c2 CE hkey
   obtain⟨xi,xt,xs⟩:=x
   simp only[rv] at c0 c1 c2 CE hkey
   have BX:=hidIt (Bo.Box.new wr #[.int .i64 xi,.int .i64 xt,.int .i64 xs] 62)
   have HBz:=hidIt (HB.out.alloc HB.out.size (.cells #[.int .i64 xi,.int .i64 xt,.int .i64 xs] 62))
   have HRz:=hidIt (HRx.out.alloc (.cells #[.int .i64 xi,.int .i64 xt,.int .i64 xs] 62))
   cases ok with
   | false =>
    have er:=N2.out i hin HOK.out
    subst er
    go_wp2_with (fail)
    generalize wr.alloc (.cells #[.int .i64 xi,.int .i64 xt,.int .i64 xs] 62)=wz at BX HBz HRz ⊢
    haveI:=BelowBy.one wz
    have g0:=fun p:BelowBy wz=>p.cell (BX.out.c 0 rfl)
    have g1:=fun p:BelowBy wz=>p.cell (BX.out.c 1 rfl)
    have g2:=fun p:BelowBy wz=>p.cell (BX.out.c 2 rfl)
    refine wp_region_below (by kernel_rfl) (by kernel_rfl) ?_
    repeat (go_big_quiet_step (first | (go_at_call 68;refine calls_below (CE.out _))))
    refine wpQuiet_nil ?_
    intro _ hw'
    obtain⟨pq,rfl⟩:=hw'
    have HB1:=hidIt (HBz.out.trans (pq.h.mono HBz.out.size))
    generalize pq.world=w2 at HB1 ⊢
    clear g0 g1 g2
    go_wp2_with (fail)
    go_ret
    exact⟨rfl,HB1.out⟩
   | true =>
    have HO':Hid (∀ j,j<i+1->okE (toE (rat L j))=true):=hidIt (fun j hj=>by
     rcases Nat.lt_succ_iff_lt_or_eq.1 hj with h | h
     ·
      exact HO.out j h
     ·
      subst h;exact HOK.out)
    rcases Nat.eq_zero_or_pos i with hz | hp
    ·
     subst hz
     simp only[Nat.zero_mul,Nat.add_zero] at c0 c1 c2
     go_wp2_with (fail)
     generalize wr.alloc (.cells #[.int .i64 xi,.int .i64 xt,.int .i64 xs] 62)=wz at BX HBz HRz ⊢
     haveI:=BelowBy.one wz
     have g0:=fun p:BelowBy wz=>p.cell (BX.out.c 0 rfl)
     have g1:=fun p:BelowBy wz=>p.cell (BX.out.c 1 rfl)
     have g2:=fun p:BelowBy wz=>p.cell (BX.out.c 2 rfl)
     refine wp_region_below (by kernel_rfl) (by kernel_rfl) ?_
     repeat (go_big_quiet_step (first | (go_at_call 68;refine calls_below (CE.out _))))
     refine wpQuiet_nil ?_
     intro _ hw'
     obtain⟨pq,rfl⟩:=hw'
     have HB1:=hidIt (HBz.out.trans (pq.h.mono HBz.out.size))
     generalize pq.world=w2 at HB1 ⊢
     clear g0 g1 g2
     go_wp2_with (fail)
     exact⟨⟨1,by simp,by omega,HO',hidIt (fun j hj=>by omega),HB1⟩,by simp[intOf];omega⟩
    ·
     obtain⟨j,rfl⟩:∃ j,i=j+1:=⟨i - 1,by omega⟩
     have hpos:(0:Int)<((j:Int)+1):=by omega
     have hj8:(j:Int)<=9223372036854775806:=by omega
     have hj0:(0:Int)<=(j:Int):=by omega
     obtain⟨pk,epk⟩:∃ pk,(rat L j).1=pk:=⟨_,rfl⟩
     have hkj:Hid (kat L j=pk):=hidIt epk
     have EPK:=hidIt epk
     clear epk
     go_wp2_with (fail)
     generalize wr.alloc (.cells #[.int .i64 xi,.int .i64 xt,.int .i64 xs] 62)=wz at BX HBz HRz ⊢
     haveI:=BelowBy.one wz
     have g0:=fun p:BelowBy wz=>p.cell (BX.out.c 0 rfl)
     have g1:=fun p:BelowBy wz=>p.cell (BX.out.c 1 rfl)
     have g2:=fun p:BelowBy wz=>p.cell (BX.out.c 2 rfl)
     obtain⟨b',off',ea2,q0,_⟩:=HRz.out.all (i:=j) (by rw[HN.out];omega)
     cases ea2
     rw[EPK.out] at q0
     have k0:=fun p:BelowBy wz=>p.cell q0
     clear q0
     by_cases hlt:pk<xi
     ·
      have hd:decide (xi<=pk)=false:=decide_eq_false (by omega)
      have HK':Hid (∀ q,q+1<j+1+1->kat L q<kat L (q+1)):=hidIt (fun q hq=>by
       rcases Nat.lt_succ_iff_lt_or_eq.1 (show q+1<j+1+1 from hq) with h | h
       ·
        exact HK.out q h
       ·
        have:q=j:=by omega
        subst this
        rw[hkj.out,hkey.out]
        exact hlt)
      clear hlt
      refine wp_region_below (by kernel_rfl) (by kernel_rfl) ?_
      repeat (go_big_quiet_step (first | (go_at_call 68;refine calls_below (CE.out _))))
      refine wpQuiet_nil ?_
      intro _ hw'
      obtain⟨pq,rfl⟩:=hw'
      have HB1:=hidIt (HBz.out.trans (pq.h.mono HBz.out.size))
      generalize pq.world=w2 at HB1 ⊢
      clear g0 g1 g2 k0
      go_wp2_with (fail)
      exact⟨⟨j+1+1,by simp,by omega,HO',HK',HB1⟩,by simp[intOf];omega⟩
     ·
      have er:=N3.out j (by omega) (by rw[hkj.out,hkey.out];omega)
      have hd:decide (xi<=pk)=true:=decide_eq_true (by omega)
      subst er
      clear hlt
      refine wp_region_below (by kernel_rfl) (by kernel_rfl) ?_
      repeat (go_big_quiet_step (first | (go_at_call 68;refine calls_below (CE.out _))))
      refine wpQuiet_nil ?_
      intro _ hw'
      obtain⟨pq,rfl⟩:=hw'
      have HB1:=hidIt (HBz.out.trans (pq.h.mono HBz.out.size))
      generalize pq.world=w2 at HB1 ⊢
      clear g0 g1 g2 k0
      go_wp2_with (fail)
      go_ret
      exact⟨rfl,HB1.out⟩
  ·
   have hin':¬ (i:Int)<(m:Int):=by omega
   have HI:Hid (i=m):=hidIt (by omega)
   have er:=N4.out (fun j hj=>HO.out j (by have:=HI.out;omega)) (fun j hj=>HK.out j (by have:=HI.out;omega))
   subst er
   go_wp2_with (fail)
   go_ret
   exact⟨rfl,HB.out⟩
theorem two_boxes (w:World) (o p:Obj):Below w.heap.size w ((w.alloc o).alloc p):=((Below.refl _ w).alloc (Nat.le_refl _) _).alloc (by simp) _
theorem impl_Stronger (x y:Rw) (w:World):Calls Tryz.prog 45 #[rv x,rv y] w fun e w'=>e=.returned (.bool (newB (toE x) (toE y)))∧Below w.heap.size w w':=by
 rw[new_str]
 obtain⟨a,b,c⟩:=x
 obtain⟨a',b',c'⟩:=y
 simp only
 by_cases h:b=b'
 ·
  subst h
  rw[decide_eq_false (Int.lt_irrefl b),Bool.false_or,decide_eq_true rfl,Bool.true_and]
  go_enter Tryz.func45,Tryz.ntmps45
  go_wp2
  go_ret
  exact⟨rfl,two_boxes _ _ _⟩
 ·
  have h':(b==b')=false:=by simpa using h
  have h'':(b != b')=true:=by simpa using h
  rw[decide_eq_false h,Bool.false_and,Bool.or_false]
  go_enter Tryz.func45,Tryz.ntmps45
  go_wp2
  go_ret
  exact⟨rfl,two_boxes _ _ _⟩
def CopR (n:Nat) (w:World) (A:List Rw) (e:Ending) (w':World):Prop:=∃ g c,e=.returned (.slice (some ⟨g,0,none⟩) n c)∧n<=c∧c<=9223372036854775807∧Own w' w.heap.size (.slice (some ⟨g,0,none⟩) n c) A∧Below w.heap.size w w'
theorem CopR.of {n:Nat} {w w':World} {A:List Rw} {e:Ending} {g c:Nat} (h:e=.returned (.slice (some ⟨g,0,none⟩) n c)) (h1:n<=c) (h2:c<=9223372036854775807) (h3:Own w' w.heap.size (.slice (some ⟨g,0,none⟩) n c) A) (h4:Below w.heap.size w w'):CopR n w A e w':=⟨g,c,h,h1,h2,h3,h4⟩
theorem CopR.out {n:Nat} {w w':World} {A:List Rw} {e:Ending} (h:CopR n w A e w'):∃ g c,e=.returned (.slice (some ⟨g,0,none⟩) n c)∧n<=c∧c<=9223372036854775807∧Own w' w.heap.size (.slice (some ⟨g,0,none⟩) n c) A∧Below w.heap.size w w':=h
theorem impl_copied (a:Option Addr) (cap:Nat) (A:List Rw) (w:World) (h:Rd w a A) (hna:a=none->cap=0) (hl:A.length<=100) :
  Calls Tryz.prog 42 #[.slice a A.length cap] w fun e w'=>CopR A.length w A e w':=by
 obtain⟨i0,hi0,hz0,hz1,hz2⟩:=info_parts infoRw
 have HRA:=hidIt h
 clear h
 generalize hla:A.length=la at *
 have HLA:=hidIt hla
 clear hla
 cases a with
 | none =>
  have e:=hna rfl
  subst e
  have eA:=HRA.out.none_nil
  have e0:la=0:=by rw[<- HLA.out,eA];rfl
  subst e0
  go_enter Tryz.func42,Tryz.ntmps42
  go_wp2_with (first | (at_builtin;refine wpList_append_own_none rfl _ _ 30 rfl w.heap.size 62 i0 3 Tryz.underlying30 hi0 _ _ _ rfl (Own.new w) rfl ?_))
  go_wp2_with (fail)
  go_ret
  exact CopR.of rfl (by omega) (by omega) (by first | exact Own.new w | (rw[eA];exact Own.new w)) ((Below.refl _ w).alloc (Nat.le_refl _) _)
 | some x =>
  have hx:∃ b off,x=⟨b,off,none⟩∨la=0:=by
   rcases Nat.eq_zero_or_pos la with h | h
   ·
    exact⟨0,0,.inr h⟩
   ·
    obtain⟨b,off,e,_⟩:=HRA.out.cell 0 (by rw[HLA.out];exact h)
    cases e
    exact⟨b,off,.inl rfl⟩
  have hcl:∀ W:World,Below w.heap.size w W->∀ j u,(rcells A)[j]?=some u->W.cell? (x.add j)=some u:=by
   intro W k j u hj
   obtain⟨b,off,h | h⟩:=hx
   ·
    subst h
    exact (HRA.out.kept k).cells j u hj
   ·
    have:A=[]:=List.length_eq_zero_iff.1 (HLA.out.trans h)
    rw[this] at hj
    simp[rcells] at hj
  have HCL:=hidIt hcl
  clear hx hcl
  go_enter Tryz.func42,Tryz.ntmps42
  go_wp2_with (first | (at_builtin;refine wpList_append_own _ rfl _ _ 30 rfl w.heap.size 62 i0 (.agg #[.int .i64 0,.int .i64 0,.int .i64 0]) 3 24 Tryz.underlying30 hi0 hz0 hz1 hz2 rfl (by decide) _ 0 [] rfl (Own.new w) x la _ (rcells A) rfl (by rw[rcells_length,HLA.out]) (HCL.out _ ((Below.refl _ w).alloc (Nat.le_refl _) _)) (rcells_one _) ?k1c3 ?k1c4 ?k1c5 ?_))
  case k1c3=>unfold maxLen;omega
  case k1c4=>omega
  case k1c5=>simp
  intro v' w9 hown hgrow hnil
  have HO9:Hid (Own w9 w.heap.size v' A):=hidIt (by
   unfold Own
   rw[HLA.out]
   first | exact hown | (rw[Nat.zero_add,List.nil_append] at hown;exact hown))
  have HB9:=hidIt (((Below.refl w.heap.size w).alloc (Nat.le_refl _) (.cells #[] 62)).grown hgrow (by simp) (fun z hz=>by simp[Value.ownBlock] at hz;omega))
  have hv9:v'≠.slice none 0 0:=by first | exact hnil | exact fun e=>by have:=(hnil.1 e).1;cases this
  obtain⟨g9,c9,ev9,h9c,h9m,_,_⟩:=HO9.out.some_form hv9
  rw[HLA.out] at ev9 h9c
  subst ev9
  clear hown hgrow hnil hv9
  go_wp2_with (fail)
  go_ret
  exact CopR.of rfl h9c h9m HO9.out HB9.out
end Go.Proofs.YtkeapmmochpcfaaGreat.Mm
namespace Go.Proofs.YtkeapmmochpcfaaGreat.Mm
open Go.ChangeShapes Go.WideShapes Go.ChangeAt Go.RowKit
open Mk (okE newB okBk look Ris IsJoin mergeB)
def cmpN (n m:Int):Int:=if n<m then -1 else if m<n then 1 else 0
theorem cmpN_lt (n m:Int):decide (cmpN n m<0)=decide (n<m):=by
 unfold cmpN
 split
 ·
  rename_i h;simp[h]
 ·
  rename_i h
  split
  ·
   simp[h]
  ·
   simp[h]
theorem cmpN_eq (n m:Int):(cmpN n m==0)=decide (n=m):=by
 unfold cmpN
 split
 ·
  rename_i h;rw[decide_eq_false (by omega)];rfl
 ·
  rename_i h
  split
  ·
   rename_i k;rw[decide_eq_false (by omega)];rfl
  ·
   rename_i k;rw[decide_eq_true (by omega)];rfl
theorem isNaN_int (n:Int) (w:World):Calls Tryz.prog 107 #[.int .i64 n] w fun e w'=>e=.returned (.bool false)∧w'=w:=by
 go_enter Tryz.func107,Tryz.ntmps107
 go_wp2
 go_ret
 exact⟨rfl,rfl⟩
theorem cmp_int (n m:Int) (w:World):Calls Tryz.prog 71 #[.int .i64 n,.int .i64 m] w fun e w'=>e=.returned (.int .i64 (cmpN n m))∧w'=w:=by
 have hN:=isNaN_int
 unfold cmpN
 by_cases h:n<m
 ·
  rw[if_pos h]
  go_enter Tryz.func71,Tryz.ntmps71
  go_wp2_with (go_at_call 107;refine (hN _ _).mono ?_;rintro e w1 ⟨rfl,rfl⟩)
  go_ret
  exact⟨rfl,rfl⟩
 ·
  rw[if_neg h]
  by_cases k:m<n
  ·
   rw[if_pos k]
   go_enter Tryz.func71,Tryz.ntmps71
   go_wp2_with (go_at_call 107;refine (hN _ _).mono ?_;rintro e w1 ⟨rfl,rfl⟩)
   go_ret
   exact⟨rfl,rfl⟩
  ·
   rw[if_neg k]
   go_enter Tryz.func71,Tryz.ntmps71
   go_wp2_with (go_at_call 107;refine (hN _ _).mono ?_;rintro e w1 ⟨rfl,rfl⟩)
   go_ret
   exact⟨rfl,rfl⟩
theorem place_closure (x:Rw) (id:Int) (w:World):Calls Tryz.prog 70 #[rv x,.int .i64 id] w fun e w'=>e=.returned (.int .i64 (cmpN x.1 id))∧Below w.heap.size w w':=by
 obtain⟨a,b,c⟩:=x
 have C:=hidIt (fun W=>cmp_int a id W)
 have HB:=hidIt ((Below.refl w.heap.size w).alloc (Nat.le_refl _) (.cells #[.int .i64 a,.int .i64 b,.int .i64 c] 62))
 simp only
 generalize cmpN a id=r at C ⊢
 go_enter Tryz.func70,Tryz.ntmps70
 go_wp2_with (fail)
 refine (C.out _).mono ?_
 rintro e w1 ⟨rfl,rfl⟩
 go_wp2_with (fail)
 go_ret
 exact⟨rfl,HB.out⟩
structure At (L:List Rw) (id:Int) (k:Nat) (is:Bool):Prop where
 le:k<=L.length
 lo:∀ t,t<k->kat L t<id
 hi:k<L.length->¬ kat L k<id
 yes:is=true->k<L.length∧kat L k=id
 no:is=false->k<L.length->kat L k≠id
def PlcR (L:List Rw) (id:Int) (w:World) (e:Ending) (w':World):Prop:=∃ (k:Nat) (is:Bool),e=.returned (.tuple #[.int .i64 k,.bool is])∧At L id k is∧Below w.heap.size w w'
theorem PlcR.of {L:List Rw} {id:Int} {w w':World} {e:Ending} (k:Nat) (is:Bool) (h:e=.returned (.tuple #[.int .i64 k,.bool is])) (h1:At L id k is) (h2:Below w.heap.size w w'):PlcR L id w e w':=⟨k,is,h,h1,h2⟩
theorem PlcR.out {L:List Rw} {id:Int} {w w':World} {e:Ending} (h:PlcR L id w e w'):∃ (k:Nat) (is:Bool),e=.returned (.tuple #[.int .i64 k,.bool is])∧At L id k is∧Below w.heap.size w w':=h
theorem search_members (a:Option Addr) (cap:Nat) (L:List Rw) (id:Int) (w:World) (h:Rd w a L) (hl:L.length<=100) (hr:Ris (toB L)) :
  Calls Tryz.prog 69 #[.slice a L.length cap,.int .i64 id,.func (.func 70) #[] #[]] w fun e w'=>PlcR L id w e w':=by
 have HR:=hidIt h
 have HM:Hid (∀ s t,s<=t->t<L.length->kat L s<=kat L t):=hidIt (fun s t hst ht=>by
  rcases Nat.lt_or_ge s t with q | q
  ·
   have r:=hr
   unfold Ris at r
   rw[List.pairwise_iff_getElem] at r
   have:=r s t (by rw[List.length_map];omega) (by rw[List.length_map];exact ht) q
   rw[List.getElem_map,List.getElem_map] at this
   unfold kat
   rw[rat_at (by omega),rat_at ht]
   exact Int.le_of_lt this
  ·
   obtain rfl:s=t:=by omega
   exact Int.le_refl _)
 have CC:=hidIt (fun x W=>place_closure x id W)
 clear h hr
 generalize hn:L.length=n at *
 have HN:=hidIt hn
 clear hn
 go_enter Tryz.func69,Tryz.ntmps69
 go_wp2_with (fail)
 go_loopg [9,10] n (fun kx s9 s10 wx=>∃ lo hi:Nat,s9=.int .i64 lo∧s10=.int .i64 hi∧lo<=hi∧hi<=n∧hi - lo<=kx∧Hid (Below w.heap.size w wx)∧Hid ((∀ t,t<lo->kat L t<id)∧(∀ t,hi<=t->t<n->¬ kat L t<id)))
 case atStart=>exact⟨0,n,rfl,rfl,Nat.zero_le _,Nat.le_refl _,by omega,hidIt (Below.refl _ _),hidIt ⟨fun t ht=>by omega,fun t h1 h2=>by omega⟩⟩
 case round =>
  obtain⟨lo,hi,rfl,rfl,hlh,hin,hg,HB,HI⟩:=hrel
  by_cases hlt:lo<hi
  ·
   have hlt':(lo:Int)<(hi:Int):=by omega
   obtain⟨b,off,ea,c0,c1,c2⟩:=(HR.out.kept HB.out).all (i:=(lo+hi) / 2) (by rw[HN.out];omega)
   subst ea
   have hc:=hidIt (CC.out (rat L ((lo+hi) / 2)) wr)
   have hd:=cmpN_lt (rat L ((lo+hi) / 2)).1 id
   have hkey:Hid (kat L ((lo+hi) / 2)=(rat L ((lo+hi) / 2)).1):=hidIt rfl
   generalize rat L ((lo+hi) / 2)=x at c0 c1 c2 hc hd hkey
   obtain⟨xi,xt,xs⟩:=x
   simp only[rv] at c0 c1 c2 hc hd hkey
   generalize cmpN xi id=r at hc hd
   have hm0:(0:Int)<=((lo:Int)+(hi:Int)) / 2:=by omega
   have hm1:((lo:Int)+(hi:Int)) / 2<(n:Int):=by omega
   have hm2:(((lo:Int)+(hi:Int)) / 2).toNat=(lo+hi) / 2:=by omega
   by_cases hp:xi<id
   ·
    rw[decide_eq_true hp] at hd
    go_wp2_with (fail)
    refine hc.out.mono ?_
    rintro e w1 ⟨rfl,k1⟩
    have HB1:=hidIt (HB.out.trans (k1.mono HB.out.size))
    clear k1
    go_wp2_with (fail)
    go_roundg (hi - ((lo+hi) / 2+1))
    case measure=>omega
    case rel =>
     refine⟨(lo+hi) / 2+1,hi,by rw[show ((lo:Int)+(hi:Int)) / 2+1=(((lo+hi) / 2+1:Nat):Int) by omega],rfl,by omega,hin,Nat.le_refl _,HB1,hidIt ⟨fun t ht=>?_,HI.out.2⟩⟩
     have:=HM.out t ((lo+hi) / 2) (by omega) (by omega)
     have:=hkey.out
     omega
   ·
    rw[decide_eq_false hp] at hd
    go_wp2_with (fail)
    refine hc.out.mono ?_
    rintro e w1 ⟨rfl,k1⟩
    have HB1:=hidIt (HB.out.trans (k1.mono HB.out.size))
    clear k1
    go_wp2_with (fail)
    go_roundg ((lo+hi) / 2 - lo)
    case measure=>omega
    case rel =>
     exact⟨lo,(lo+hi) / 2,rfl,by rw[show ((lo:Int)+(hi:Int)) / 2=(((lo+hi) / 2:Nat):Int) by omega],by omega,by omega,Nat.le_refl _,HB1,hidIt ⟨HI.out.1,fun t ht htn=>by
      have:=HM.out ((lo+hi) / 2) t ht htn
      have:=hkey.out
      omega⟩⟩
  ·
   obtain rfl:hi=lo:=by omega
   have hlt':¬ (hi:Int)<(hi:Int):=by omega
   by_cases hend:hi<n
   ·
    have hend':(hi:Int)<(n:Int):=by omega
    obtain⟨b,off,ea,c0,c1,c2⟩:=(HR.out.kept HB.out).all (i:=hi) (by rw[HN.out];exact hend)
    subst ea
    have hc:=hidIt (CC.out (rat L hi) wr)
    have hd:=cmpN_eq (rat L hi).1 id
    have hkey:Hid (kat L hi=(rat L hi).1):=hidIt rfl
    generalize rat L hi=x at c0 c1 c2 hc hd hkey
    obtain⟨xi,xt,xs⟩:=x
    simp only[rv] at c0 c1 c2 hc hd hkey
    generalize cmpN xi id=r at hc hd
    obtain⟨is,his⟩:∃ is,decide (xi=id)=is:=⟨_,rfl⟩
    rw[his] at hd
    have HIS:=hidIt his
    clear his
    go_wp2_with (fail)
    refine hc.out.mono ?_
    rintro e w1 ⟨rfl,k1⟩
    have HB1:=hidIt (HB.out.trans (k1.mono HB.out.size))
    clear k1
    go_wp2_with (fail)
    refine bodyPost_ret (v:=.tuple #[.int .i64 hi,.bool is]) (by simp[results,Tryz.results69,go_sem]) rfl ?_
    exact PlcR.of hi is rfl ⟨by rw[HN.out];exact hin,HI.out.1,fun _=>(by have:=HI.out.2 hi (Nat.le_refl _) hend;omega),fun e=>⟨by rw[HN.out];exact hend,by rw[hkey.out];exact of_decide_eq_true (HIS.out.trans e)⟩,fun e _=>(by rw[hkey.out];exact of_decide_eq_false (HIS.out.trans e))⟩ HB1.out
   ·
    have hend':¬ (hi:Int)<(n:Int):=by omega
    go_wp2_with (fail)
    refine bodyPost_ret (v:=.tuple #[.int .i64 hi,.bool false]) (by simp[results,Tryz.results69,go_sem]) rfl ?_
    exact PlcR.of hi false rfl ⟨by rw[HN.out];exact hin,HI.out.1,fun h=>absurd (by rw[<- HN.out];exact h) hend,fun e=>(by cases e),fun _ h=>absurd (by rw[<- HN.out];exact h) hend⟩ HB.out
theorem impl_placeOf (a:Option Addr) (cap:Nat) (L:List Rw) (id:Int) (w:World) (h:Rd w a L) (hl:L.length<=100) (hr:Ris (toB L)) :
  Calls Tryz.prog 43 #[.slice a L.length cap,.int .i64 id] w fun e w'=>PlcR L id w e w':=by
 have C:=hidIt (search_members a cap L id w h hl hr)
 clear h hr
 generalize L.length=n at *
 go_enter Tryz.func43,Tryz.ntmps43
 go_wp2_with (fail)
 refine C.out.mono ?_
 intro e w1 hz
 obtain⟨k,is,rfl,hk,k1⟩:=hz.out
 clear hz
 have HK:=hidIt hk
 have HB:=hidIt k1
 clear hk k1
 go_wp2_with (fail)
 refine bodyPost_ret (v:=.tuple #[.int .i64 k,.bool is]) (by simp[results,Tryz.results43,go_sem]) rfl ?_
 exact PlcR.of k is rfl HK.out HB.out
end Go.Proofs.YtkeapmmochpcfaaGreat.Mm
