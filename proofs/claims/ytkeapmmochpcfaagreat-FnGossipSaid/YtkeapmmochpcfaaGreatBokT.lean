/- BookOk of the specification. -/
import Derived.Test.YtkeapmmochpcfaaGreatBokS
set_option maxRecDepth 100000
set_option maxHeartbeats 32000000
set_option linter.unusedVariables false
namespace Go.Proofs.YtkeapmmochpcfaaGreat.En
open Go.ChangeShapes Go.WideShapes Go.ChangeAt Go.RowKit
open Rc (BelowBy BelowBy.one wp_region_below calls_below calls_same)
open Bk (Bytes okE newB okBk look Ris)
attribute [local go_sem] str_gtr str_leq
abbrev kat (L:List Rw) (i:Nat):Bytes:=bs (rat L i).1
theorem ris_of {L:List Rw} (h:∀ i,i+1<L.length->kat L i<kat L (i+1)):Ris (toB L):=by
 unfold Ris
 rw[List.pairwise_iff_getElem]
 have far:∀ d i,i+d+1<L.length->kat L i<kat L (i+d+1):=by
  intro d
  induction d with
  | zero=>intro i hi;exact h i hi
  | succ d ih=>intro i hi;exact List.lt_trans (ih i (by omega)) (h (i+d+1) hi)
 intro i j hi hj hij
 rw[List.length_map] at hi hj
 have:=far (j - i - 1) i (by omega)
 rw[show i+(j - i - 1)+1=j by omega] at this
 unfold kat at this
 rw[rat_at hi,rat_at hj] at this
 rw[List.getElem_map,List.getElem_map]
 exact this
theorem ris_to {L:List Rw} (h:Ris (toB L)) (i:Nat) (hi:i+1<L.length):kat L i<kat L (i+1):=by
 unfold Ris at h
 rw[List.pairwise_iff_getElem] at h
 have:=h i (i+1) (by rw[List.length_map];omega) (by rw[List.length_map];exact hi) (by omega)
 rw[List.getElem_map,List.getElem_map] at this
 unfold kat
 rw[rat_at (by omega),rat_at hi]
 exact this
theorem book_yes {L:List Rw} (h1:L.length<=80) (h2:∀ i,i<L.length->okE (toE (rat L i))=true) (h3:∀ i,i+1<L.length->kat L i<kat L (i+1)):okBk (toB L)=true:=by
 refine Bk.ok_mk (by rw[List.length_map];exact h1) (fun e he=>?_) (ris_of h3)
 obtain⟨x,hx,rfl⟩:=List.mem_map.1 he
 obtain⟨i,hi,rfl⟩:=List.mem_iff_getElem.1 hx
 have:=h2 i hi
 rwa [rat_at hi] at this
theorem book_no1 {L:List Rw} (h:¬ L.length<=80):okBk (toB L)=false:=by
 cases e:okBk (toB L) with
 | false=>rfl
 | true=>exact absurd (by have:=Bk.ok_len e;rwa [List.length_map] at this) h
theorem book_no2 {L:List Rw} {i:Nat} (hi:i<L.length) (h:okE (toE (rat L i))=false):okBk (toB L)=false:=by
 cases e:okBk (toB L) with
 | false=>rfl
 | true =>
  have:=Bk.ok_all e (List.mem_map.2 ⟨_,rat_mem hi,rfl⟩)
  rw[h] at this
  cases this
theorem book_no3 {L:List Rw} {i:Nat} (hi:i+1<L.length) (h:¬ kat L i<kat L (i+1)):okBk (toB L)=false:=by
 cases e:okBk (toB L) with
 | false=>rfl
 | true=>exact absurd (ris_to (Bk.ok_ris e) i hi) h
theorem spec_BookOk (a:Option Addr) (cap:Nat) (L:List Rw) (w:World) (h:Rd w a L) (hl:L.length<=9223372036854775807) (hs:∀ i,i<L.length->(rat L i).1.size<=9223372036854775807∧(rat L i).2.1.size<=9223372036854775807) :
  Calls Tryz.prog 35 #[.slice a L.length cap] w fun e w'=>e=.returned (.bool (okBk (toB L)))∧Below w.heap.size w w':=by
 have N1:Hid (¬ L.length<=80->okBk (toB L)=false):=hidIt book_no1
 have N2:Hid (∀ i,i<L.length->okE (toE (rat L i))=false->okBk (toB L)=false):=hidIt (fun i hi h=>book_no2 hi h)
 have N3:Hid (∀ i,i+1<L.length->¬ kat L i<kat L (i+1)->okBk (toB L)=false):=hidIt (fun i hi h=>book_no3 hi h)
 have N4:Hid (L.length<=80->(∀ i,i<L.length->okE (toE (rat L i))=true)->(∀ i,i+1<L.length->kat L i<kat L (i+1))->okBk (toB L)=true):=hidIt book_yes
 generalize okBk (toB L)=r at N1 N2 N3 N4 ⊢
 have HR:=hidIt h
 have HS:=hidIt hs
 clear h hs
 generalize hn:L.length=m at *
 have HN:=hidIt hn
 clear hn
 by_cases h80:m<=80
 ·
  have h80':¬ (80:Int)<(m:Int):=by omega
  go_enter Tryz.func35,Tryz.ntmps35
  go_wp2_with (fail)
  go_loopw [3] (fun y wx=>∃ i:Nat,y=.int .i64 i∧i<=m∧Hid (∀ j,j<i->okE (toE (rat L j))=true)∧Hid (∀ j,j+1<i->kat L j<kat L (j+1))∧Hid (Below w.heap.size w wx)) (fun y _=>(m - intOf y).toNat)
  case atStart=>exact⟨0,rfl,by omega,hidIt (fun j hj=>by omega),hidIt (fun j hj=>by omega),hidIt (Below.refl _ _)⟩
  case round =>
   obtain⟨i,rfl,hi,HO,HK,HB⟩:=hrel
   by_cases hin:i<m
   ·
    have hin':(i:Int)<(m:Int):=by omega
    have HRx:=hidIt (HR.out.kept HB.out)
    obtain⟨b,off,ea,c0,c1,c2,c3,c4⟩:=HRx.out.all (i:=i) (by rw[HN.out];exact hin)
    subst ea
    have CE:=hidIt (fun W=>spec_EntryOk (rat L i) W (HS.out i hin).1 (HS.out i hin).2)
    obtain⟨ok,hok⟩:∃ ok,okE (toE (rat L i))=ok:=⟨_,rfl⟩
    rw[hok] at CE
    have hkey:Hid (kat L i=bs (rat L i).1):=hidIt rfl
    have HOK:=hidIt hok
    clear hok
    generalize rat L i=x at c0 c1 c2 c3 c4 CE hkey
    obtain⟨xk,xv,xt,xn,xg⟩:=x
    simp only[rv] at CE c0 c1 c2 c3 c4
    haveI:=BelowBy.one wr
    have g0:=fun p:BelowBy wr=>p.cell c0
    have g1:=fun p:BelowBy wr=>p.cell c1
    have g2:=fun p:BelowBy wr=>p.cell c2
    have g3:=fun p:BelowBy wr=>p.cell c3
    have g4:=fun p:BelowBy wr=>p.cell c4
    cases ok with
    | false =>
     have er:=N2.out i hin HOK.out
     subst er
     clear c0 c1 c2 c3 c4
     go_wp2_with (fail)
     refine wp_region_below (by kernel_rfl) (by kernel_rfl) ?_
     repeat (go_big_quiet_step (first | (go_at_call 59;refine calls_below (CE.out _))))
     refine wpQuiet_nil ?_
     intro _ hw'
     obtain⟨pq,rfl⟩:=hw'
     have HB1:=hidIt (HB.out.trans (pq.h.mono HB.out.size))
     generalize pq.world=w2 at HB1 ⊢
     clear g0 g1 g2 g3 g4
     go_wp2_with (fail)
     go_ret
     exact⟨rfl,HB1.out⟩
    | true =>
     have HO':Hid (∀ j,j<i+1->okE (toE (rat L j))=true):=hidIt (fun j hj=>by
      rcases Nat.lt_succ_iff_lt_or_eq.1 hj with h | h
      ·
       exact HO.out j h
      ·
       subst h;exact HOK.out)
     rcases Nat.eq_zero_or_pos i with hz | hp
     ·
      subst hz
      simp only[Nat.zero_mul,Nat.add_zero] at g0 g1 g2 g3 g4
      clear c0 c1 c2 c3 c4
      go_wp2_with (fail)
      refine wp_region_below (by kernel_rfl) (by kernel_rfl) ?_
      repeat (go_big_quiet_step (first | (go_at_call 59;refine calls_below (CE.out _))))
      refine wpQuiet_nil ?_
      intro _ hw'
      obtain⟨pq,rfl⟩:=hw'
      have HB1:=hidIt (HB.out.trans (pq.h.mono HB.out.size))
      generalize pq.world=w2 at HB1 ⊢
      clear g0 g1 g2 g3 g4
      go_wp2_with (fail)
      exact⟨⟨1,by simp,by omega,HO',hidIt (fun j hj=>by omega),HB1⟩,by simp[intOf];omega⟩
     ·
      obtain⟨j,rfl⟩:∃ j,i=j+1:=⟨i - 1,by omega⟩
      obtain⟨b',off',ea,p0,_⟩:=HRx.out.all (i:=j) (by rw[HN.out];omega)
      cases ea
      have hkj:Hid (kat L j=bs (rat L j).1):=hidIt rfl
      generalize (rat L j).1=pk at p0 hkj
      have k0:=fun p:BelowBy wr=>p.cell p0
      have hless:=less_of pk xk
      have hpos:(0:Int)<((j:Int)+1):=by omega
      clear c0 c1 c2 c3 c4 p0
      by_cases hlt:bs pk<bs xk
      ·
       rw[decide_eq_true hlt] at hless
       have HK':Hid (∀ q,q+1<j+1+1->kat L q<kat L (q+1)):=hidIt (fun q hq=>by
        rcases Nat.lt_succ_iff_lt_or_eq.1 (show q+1<j+1+1 from hq) with h | h
        ·
         exact HK.out q h
        ·
         have:q=j:=by omega
         subst this
         rw[hkj.out,hkey.out]
         exact hlt)
       clear hlt
       go_wp2_with (fail)
       refine wp_region_below (by kernel_rfl) (by kernel_rfl) ?_
       repeat (go_big_quiet_step (first | (go_at_call 59;refine calls_below (CE.out _))))
       refine wpQuiet_nil ?_
       intro _ hw'
       obtain⟨pq,rfl⟩:=hw'
       have HB1:=hidIt (HB.out.trans (pq.h.mono HB.out.size))
       generalize pq.world=w2 at HB1 ⊢
       clear g0 g1 g2 g3 g4 k0
       go_wp2_with (fail)
       exact⟨⟨j+1+1,by simp,by omega,HO',HK',HB1⟩,by simp[intOf];omega⟩
      ·
       have er:=N3.out j (by omega) (by rw[hkj.out,hkey.out];exact hlt)
       rw[decide_eq_false hlt] at hless
       subst er
       clear hlt
       go_wp2_with (fail)
       refine wp_region_below (by kernel_rfl) (by kernel_rfl) ?_
       repeat (go_big_quiet_step (first | (go_at_call 59;refine calls_below (CE.out _))))
       refine wpQuiet_nil ?_
       intro _ hw'
       obtain⟨pq,rfl⟩:=hw'
       have HB1:=hidIt (HB.out.trans (pq.h.mono HB.out.size))
       generalize pq.world=w2 at HB1 ⊢
       clear g0 g1 g2 g3 g4 k0
       go_wp2_with (fail)
       go_ret
       exact⟨rfl,HB1.out⟩
   ·
    have hin':¬ (i:Int)<(m:Int):=by omega
    have HI:Hid (i=m):=hidIt (by omega)
    have er:=N4.out h80 (fun j hj=>HO.out j (by have:=HI.out;omega)) (fun j hj=>HK.out j (by have:=HI.out;omega))
    subst er
    go_wp2_with (fail)
    go_ret
    exact⟨rfl,HB.out⟩
 ·
  have h80':(80:Int)<(m:Int):=by omega
  have er:=N1.out h80
  subst er
  go_enter Tryz.func35,Tryz.ntmps35
  go_wp2
  go_ret
  exact⟨rfl,Below.refl _ _⟩
end Go.Proofs.YtkeapmmochpcfaaGreat.En
