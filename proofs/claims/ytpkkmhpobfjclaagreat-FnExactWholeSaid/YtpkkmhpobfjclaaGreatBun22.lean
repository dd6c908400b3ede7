/- l13Copy of the specification. (Written by wip/mkCopy.py.) -/
import Derived.Test.YtpkkmhpobfjclaaGreatBun21
import Derived.Test.YtpkkmhpobfjclaaGreatBun18
import Derived.Test.YtpkkmhpobfjclaaGreatBun4
import Derived.Test.YtpkkmhpobfjclaaGreatBun3
import Derived.Test.YtpkkmhpobfjclaaGreatBoxM
set_option maxRecDepth 100000
set_option maxHeartbeats 32000000
set_option linter.unusedVariables false
namespace Go.Proofs.YtpkkmhpobfjclaaGreat.Rp
open Go.ChangeShapes Go.WideShapes Go.ChangeAt Go.RowKit
open Vv (Sl sv hidIt)
open Rg (upd waits wp_region_inv op_at)
end Go.Proofs.YtpkkmhpobfjclaaGreat.Rp
namespace Go.Proofs.YtpkkmhpobfjclaaGreat.Rp
open Go.ChangeShapes Go.WideShapes Go.ChangeAt Go.RowKit
open Vv (Sl sv hidIt)
def svals (S : Nat → Sl) (n : Nat) : List Value:=(List.range n).map (fun i=>sv (S i))
theorem svals_at {S : Nat → Sl} {n i : Nat} (h : i < n) : (svals S n)[i]? = some (sv (S i)):=by simp [svals,h]
theorem svals_push (S : Nat → Sl) (n : Nat) (s : Sl) : svals (Hq.upd S n s) (n + 1) = svals S n ++ [sv s]:=by
 unfold svals
 rw [List.range_succ,List.map_append]
 congr 1
 ·
  refine List.map_congr_left (fun i hi=>?_)
  rw [Hq.upd_ne (by have:=List.mem_range.1 hi; omega)]
 ·
  simp [Hq.upd_at]
def KtS (w wx : World) (L : List Rep) (i : Nat) (v : Value) : Prop:=∃ S : Nat → Sl,wx.ownsRow w.heap.size 24 1 v i (svals S i) ∧ (∀ j,j < i → RdE w (S j) (rat L j).1) ∧ Below w.heap.size w wx
theorem keys_len {L : List Rep} {n : Nat} {x : Nat → En.Rt} {J : List En.Rw} (hT : Tame L) (r : En.Ra (fun i=>(rat L i).1) L.length n x) (hJ : Bk.Ris (En.toB J)) (hk : ∀ k,(∃ i,i < n ∧ ∃ e ∈ En.toB (x i).L,e.key = k) ↔ ∃ e ∈ En.toB J,e.key = k) : J.length = (Bk.whole (bks L)).length:=by
 have h1:=Bk.same_len hJ (Bk.whole_ris hT.bris) (fun k=>by
  rw [← hk k,Bk.whole_keys hT.bris]
  constructor
  ·
   rintro ⟨i,hi,e,he,q⟩
   obtain ⟨j,hj,ej⟩:=r.from' i hi
   rw [ej] at he
   exact ⟨_,List.mem_map.2 ⟨rat L j,rat_mem hj,rfl⟩,e,he,q⟩
  ·
   rintro ⟨b,hb,e,he,q⟩
   obtain ⟨y,hy,rfl⟩:=List.mem_map.1 hb
   obtain ⟨j,hj,rfl⟩:=List.mem_iff_getElem.1 hy
   rw [← rat_at hj] at he
   obtain ⟨i,hi,ei⟩:=r.to' j hj (by intro z; rw [z] at he; simp at he)
   exact ⟨i,hi,e,by rw [ei]; exact he,q⟩)
 rw [En.toB_length] at h1
 exact h1
theorem tot_tame {L : List Rep} (hT : Tame L) : Hq.tot List.length (fun i=>(rat L i).1) L.length ≤ 480:=by
 have:=Hq.tot_le List.length (x:=fun i=>(rat L i).1) (m:=80) (n:=L.length) (fun i hi=>hT.bl i hi)
 have:=hT.n
 omega
theorem impl_keysTogether (a : Option Addr) (cap : Nat) (L : List Rep) (w : World) (h : Rd w a L) (hT : Tame L) (h1 : 1 ≤ L.length) :
  Calls Tryz.prog 35 #[.slice a L.length cap] w fun e w'=>e = .returned (.int .i64 ((Bk.whole (bks L)).length : Int)) ∧ Below w.heap.size w w':=by
 obtain ⟨i0,hi0,hz0,hz1,hz2⟩:=info_parts En.infoSl
 have HR:=hidIt h
 have hm6:=hT.n
 have HFin : Hid (∀ W c q (S : Nat → Sl),W.ownsRow w.heap.size 24 1 (.slice (some ⟨q,0,none⟩) L.length c) L.length (svals S L.length) → (∀ j,j < L.length → RdE W (S j) (rat L j).1) → Calls Tryz.prog 55 #[.slice (some ⟨q,0,none⟩) L.length c] W fun e w'=>e = .returned (.pointer (some ⟨W.heap.size + 1,0,none⟩)) ∧ En.RoS W w' (fun i=>(rat L i).1) L.length):=hidIt (fun W c q S ho hr=>En.impl_restsOfN (S:=S) ⟨fun i hi=>by rw [World.ownsRow.cellAt ho i (by omega)]; exact svals_at hi,fun i hi=>(hr i hi).len,fun i hi=>(hr i hi).rd,fun i hi=>(hr i hi).le⟩ (by omega) (World.ownsRow.lt ho q rfl).2)
 have HNew : Hid (∀ W W',En.RoS W W' (fun i=>(rat L i).1) L.length → Calls Tryz.prog 54 #[.pointer (some ⟨W.heap.size + 1,0,none⟩)] W' fun e w'=>(∃ za zc,e = .returned (.slice za (Bk.whole (bks L)).length zc)) ∧ Below W.heap.size W w'):=hidIt (fun W W' hr=>by
  obtain ⟨n,x,⟨g,cp,s⟩,ok,r,b⟩:=hr
  have hris : ∀ i,i < n → Bk.Ris (En.toB (x i).L):=fun i hi=>by
   obtain ⟨j,hj,ej⟩:=r.from' i hi
   rw [ej]
   exact hT.br j hj
  have htot : Hq.tot List.length (fun i=>En.toB (x i).L) n ≤ 480:=by
   have e1:=En.tot_map List.length (fun q : En.Rt=>En.toB q.L) x n
   rw [e1]
   simp only [En.toB_length]
   rw [r.sum]
   exact tot_tame hT
  refine (En.impl_newestN s ok (by have:=r.le; omega) hris htot (by omega)).mono ?_
  rintro e w2 ⟨v,J,rfl,o,rJ,kJ,_,k2⟩
  obtain ⟨za,zc,ez,_⟩:=o.form
  rw [keys_len hT r rJ kJ] at ez
  exact ⟨⟨za,zc,by rw [ez]⟩,b.trans k2⟩)
 generalize ((Bk.whole (bks L)).length) = ans at HNew ⊢
 clear h hT
 generalize hn : L.length = m at *
 have HN:=hidIt hn
 clear hn
 go_enter Tryz.func35,Tryz.ntmps35
 go_wp2_with (fail)
 go_loopw [3,9] (fun v y wx=>∃ (i : Nat) (va : Option Addr) (vn vc : Nat),y = .int .i64 i ∧ v = .slice va vn vc ∧ i ≤ m ∧ Hid (KtS w wx L i (.slice va vn vc))) (fun _ y _=>(m - intOf y).toNat)
 case atStart=>exact ⟨0,_,_,_,rfl,rfl,by omega,hidIt ⟨fun _=>(none,0,0),World.ownsRow_made w #[] 0 (Nat.le_refl _) (by decide) rfl,fun j hj=>absurd hj (by omega),(Below.refl _ w).alloc (Nat.le_refl _) _⟩⟩
 case round =>
  obtain ⟨i,va,vn,vc,rfl,rfl,hi,HS⟩:=hrel
  by_cases hin : i < m
  ·
   have hin' : (i : Int) < (m : Int):=by omega
   have hiL : i < L.length:=by rw [HN.out]; exact hin
   obtain ⟨S,ho,hr,hb⟩:=HS.out
   obtain ⟨b,off,p,q,ea,c0',c1',rE,rM⟩:=HR.out.one (i:=i) hiL
   subst ea
   have hbw : b < w.heap.size:=World.block_lt_of_cell? _ _ c0'
   have c0:=(hb.cell (p:=⟨b,off + i * 2,none⟩) hbw).trans c0'
   have c1:=(hb.cell (p:=⟨b,off + i * 2 + 1,none⟩) hbw).trans c1'
   have hbr : b < wr.heap.size:=Nat.lt_of_lt_of_le hbw hb.size
   clear c0' c1'
   have HO:=hidIt ho
   have HRr:=hidIt hr
   have HB:=hidIt hb
   have HE:=hidIt rE
   obtain ⟨p0,p1,p2⟩:=p
   obtain ⟨q0,q1,q2⟩:=q
   simp only [sv] at c0 c1
   clear HS ho hr hb rE rM
   have HA1:=hidIt (((Below.refl wr.heap.size wr).alloc (Nat.le_refl _) (.cells #[.slice p0 p1 p2,.slice q0 q1 q2] 27)).alloc (by simp) (.cells #[.slice p0 p1 p2] 24))
   have HOw : Hid (((wr.alloc (.cells #[.slice p0 p1 p2,.slice q0 q1 q2] 27)).alloc (.cells #[.slice p0 p1 p2] 24)).ownsRow w.heap.size 24 1 (.slice va vn vc) i (svals S i)):=hidIt (World.ownsRow.alloc (World.ownsRow.alloc HO.out _) _)
   go_wp2_with (first | (at_builtin; refine wpList_append_own _ rfl _ _ 91 rfl w.heap.size 24 i0 (.slice none 0 0) 1 24 Tryz.underlying91 hi0 hz0 hz1 hz2 rfl (by decide) _ _ _ rfl HOw.out ⟨wr.heap.size + 1,0,none⟩ 1 1 [.slice p0 p1 p2] rfl rfl ?f1 ?f2 ?f3 ?f4 ?f5 ?_))
   case f1=>intro j u hj; match j,hj with | 0,hj=>simp at hj; subst hj; simp [Addr.add]
   case f2=>intro u hu; simp at hu; subst hu; rfl
   case f3=>unfold maxLen; omega
   case f4=>omega
   case f5=>have:=HB.out.size; simp; omega
   intro v' w9 hown hgrow _
   have HS9 : Hid (KtS w w9 L (i + 1) v'):=hidIt (by
    have hsz:=HB.out.size
    have k9 : Below w.heap.size wr w9:=(HA1.out.mono hsz).grown hgrow (by simp; omega) (fun k hk=>(World.ownsRow.lt HO.out k hk).1)
    refine ⟨Hq.upd S i (p0,p1,p2),by rw [svals_push]; exact hown,fun j hj=>?_,HB.out.trans k9⟩
    by_cases e : j = i
    ·
     subst e
     rw [Hq.upd_at]
     exact HE.out
    ·
     rw [Hq.upd_ne e]
     exact HRr.out j (by omega))
   obtain ⟨za,zn,zc,ez⟩ : ∃ a n c,v' = .slice a n c:=by
    rcases hown.2 with ⟨e,_⟩ | ⟨g,cap,cur,e,_⟩
    ·
     exact ⟨_,_,_,e⟩
    ·
     exact ⟨_,_,_,e⟩
   subst ez
   clear hown hgrow
   go_wp2_with (fail)
   exact ⟨⟨i + 1,za,zn,zc,by first | rfl | simp,rfl,by omega,HS9⟩,by simp [intOf]; omega⟩
  ·
   obtain rfl : i = m:=by omega
   obtain ⟨S,ho,hr,hb⟩:=HS.out
   obtain ⟨q,c,es⟩ : ∃ q c,Value.slice va vn vc = .slice (some ⟨q,0,none⟩) i c:=by
    rcases ho.2 with ⟨_,e⟩ | ⟨g,cap,cur,e,_⟩
    ·
     omega
    ·
     exact ⟨_,_,e⟩
   cases es
   have HC:=hidIt (HFin.out _ _ q S ho (fun j hj=>(hr j hj).kept hb))
   have HB:=hidIt hb
   clear ho hr hb HS
   go_wp2_with (fail)
   refine HC.out.mono ?_
   rintro e w2 ⟨rfl,r2⟩
   have HC2:=hidIt (HNew.out _ _ r2)
   clear r2
   go_wp2_with (fail)
   refine HC2.out.mono ?_
   rintro e w3 ⟨⟨za,zc,rfl⟩,k3⟩
   have HB3:=hidIt (on HB.out k3)
   clear k3
   go_wp2_with (fail)
   go_ret
   exact ⟨rfl,HB3.out⟩
theorem impl_GroupOk (a : Option Addr) (cap : Nat) (L : List Rep) (w : World) (h : Rd w a L) (hs : Short L) (hl : L.length ≤ 9223372036854775807) (hlb : ∀ i,i < L.length → (rat L i).1.length ≤ 9223372036854775807 ∧ (rat L i).2.length ≤ 9223372036854775807) :
  Calls Tryz.prog 17 #[.slice a L.length cap] w fun e w'=>e = .returned (.bool (okG L)) ∧ Below w.heap.size w w':=by
 have N1 : Hid (¬ 1 ≤ L.length → okG L = false):=hidIt (fun q=>by cases e : okG L with | false=>rfl | true=>exact absurd (okG_all e).1 q)
 have N2 : Hid (¬ L.length ≤ 6 → okG L = false):=hidIt (fun q=>by cases e : okG L with | false=>rfl | true=>exact absurd (okG_all e).2.1 q)
 have N3 : Hid (∀ i,i < L.length → okR (rat L i) = false → okG L = false):=hidIt (fun i hi q=>by cases e : okG L with | false=>rfl | true=>exact absurd ((okG_all e).2.2.1 i hi) (by rw [q]; decide))
 have N4 : Hid (1 ≤ L.length → L.length ≤ 6 → (∀ i,i < L.length → okR (rat L i) = true) → okG L = decide ((Bk.whole (bks L)).length ≤ 80)):=hidIt (fun h1 h2 h3=>by
  by_cases q : (Bk.whole (bks L)).length ≤ 80
  ·
   rw [okG_mk h1 h2 h3 q,decide_eq_true q]
  ·
   rw [decide_eq_false q]
   cases e : okG L with
   | false=>rfl
   | true=>exact absurd (okG_all e).2.2.2 q)
 have CW:=hidIt (fun W (r : Rd W a L) (t : Tame L) h1=>impl_keysTogether a cap L W r t h1)
 have HTM:=hidIt (fun h2 h3=>tame_of (L:=L) h2 h3)
 have CR:=hidIt (fun W s t i (hi : i < L.length) (hE : RdE W s (rat L i).1) (hM : RdM W t (rat L i).2)=>impl_replicaOk s t (rat L i) W hE hM (hs i hi) (hlb i hi).1 (hlb i hi).2)
 have HR:=hidIt h
 clear h hs hlb
 generalize okG L = r at N1 N2 N3 N4 ⊢
 generalize (Bk.whole (bks L)).length = ans at CW N4
 generalize hn : L.length = m at *
 have HN:=hidIt hn
 clear hn
 by_cases h1 : 1 ≤ m
 ·
  by_cases h6 : m ≤ 6
  ·
   have g1 : ¬ (m : Int) < 1:=by omega
   have g1' : decide ((m : Int) < 1) = false:=decide_eq_false g1
   have g2 : decide ((6 : Int) < (m : Int)) = false:=decide_eq_false (by omega)
   go_enter Tryz.func17,Tryz.ntmps17
   go_wp2_with (fail)
   go_loopw [15] (fun y wx=>∃ i : Nat,y = .int .i64 i ∧ i ≤ m ∧ Hid (∀ j,j < i → okR (rat L j) = true) ∧ Hid (Below w.heap.size w wx)) (fun y _=>(m - intOf y).toNat)
   case atStart=>exact ⟨0,rfl,by omega,hidIt (fun j hj=>by omega),hidIt (Below.refl _ _)⟩
   case round =>
    obtain ⟨i,rfl,hi,HO,HB⟩:=hrel
    by_cases hin : i < m
    ·
     have hin' : (i : Int) < (m : Int):=by omega
     have hiL : i < L.length:=by rw [HN.out]; exact hin
     obtain ⟨b,off,p,q,ea,c0,c1,rE,rM⟩:=(HR.out.kept HB.out).one (i:=i) hiL
     subst ea
     have hbw : b < wr.heap.size:=World.block_lt_of_cell? _ _ c0
     have HA:=hidIt ((Below.refl wr.heap.size wr).alloc (Nat.le_refl _) (.cells #[sv p,sv q] 27))
     have C1:=hidIt (CR.out _ p q i hin (rE.kept HA.out) (rM.kept HA.out))
     obtain ⟨k,HOK⟩ : ∃ k,Hid (okR (rat L i) = k):=⟨_,hidIt rfl⟩
     rw [HOK.out] at C1
     obtain ⟨p0,p1,p2⟩:=p
     obtain ⟨q0,q1,q2⟩:=q
     simp only [sv] at c0 c1 C1 HA
     clear rE rM
     cases k with
     | false =>
      have er:=N3.out i hin HOK.out
      subst er
      go_wp2_with (fail)
      refine C1.out.mono ?_
      rintro e w1 ⟨rfl,k⟩
      have HB1:=hidIt (on (on HB.out HA.out) k)
      clear k
      go_wp2_with (fail)
      go_ret
      exact ⟨rfl,HB1.out⟩
     | true =>
      go_wp2_with (fail)
      refine C1.out.mono ?_
      rintro e w1 ⟨rfl,k⟩
      have HB1:=hidIt (on (on HB.out HA.out) k)
      clear k
      go_wp2_with (fail)
      refine ⟨⟨i + 1,by simp,by omega,hidIt (fun j hj=>?_),HB1⟩,by simp [intOf]; omega⟩
      rcases Nat.lt_succ_iff_lt_or_eq.1 hj with q | q
      ·
       exact HO.out j q
      ·
       subst q; exact HOK.out
    ·
     have hin' : ¬ (i : Int) < (m : Int):=by omega
     obtain rfl : i = m:=by omega
     have er:=N4.out h1 h6 HO.out
     have HT:=hidIt (HTM.out h6 HO.out)
     go_wp2_with (fail)
     refine (CW.out _ (HR.out.kept HB.out) HT.out h1).mono ?_
     rintro e w1 ⟨rfl,k⟩
     have HB1:=hidIt (on HB.out k)
     clear k
     subst er
     have hd : decide ((ans : Int) ≤ 80) = decide (ans ≤ 80):=decide_eq_decide.2 (by omega)
     go_wp2_with (fail)
     go_ret
     first | exact ⟨rfl,HB1.out⟩ | exact ⟨by rw [hd],HB1.out⟩
  ·
   have g1' : decide ((m : Int) < 1) = false:=decide_eq_false (by omega)
   have g2 : decide ((6 : Int) < (m : Int)) = true:=decide_eq_true (by omega)
   have er:=N2.out h6
   subst er
   go_enter Tryz.func17,Tryz.ntmps17
   go_wp2
   go_ret
   exact ⟨rfl,Below.refl _ _⟩
 ·
  have g1' : decide ((m : Int) < 1) = true:=decide_eq_true (by omega)
  have er:=N1.out h1
  subst er
  go_enter Tryz.func17,Tryz.ntmps17
  go_wp2
  go_ret
  exact ⟨rfl,Below.refl _ _⟩
end Go.Proofs.YtpkkmhpobfjclaaGreat.Rp
namespace Go.Proofs.YtpkkmhpobfjclaaGreat.Rp
open Go.ChangeShapes Go.WideShapes Go.ChangeAt Go.RowKit
open Vv (Sl sv hidIt)
open Rg (upd waits wp_region_inv op_at)
end Go.Proofs.YtpkkmhpobfjclaaGreat.Rp
namespace Go.Proofs.YtpkkmhpobfjclaaGreat.Rp
open Go.ChangeShapes Go.WideShapes Go.ChangeAt Go.RowKit
open Vv (Sl sv hidIt)
open Rg (upd waits wp_region_inv op_at)
end Go.Proofs.YtpkkmhpobfjclaaGreat.Rp
