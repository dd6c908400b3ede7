/- A slice as a value: where it begins, how long it is, how much room it has. -/
import Derived.Test.YtpkkmhpobfjclaaGreatMem
import Derived.WalkKit
import Derived.Test.YtpkkmhpobfjclaaGreatEntL
import Derived.Test.YtpkkmhpobfjclaaGreatMem2L
import Derived.Test.YtpkkmhpobfjclaaGreatBoxM
import Derived.Test.YtpkkmhpobfjclaaGreatBokS
import Derived.Test.YtpkkmhpobfjclaaGreatBun2
import Derived.Test.YtpkkmhpobfjclaaGreatBokI
import Derived.Test.YtpkkmhpobfjclaaGreatBun3
import Derived.Test.YtpkkmhpobfjclaaGreatProg
import Derived.Laws.OwnMore
import Derived.Deep.OwnRows
import Derived.Deep.Strs
import Derived.OwnWalk
import Derived.OpenShut
import Derived.Laws.AppendOwn
import Derived.Lib.SmallJoins
set_option maxRecDepth 100000
set_option maxHeartbeats 32000000
set_option linter.unusedVariables false
namespace Go.Proofs.YtpkkmhpobfjclaaGreat.Vv
open Go.ChangeShapes Go.WideShapes Go.ChangeAt Go.RowKit
theorem hidIt {p : Prop} (h : p) : Hid p:=h
abbrev Sl:=Option Addr × Nat × Nat
abbrev sv (x : Sl) : Value:=.slice x.1 x.2.1 x.2.2
end Go.Proofs.YtpkkmhpobfjclaaGreat.Vv
namespace Go.Proofs.YtpkkmhpobfjclaaGreat.Rp
open Go.ChangeShapes Go.WideShapes Go.ChangeAt Go.RowKit
open Vv (Sl sv hidIt)
open Rc (BelowBy BelowBy.one wp_region_below calls_below calls_same)
abbrev Rep:=List En.Rw × List Mm.Rw
structure RdE (w : World) (s : Sl) (L : List En.Rw) : Prop where
 len : s.2.1 = L.length
 rd : En.Rd w s.1 L
 na : s.1 = none → s.2.2 = 0
 le : L.length ≤ s.2.2
 cap : s.2.2 ≤ 9223372036854775807
structure RdM (w : World) (s : Sl) (L : List Mm.Rw) : Prop where
 len : s.2.1 = L.length
 rd : Mm.Rd w s.1 L
 na : s.1 = none → s.2.2 = 0
 le : L.length ≤ s.2.2
 cap : s.2.2 ≤ 9223372036854775807
theorem RdE.kept {w w' : World} {s : Sl} {L : List En.Rw} (h : RdE w s L) (k : Below w.heap.size w w') : RdE w' s L:=⟨h.len,h.rd.kept k,h.na,h.le,h.cap⟩
theorem RdM.kept {w w' : World} {s : Sl} {L : List Mm.Rw} (h : RdM w s L) (k : Below w.heap.size w w') : RdM w' s L:=⟨h.len,h.rd.kept k,h.na,h.le,h.cap⟩
theorem rdE_of {w : World} {base : Nat} {s : Sl} {L : List En.Rw} (h : En.Own w base (sv s) L) : RdE w s L:=by
 obtain ⟨a,c,e,h1,h2,r,h4,_⟩:=h.form
 obtain ⟨s0,s1,s2⟩:=s
 simp only [sv,Value.slice.injEq] at e
 obtain ⟨rfl,rfl,rfl⟩:=e
 exact ⟨rfl,r,h4,h1,h2⟩
theorem rdM_of {w : World} {base : Nat} {s : Sl} {L : List Mm.Rw} (h : Mm.Own w base (sv s) L) : RdM w s L:=by
 obtain ⟨a,c,e,h1,h2,r,h4,_⟩:=h.form
 obtain ⟨s0,s1,s2⟩:=s
 simp only [sv,Value.slice.injEq] at e
 obtain ⟨rfl,rfl,rfl⟩:=e
 exact ⟨rfl,r,h4,h1,h2⟩
theorem slE {w : World} {base : Nat} {v : Value} {L : List En.Rw} (h : En.Own w base v L) : ∃ s : Sl,v = sv s:=by
 obtain ⟨a,c,e,_⟩:=h.form
 exact ⟨(a,L.length,c),e⟩
theorem slM {w : World} {base : Nat} {v : Value} {L : List Mm.Rw} (h : Mm.Own w base v L) : ∃ s : Sl,v = sv s:=by
 obtain ⟨a,c,e,_⟩:=h.form
 exact ⟨(a,L.length,c),e⟩
theorem on {W a b : World} (h : Below W.heap.size W a) (k : Below a.heap.size a b) : Below W.heap.size W b:=h.trans (k.mono h.size)
def bulk1 (r : Rep) : Nat:=r.1.length + r.2.length
theorem sz_any (s t : Sl) (r : Rep) (l : Int) (w : World) (hE : RdE w s r.1) (hM : RdM w t r.2) (hs : ∀ j,j < r.1.length → (En.rat r.1 j).1.size ≤ 9223372036854775807 ∧ (En.rat r.1 j).2.1.size ≤ 9223372036854775807) (h0 : 0 ≤ l) (h1 : l ≤ 1048576) :
  Calls Tryz.prog 13 #[.agg #[sv s,sv t],.int .i64 l] w fun e w'=>∃ q : Int,e = .returned (.int .i64 q) ∧ En.Le2 q l (bulk1 r) ∧ Below w.heap.size w w':=by
 obtain ⟨s0,s1,s2⟩:=s
 obtain ⟨t0,t1,t2⟩:=t
 obtain ⟨e1,rE,nE,lE,cE⟩:=hE
 obtain ⟨e2,rM,nM,lM,cM⟩:=hM
 simp only at e1 rE nE lE cE e2 rM nM lM cM
 subst e1 e2
 have C1:=hidIt (fun W (k : En.Rd W s0 r.1)=>En.szS_any s0 s2 r.1 l W k (by omega) hs h0 h1)
 have C2:=hidIt (fun l' W (k : Mm.Rd W t0 r.2)=>Mm.szS_any t0 t2 r.2 l' W k (by omega))
 have HE:=hidIt rE
 have HM:=hidIt rM
 clear rE rM hs
 unfold bulk1
 generalize r.1.length = m1 at *
 generalize r.2.length = m2 at *
 have BX:=hidIt (Bo.Box.new w #[.slice s0 m1 s2,.slice t0 m2 t2] 40)
 have HB:=hidIt ((Below.refl w.heap.size w).alloc (Nat.le_refl _) (.cells #[.slice s0 m1 s2,.slice t0 m2 t2] 40))
 go_enter Tryz.func13,Tryz.ntmps13
 go_wp2_with (fail)
 refine (C1.out _ (HE.out.kept HB.out)).mono ?_
 rintro e w1 ⟨q,rfl,hq,_,k1⟩
 have HQ:=hidIt hq
 have HB1:=hidIt (on HB.out k1)
 have b1:=(BX.out.kept k1).c 1 rfl
 have q1:=hq.le
 clear k1 hq
 by_cases hneg : q < 0
 ·
  go_wp2_with (fail)
  go_ret
  first | exact ⟨-1,rfl,⟨by omega,fun h=>by omega⟩,HB1.out⟩ | exact ⟨⟨by omega,fun h=>by omega⟩,HB1.out⟩
 ·
  go_wp2_with (fail)
  refine (C2.out q _ (HM.out.kept HB1.out) (by omega) (by omega)).mono ?_
  rintro e w2 ⟨p,rfl,hp,_,k2⟩
  have HP:=hidIt hp
  have HB2:=hidIt (on HB1.out k2)
  have p1:=hp.le
  clear k2 hp
  by_cases hneg2 : p < 0
  ·
   go_wp2_with (fail)
   go_ret
   first | exact ⟨-1,rfl,⟨by omega,fun h=>by omega⟩,HB2.out⟩ | exact ⟨⟨by omega,fun h=>by omega⟩,HB2.out⟩
  ·
   go_wp2_with (fail)
   go_ret
   have h1:=HQ.out.sum (by omega)
   have h2:=HP.out.sum (by omega)
   first | exact ⟨p,rfl,⟨by omega,fun h=>by omega⟩,HB2.out⟩ | exact ⟨⟨by omega,fun h=>by omega⟩,HB2.out⟩
def TwoP (w : World) (r : Rep) (e : Ending) (w' : World) : Prop:=∃ s t : Sl,e = .returned (.agg #[sv s,sv t]) ∧ En.Own w' w.heap.size (sv s) r.1 ∧ Mm.Own w' w.heap.size (sv t) r.2 ∧ Below w.heap.size w w'
theorem TwoP.of {w w' : World} {r : Rep} {e : Ending} {s t : Sl} (h : e = .returned (.agg #[sv s,sv t])) (h1 : En.Own w' w.heap.size (sv s) r.1) (h2 : Mm.Own w' w.heap.size (sv t) r.2) (h3 : Below w.heap.size w w') : TwoP w r e w':=⟨s,t,h,h1,h2,h3⟩
theorem TwoP.out {w w' : World} {r : Rep} {e : Ending} (h : TwoP w r e w') : ∃ s t : Sl,e = .returned (.agg #[sv s,sv t]) ∧ En.Own w' w.heap.size (sv s) r.1 ∧ Mm.Own w' w.heap.size (sv t) r.2 ∧ Below w.heap.size w w':=h
theorem to_any (s t : Sl) (r : Rep) (w : World) (hE : RdE w s r.1) (hM : RdM w t r.2) (h1 : r.1.length ≤ 1048576) (h2 : r.2.length ≤ 1048576) :
  Calls Tryz.prog 16 #[.agg #[sv s,sv t]] w fun e w'=>TwoP w r e w':=by
 obtain ⟨s0,s1,s2⟩:=s
 obtain ⟨t0,t1,t2⟩:=t
 obtain ⟨e1,rE,nE,lE,cE⟩:=hE
 obtain ⟨e2,rM,nM,lM,cM⟩:=hM
 simp only at e1 rE nE lE cE e2 rM nM lM cM
 subst e1 e2
 have C1:=hidIt (fun W (k : En.Rd W s0 r.1)=>En.toS_any s0 s2 r.1 W k h1)
 have C2:=hidIt (fun W (k : Mm.Rd W t0 r.2)=>Mm.toS_any t0 t2 r.2 W k h2)
 have HE:=hidIt rE
 have HM:=hidIt rM
 clear rE rM
 generalize r.1.length = m1 at *
 generalize r.2.length = m2 at *
 have BA : Hid (Bo.Box (((w.alloc (.cells #[.slice s0 m1 s2,.slice t0 m2 t2] 40)).alloc (.cells #[.slice none 0 0,.slice none 0 0] 27)).alloc (.cells #[.slice none 0 0,.slice none 0 0] 27)) w.heap.size #[.slice s0 m1 s2,.slice t0 m2 t2]):=hidIt (((Bo.Box.new w _ _).alloc _).alloc _)
 have BB : Hid (Bo.Box (((w.alloc (.cells #[.slice s0 m1 s2,.slice t0 m2 t2] 40)).alloc (.cells #[.slice none 0 0,.slice none 0 0] 27)).alloc (.cells #[.slice none 0 0,.slice none 0 0] 27)) (w.heap.size + 1) #[.slice none 0 0,.slice none 0 0]):=hidIt ((Bo.Box.newAt (by simp)).alloc _)
 have BC : Hid (Bo.Box (((w.alloc (.cells #[.slice s0 m1 s2,.slice t0 m2 t2] 40)).alloc (.cells #[.slice none 0 0,.slice none 0 0] 27)).alloc (.cells #[.slice none 0 0,.slice none 0 0] 27)) (w.heap.size + 1 + 1) #[.slice none 0 0,.slice none 0 0]):=hidIt (Bo.Box.newAt (by simp))
 have HB : Hid (Below w.heap.size w (((w.alloc (.cells #[.slice s0 m1 s2,.slice t0 m2 t2] 40)).alloc (.cells #[.slice none 0 0,.slice none 0 0] 27)).alloc (.cells #[.slice none 0 0,.slice none 0 0] 27))):=hidIt ((((Below.refl w.heap.size w).alloc (Nat.le_refl _) _).alloc (by simp) _).alloc (by simp; omega) _)
 go_enter Tryz.func16,Tryz.ntmps16
 go_wp2_with (fail)
 refine (C1.out _ (HE.out.kept HB.out)).mono ?_
 rintro e w1 ⟨v1,rfl,hO1,k⟩
 obtain ⟨⟨x0,x1,x2⟩,rfl⟩:=slE hO1
 have ne1 : w.heap.size ≠ w.heap.size + 1 + 1:=by omega
 have ne2 : w.heap.size + 1 ≠ w.heap.size + 1 + 1:=by omega
 have ne3 : w.heap.size + 1 + 1 ≠ w.heap.size:=by omega
 have ne4 : w.heap.size + 1 + 1 ≠ w.heap.size + 1:=by omega
 have hle : w.heap.size ≤ w.heap.size + 1 + 1:=by omega
 have hle1 : w.heap.size ≤ w.heap.size + 1:=by omega
 replace BA:=hidIt (BA.out.kept k)
 replace BB:=hidIt (BB.out.kept k)
 replace BC:=hidIt (BC.out.kept k)
 replace HB:=hidIt (on HB.out k)
 have HO1 : Hid (En.Own w1 (w.heap.size + 1 + 1 + 1) (.slice x0 x1 x2) r.1):=hidIt (hO1.mono (by simp))
 have hn3 : w.heap.size ≤ w.heap.size + 1 + 1 + 1:=by omega
 have lt1 : Hid (∀ q,(Value.slice x0 x1 x2).ownBlock = some q → w.heap.size + 1 + 1 < q ∧ w.heap.size + 1 < q):=hidIt (fun q hq=>by have:=(World.ownsRow.lt HO1.out q hq).1; omega)
 clear hO1 k HE C1
 generalize w.heap.size + 1 + 1 + 1 = n3 at *
 generalize w.heap.size + 1 + 1 = n2 at *
 generalize w.heap.size + 1 = n1 at *
 have a1:=BA.out.c 1 (v:=.slice t0 m2 t2) rfl
 have c0:=BC.out.c 0 (v:=.slice none 0 0) rfl
 have f0:=BC.out.fr 0
 have BC2:=hidIt (BC.out.put (c':=#[.slice x0 x1 x2,.slice none 0 0]) 0 (.slice x0 x1 x2) (by simp) rfl)
 have BB2:=hidIt (BB.out.other (v:=.slice x0 x1 x2) (i:=0) ne4)
 have HB2:=hidIt (HB.out.setCell (p:=⟨n2,0,none⟩) hle (.slice x0 x1 x2))
 have HO2:=hidIt (En.Own.only (c:=n2) HO1.out ((Only.refl _ _).setCell 0 (.slice x0 x1 x2)) (.inr fun q hq e=>by have:=(lt1.out q hq).1; omega))
 clear BC BB HB HO1
 go_wp2_with (fail)
 generalize w1.setCell ⟨n2,0,none⟩ (.slice x0 x1 x2) = wa at BC2 BB2 HB2 HO2 ⊢
 refine (C2.out _ (HM.out.kept HB2.out)).mono ?_
 rintro e w3 ⟨v3,rfl,hO3,k⟩
 obtain ⟨⟨y0,y1,y2⟩,rfl⟩:=slM hO3
 have HB3:=hidIt (on HB2.out k)
 have BC3:=hidIt (BC2.out.kept k)
 have BB3:=hidIt (BB2.out.kept k)
 have HO3:=hidIt (HO2.out.kept k)
 have hn2 : n2 < wa.heap.size:=BC2.out.lt
 have hn1 : n1 < wa.heap.size:=BB2.out.lt
 have lt3 : Hid (∀ q,(Value.slice y0 y1 y2).ownBlock = some q → n2 < q ∧ n1 < q):=hidIt (fun q hq=>by have:=(World.ownsRow.lt hO3 q hq).1; omega)
 have HM3 : Hid (Mm.Own w3 w.heap.size (.slice y0 y1 y2) r.2):=hidIt (hO3.mono HB2.out.size)
 clear hO3 k HM C2 BC2 BB2 HO2 a1 c0 f0 HB2 BA
 have c0:=BC3.out.c 0 (v:=.slice x0 x1 x2) rfl
 have c1:=BC3.out.c 1 (v:=.slice none 0 0) rfl
 have f1:=BC3.out.fr 1
 have b0:=BB3.out.c 0 (v:=.slice none 0 0) rfl
 have b1:=BB3.out.c 1 (v:=.slice none 0 0) rfl
 have g0:=BB3.out.fr 0
 have g1:=BB3.out.fr 1
 have Y1:=hidIt ((Only.refl n2 w3).setCell 1 (.slice y0 y1 y2))
 have HO4:=hidIt (HO3.out.only Y1.out (.inr fun q hq e=>by have:=(lt1.out q hq).1; omega))
 have HM4:=hidIt (HM3.out.only Y1.out (.inr fun q hq e=>by have:=(lt3.out q hq).1; omega))
 have Y2:=hidIt (((Only.refl n1 (w3.setCell ⟨n2,1,none⟩ (.slice y0 y1 y2))).setCell 0 (.slice x0 x1 x2)).setCell 1 (.slice y0 y1 y2))
 have HO5:=hidIt (HO4.out.only Y2.out (.inr fun q hq e=>by have:=(lt1.out q hq).2; omega))
 have HM5:=hidIt (HM4.out.only Y2.out (.inr fun q hq e=>by have:=(lt3.out q hq).2; omega))
 have HB4:=hidIt (((HB3.out.setCell (p:=⟨n2,1,none⟩) hle (.slice y0 y1 y2)).setCell (p:=⟨n1,0,none⟩) hle1 (.slice x0 x1 x2)).setCell (p:=⟨n1,1,none⟩) hle1 (.slice y0 y1 y2))
 have RB:=hidIt (((BB3.out.other (v:=.slice y0 y1 y2) (i:=1) ne4).put (c':=#[.slice x0 x1 x2,.slice none 0 0]) 0 (.slice x0 x1 x2) (by simp) rfl).put (c':=#[.slice x0 x1 x2,.slice y0 y1 y2]) 1 (.slice y0 y1 y2) (by simp) rfl)
 clear HO3 HM3 HO4 HM4 Y1 Y2 HB3 BC3 BB3
 go_wp2_with (fail)
 generalize ((w3.setCell ⟨n2,1,none⟩ (.slice y0 y1 y2)).setCell ⟨n1,0,none⟩ (.slice x0 x1 x2)).setCell ⟨n1,1,none⟩ (.slice y0 y1 y2) = wz at HO5 HM5 HB4 RB ⊢
 have q0:=RB.out.c 0 (v:=.slice x0 x1 x2) rfl
 have q1:=RB.out.c 1 (v:=.slice y0 y1 y2) rfl
 clear c0 c1 b0 b1 f1 g0 g1
 refine bodyPost_end (v:=.agg #[.slice x0 x1 x2,.slice y0 y1 y2]) (by simp [results,Tryz.results16,go_sem,q0,q1]) rfl ?_
 exact TwoP.of (s:=(x0,x1,x2)) (t:=(y0,y1,y2)) rfl (HO5.out.mono hn3) HM5.out HB4.out
theorem eq_same (s t s' t' : Sl) (r : Rep) (w : World) (hE : RdE w s r.1) (hM : RdM w t r.2) (hE' : RdE w s' r.1) (hM' : RdM w t' r.2) :
  Calls Tryz.prog 8 #[.agg #[sv s,sv t],.agg #[sv s',sv t']] w fun e w'=>e = .returned (.bool true) ∧ Below w.heap.size w w':=by
 obtain ⟨s0,s1,s2⟩:=s
 obtain ⟨t0,t1,t2⟩:=t
 obtain ⟨p0,p1,p2⟩:=s'
 obtain ⟨q0,q1,q2⟩:=t'
 obtain ⟨e1,rE,_,_,cE⟩:=hE
 obtain ⟨e2,rM,_,_,cM⟩:=hM
 obtain ⟨e3,rE',_,_,_⟩:=hE'
 obtain ⟨e4,rM',_,_,_⟩:=hM'
 simp only at e1 rE cE e2 rM cM e3 rE' e4 rM'
 have C1:=hidIt (fun W (k : En.Rd W s0 r.1) (k' : En.Rd W p0 r.1)=>En.eqS_same s0 p0 s2 p2 r.1 W k k' (by omega))
 have C2:=hidIt (fun W (k : Mm.Rd W t0 r.2) (k' : Mm.Rd W q0 r.2)=>Mm.eqS_same t0 q0 t2 q2 r.2 W k k' (by omega))
 rw [← e3] at e1
 rw [← e4] at e2
 subst e1 e2
 rw [← e3] at C1
 rw [← e4] at C2
 have H1:=hidIt rE
 have H2:=hidIt rM
 have H3:=hidIt rE'
 have H4:=hidIt rM'
 clear rE rM rE' rM' e3 e4 cE cM
 have BA:=hidIt ((Bo.Box.new w #[.slice s0 s1 s2,.slice t0 t1 t2] 27).alloc (.cells #[.slice p0 s1 p2,.slice q0 t1 q2] 27))
 have BB : Hid (Bo.Box ((w.alloc (.cells #[.slice s0 s1 s2,.slice t0 t1 t2] 27)).alloc (.cells #[.slice p0 s1 p2,.slice q0 t1 q2] 27)) (w.heap.size + 1) #[.slice p0 s1 p2,.slice q0 t1 q2]):=hidIt (Bo.Box.newAt (by simp))
 have HB:=hidIt (((Below.refl w.heap.size w).alloc (Nat.le_refl _) (.cells #[.slice s0 s1 s2,.slice t0 t1 t2] 27)).alloc (by simp) (.cells #[.slice p0 s1 p2,.slice q0 t1 q2] 27))
 go_enter Tryz.func8,Tryz.ntmps8
 go_wp2_with (fail)
 refine (C1.out _ (H1.out.kept HB.out) (H3.out.kept HB.out)).mono ?_
 rintro e w1 ⟨rfl,k1⟩
 have a1:=(BA.out.kept k1).c 1 (v:=.slice t0 t1 t2) rfl
 have b1:=(BB.out.kept k1).c 1 (v:=.slice q0 t1 q2) rfl
 have HB1:=hidIt (on HB.out k1)
 clear k1 BA BB HB
 go_wp2_with (fail)
 refine (C2.out _ (H2.out.kept HB1.out) (H4.out.kept HB1.out)).mono ?_
 rintro e w2 ⟨rfl,k2⟩
 have HB2:=hidIt (on HB1.out k2)
 clear k2
 go_wp2_with (fail)
 go_ret
 exact ⟨rfl,HB2.out⟩
end Go.Proofs.YtpkkmhpobfjclaaGreat.Rp
namespace Go.Proofs.YtpkkmhpobfjclaaGreat.Rp
open Go.ChangeShapes Go.WideShapes Go.ChangeAt Go.RowKit
open Vv (Sl sv hidIt)
def okR (r : Rep) : Bool:=Bk.okBk (En.toB r.1) && Mk.okBk (Mm.toB r.2)
end Go.Proofs.YtpkkmhpobfjclaaGreat.Rp
namespace Go.Proofs.YtpkkmhpobfjclaaGreat.Rp
open Go.ChangeShapes Go.WideShapes Go.ChangeAt Go.RowKit
open Vv (Sl sv hidIt)
theorem impl_replicaOk (s t : Sl) (r : Rep) (w : World) (hE : RdE w s r.1) (hM : RdM w t r.2) (hs : En.shortR r.1) (h1 : r.1.length ≤ 9223372036854775807) (h2 : r.2.length ≤ 9223372036854775807) :
  Calls Tryz.prog 34 #[.agg #[sv s,sv t]] w fun e w'=>e = .returned (.bool (okR r)) ∧ Below w.heap.size w w':=by
 obtain ⟨s0,s1,s2⟩:=s
 obtain ⟨t0,t1,t2⟩:=t
 obtain ⟨e1,r1,_,_,_⟩:=hE
 obtain ⟨e2,r2,_,_,_⟩:=hM
 simp only at e1 r1 e2 r2
 have C1:=hidIt (fun W (k : En.Rd W s0 r.1)=>En.impl_BookOk s0 s2 r.1 W k h1 hs)
 have C2:=hidIt (fun W (k : Mm.Rd W t0 r.2)=>Mm.impl_MembersOk t0 t2 r.2 W k h2)
 rw [← e1] at C1
 rw [← e2] at C2
 have HOK : Hid (okR r = (Bk.okBk (En.toB r.1) && Mk.okBk (Mm.toB r.2))):=hidIt rfl
 generalize Bk.okBk (En.toB r.1) = k1 at C1 HOK
 generalize Mk.okBk (Mm.toB r.2) = k2 at C2 HOK
 generalize okR r = k at HOK ⊢
 have HB:=hidIt ((Below.refl w.heap.size w).alloc (Nat.le_refl _) (.cells #[.slice s0 s1 s2,.slice t0 t1 t2] 27))
 have H1:=hidIt (r1.kept HB.out)
 have H2:=hidIt (r2.kept HB.out)
 have BX:=hidIt (Bo.Box.new w #[.slice s0 s1 s2,.slice t0 t1 t2] 27)
 clear r1 r2 e1 e2 hs
 simp only [sv]
 cases k1 with
 | false =>
  have er:=HOK.out
  simp only [Bool.false_and] at er
  subst er
  go_enter Tryz.func34,Tryz.ntmps34
  go_wp2_with (fail)
  refine (C1.out _ H1.out).mono ?_
  rintro e w1 ⟨rfl,k⟩
  have HB1:=hidIt (on HB.out k)
  clear k
  go_wp2_with (fail)
  go_ret
  exact ⟨rfl,HB1.out⟩
 | true =>
  have er:=HOK.out
  simp only [Bool.true_and] at er
  subst er
  go_enter Tryz.func34,Tryz.ntmps34
  go_wp2_with (fail)
  refine (C1.out _ H1.out).mono ?_
  rintro e w1 ⟨rfl,k1⟩
  have HB1:=hidIt (on HB.out k1)
  have BX1:=hidIt (BX.out.kept k1)
  have c1:=BX1.out.c 1 rfl
  have H3:=hidIt (H2.out.kept k1)
  clear k1
  go_wp2_with (fail)
  refine (C2.out _ H3.out).mono ?_
  rintro e w2 ⟨rfl,k2⟩
  have HB2:=hidIt (on HB1.out k2)
  clear k2
  go_wp2_with (fail)
  go_ret
  exact ⟨rfl,HB2.out⟩
end Go.Proofs.YtpkkmhpobfjclaaGreat.Rp
namespace Go.Proofs.YtpkkmhpobfjclaaGreat.Vv
open Go.ChangeShapes Go.WideShapes Go.ChangeAt Go.RowKit
abbrev Rw:=Sl × Sl
def rat (L : List Rw) (i : Nat) : Rw:=L.getD i ((none,0,0),(none,0,0))
theorem rat_at {L : List Rw} {i : Nat} (h : i < L.length) : rat L i = L[i]:=by
 unfold rat
 rw [List.getD_eq_getElem?_getD,List.getElem?_eq_getElem h]
 rfl
theorem rat_set {L : List Rw} {i j : Nat} {x : Rw} (h : i < L.length) : rat (L.set i x) j = if i = j then x else rat L j:=by
 unfold rat
 rw [List.getD_eq_getElem?_getD,List.getD_eq_getElem?_getD,List.getElem?_set]
 by_cases e : i = j
 ·
  subst e; simp [h]
 ·
  simp [e]
def rcell (x : Rw) : Nat → Value
 | 0=>sv x.1
 | _=>sv x.2
def rcells : List Rw → List Value
 | []=>[]
 | x :: r=>sv x.1 :: sv x.2 :: rcells r
theorem rcells_cons (x : Rw) (r : List Rw) : rcells (x :: r) = sv x.1 :: sv x.2 :: rcells r:=rfl
theorem rcells_length (L : List Rw) : (rcells L).length = L.length * 2:=by
 induction L with
 | nil=>rfl
 | cons x r ih=>simp only [rcells_cons,List.length_cons,ih]; omega
theorem rcells_get (L : List Rw) : ∀ i j,i < L.length → j < 2 → (rcells L)[i * 2 + j]? = some (rcell (rat L i) j):=by
 induction L with
 | nil=>intro i j hi; simp at hi
 | cons x r ih =>
  intro i j hi hj
  cases i with
  | zero =>
   match j,hj with
   | 0,_=>rfl
   | 1,_=>rfl
  | succ k =>
   rw [rcells_cons,show (k + 1) * 2 + j = k * 2 + j + 1 + 1 by omega,List.getElem?_cons_succ,List.getElem?_cons_succ,ih k j (by simp at hi; omega) hj]
   rfl
theorem rcells_set (L : List Rw) : ∀ i j (v : Value) (y : Rw),i < L.length → j < 2 → (∀ k,k < 2 → rcell y k = if k = j then v else rcell (rat L i) k) → (rcells L).set (i * 2 + j) v = rcells (L.set i y):=by
 induction L with
 | nil=>intro i j v y hi; simp at hi
 | cons x r ih =>
  intro i j v y hi hj h
  cases i with
  | zero =>
   have e0:=h 0 (by omega)
   have e1:=h 1 (by omega)
   rw [List.set_cons_zero,rcells_cons y r,show (sv y.1 : Value) = rcell y 0 from rfl,show (sv y.2 : Value) = rcell y 1 from rfl,e0,e1]
   match j,hj with
   | 0,_=>rfl
   | 1,_=>rfl
  | succ k =>
   rw [rcells_cons,show (k + 1) * 2 + j = k * 2 + j + 1 + 1 by omega,List.set_cons_succ,List.set_cons_succ,ih k j v y (by simp at hi; omega) hj (fun n hn=>h n hn)]
   rfl
structure Rd (w : World) (a : Option Addr) (L : List Rw) : Prop where
 cell : ∀ i,i < L.length → ∃ b off,a = some ⟨b,off,none⟩ ∧ ∀ j,j < 2 → w.cell? ⟨b,off + (i * 2 + j),none⟩ = some (rcell (rat L i) j)
theorem Rd.all {w : World} {a : Option Addr} {L : List Rw} (h : Rd w a L) {i : Nat} (hi : i < L.length) : ∃ b off,a = some ⟨b,off,none⟩ ∧ w.cell? ⟨b,off + i * 2,none⟩ = some (sv (rat L i).1) ∧ w.cell? ⟨b,off + i * 2 + 1,none⟩ = some (sv (rat L i).2):=by
 obtain ⟨b,off,e,c⟩:=h.cell i hi
 exact ⟨b,off,e,c 0 (by omega),by rw [Nat.add_assoc]; exact c 1 (by omega)⟩
theorem cell_block {w : World} {b o : Nat} {v : Value} (h : w.cell? ⟨b,o,none⟩ = some v) : b < w.heap.size:=World.block_lt_of_cell? w ⟨b,o,none⟩ h
theorem Rd.kept {w w' : World} {a : Option Addr} {L : List Rw} (h : Rd w a L) (k : Below w.heap.size w w') : Rd w' a L :=
 ⟨fun i hi=>by
  obtain ⟨b,off,e,c⟩:=h.cell i hi
  exact ⟨b,off,e,fun j hj=>by rw [k.cell (by simpa using cell_block (c j hj))]; exact c j hj⟩⟩
theorem Rd.nil (w : World) (a : Option Addr) : Rd w a []:=⟨fun i hi=>by simp at hi⟩
def Own (w : World) (base : Nat) (v : Value) (L : List Rw) : Prop:=w.ownsRow base 27 2 v L.length (rcells L)
theorem Own.form {w : World} {base : Nat} {v : Value} {L : List Rw} (h : Own w base v L) : ∃ a cap,v = .slice a L.length cap ∧ L.length ≤ cap ∧ cap ≤ maxLen ∧ Rd w a L ∧ (a = none → cap = 0) ∧ (∀ x,a = some x → ∃ g,x = ⟨g,0,none⟩ ∧ base ≤ g ∧ g < w.heap.size):=by
 have h':=h
 rcases h.2 with ⟨rfl,h0⟩ | ⟨g,cap,cur,rfl,hb,hg,hn,hm,rest⟩
 ·
  exact ⟨none,0,by rw [h0],by omega,by decide,⟨fun i hi=>by omega⟩,fun _=>rfl,fun x hx=>by cases hx⟩
 ·
  refine ⟨some ⟨g,0,none⟩,cap,rfl,hn,hm,⟨fun i hi=>⟨g,0,rfl,fun j hj=>?_⟩⟩,(fun e=>by cases e),fun x hx=>⟨g,by cases hx; rfl,hb,(Array.getElem?_eq_some_iff.1 hg).1⟩⟩
  rw [Nat.zero_add,World.ownsRow.cellAt h' _ (by omega),rcells_get _ _ _ hi hj]
theorem Own.kept {w w' : World} {base : Nat} {v : Value} {L : List Rw} (h : Own w base v L) (k : Below w.heap.size w w') : Own w' base v L :=
 World.ownsRow.kept (row:=none) h ⟨k.os,k.tape,k.output,k.size,fun i hi _=>k.block i hi⟩ (by cases v.ownBlock <;> simp)
theorem Own.mono {w : World} {base b' : Nat} {v : Value} {L : List Rw} (h : Own w base v L) (hb : b' ≤ base) : Own w b' v L:=by
 refine ⟨h.1,?_⟩
 rcases h.2 with h0 | ⟨g,cap,cur,e,hb',r⟩
 ·
  exact .inl h0
 ·
  exact .inr ⟨g,cap,cur,e,by omega,r⟩
theorem Own.free {w : World} {base g m cap : Nat} {L : List Rw} (h : Own w base (.slice (some ⟨g,0,none⟩) m cap) L) (j : Nat) : w.frozen? ⟨g,j,none⟩ = false:=by
 obtain ⟨a,c',e,_⟩:=h.form
 cases e
 exact World.ownsRow.frozenAt h j
theorem Own.at {w : World} {base g m cap i j : Nat} {L : List Rw} (h : Own w base (.slice (some ⟨g,0,none⟩) m cap) L) (hi : i < L.length) (hj : j < 2) : w.cell? ⟨g,i * 2 + j,none⟩ = some (rcell (rat L i) j):=by
 obtain ⟨a',c',e1,_,_,r,_⟩:=h.form
 cases e1
 obtain ⟨b',o',e2,k⟩:=r.cell i hi
 cases e2
 simpa using k j hj
theorem Own.set {w : World} {base g m cap i j : Nat} {L : List Rw} {v : Value} {y : Rw} (h : Own w base (.slice (some ⟨g,0,none⟩) m cap) L) (hi : i < L.length) (hj : j < 2) (hy : ∀ k,k < 2 → rcell y k = if k = j then v else rcell (rat L i) k) :
  Own (w.setCell ⟨g,i * 2 + j,none⟩ v) base (.slice (some ⟨g,0,none⟩) m cap) (L.set i y):=by
 obtain ⟨a,c',e,_⟩:=h.form
 cases e
 have:=(World.ownsRow.stored h (i * 2 + j) v).1
 rw [rcells_set L i j v y hi hj hy] at this
 unfold Own
 rw [List.length_set]
 exact this
theorem Own.whole {w : World} {base g m cap i : Nat} {L : List Rw} (h : Own w base (.slice (some ⟨g,0,none⟩) m cap) L) (hi : i < L.length) (y : Rw) :
  Own (((w.setCell ⟨g,i * 2,none⟩ (sv y.1)).setCell ⟨g,i * 2 + 1,none⟩ (sv y.2))) base (.slice (some ⟨g,0,none⟩) m cap) (L.set i y):=by
 obtain ⟨y0,y1⟩:=y
 have h1:=h.set (i:=i) (j:=0) (v:=sv y0) (y:=(y0,(rat L i).2)) hi (by omega) (fun k hk=>by
  match k,hk with
  | 0,_=>rfl
  | 1,_=>rfl)
 have h2:=h1.set (i:=i) (j:=1) (v:=sv y1) (y:=(y0,y1)) (by rw [List.length_set]; exact hi) (by omega) (fun k hk=>by
  rw [rat_set hi,if_pos rfl]
  match k,hk with
  | 0,_=>rfl
  | 1,_=>rfl)
 rw [List.set_set] at h2
 exact h2
theorem infoRw : (Tryz.prog.info? 27).map (fun i=>(i.zero,i.size,i.bytes)) = some (some (.agg #[sv (none,0,0),sv (none,0,0)]),2,48):=by kernel_rfl
theorem rat_map (m : Nat) (f : Nat → Rw) (i : Nat) (hi : i < m) : rat ((List.range m).map f) i = f i:=by
 unfold rat
 rw [List.getD_eq_getElem?_getD,List.getElem?_map,List.getElem?_range hi]
 rfl
end Go.Proofs.YtpkkmhpobfjclaaGreat.Vv
