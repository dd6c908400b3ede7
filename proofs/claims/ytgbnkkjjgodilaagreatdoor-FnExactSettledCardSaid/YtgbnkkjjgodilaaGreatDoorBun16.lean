/- A Replica that is right. -/
import Derived.Test.YtgbnkkjjgodilaaGreatDoorBun15
import Derived.Test.YtgbnkkjjgodilaaGreatDoorBun5
import Derived.Test.YtgbnkkjjgodilaaGreatDoorBun11
import Derived.Test.YtgbnkkjjgodilaaGreatDoorBun4
import Derived.Test.YtgbnkkjjgodilaaGreatDoorBun1
import Derived.Test.YtgbnkkjjgodilaaGreatDoorRollM
import Derived.Test.YtgbnkkjjgodilaaGreatDoorBun3
import Derived.Test.YtgbnkkjjgodilaaGreatDoorBun6
import Derived.Test.YtgbnkkjjgodilaaGreatDoorBun2
import Derived.Test.YtgbnkkjjgodilaaGreatDoorBoxM
import Derived.Test.YtgbnkkjjgodilaaGreatDoorBun13
import Derived.Test.YtgbnkkjjgodilaaGreatDoorBun8
import Derived.Test.YtgbnkkjjgodilaaGreatDoorMem2N
import Derived.OpenShut
set_option maxRecDepth 100000
set_option maxHeartbeats 32000000
set_option linter.unusedVariables false
namespace Go.Proofs.YtgbnkkjjgodilaaGreatDoor.Rp
open Go.ChangeShapes Go.WideShapes Go.ChangeAt Go.RowKit
open Vv (Sl sv hidIt)
def okR (r : Rep) : Bool:=Bk.okBk (En.toB r.1) && Mk.okBk (Mm.toB r.2)
end Go.Proofs.YtgbnkkjjgodilaaGreatDoor.Rp
namespace Go.Proofs.YtgbnkkjjgodilaaGreatDoor.Nd
open Go.ChangeShapes Go.WideShapes Go.ChangeAt Go.RowKit
open Vv (Sl sv hidIt)
structure Nw where
 book : List En.Rw
 mem : List Mm.Rw
 ph : Int
 mn : Int
 ol : Int
 nw : Int
 tm : Int
 buc : List Bu.Rw
 log : List Lg.Ln
 apex : ByteArray
structure RdB (w : World) (s : Sl) (L : List Bu.Rw) : Prop where
 len : s.2.1 = L.length
 rd : Bu.Rd w s.1 L
 na : s.1 = none → s.2.2 = 0
 le : L.length ≤ s.2.2
 cap : s.2.2 ≤ 9223372036854775807
structure RdG (w : World) (s : Sl) (L : List Lg.Ln) : Prop where
 len : s.2.1 = L.length
 rd : Lg.Rd w s.1 L
 le : L.length ≤ s.2.2
 cap : s.2.2 ≤ 9223372036854775807
theorem RdB.kept {w w' : World} {s : Sl} {L : List Bu.Rw} (h : RdB w s L) (k : Below w.heap.size w w') : RdB w' s L:=⟨h.len,h.rd.kept k,h.na,h.le,h.cap⟩
theorem RdG.kept {w w' : World} {s : Sl} {L : List Lg.Ln} (h : RdG w s L) (k : Below w.heap.size w w') : RdG w' s L:=⟨h.len,h.rd.kept k,h.le,h.cap⟩
theorem rdB_of {w : World} {base : Nat} {s : Sl} {L : List Bu.Rw} (h : Bu.Own w base (sv s) L) : RdB w s L:=by
 obtain ⟨a,c,e,h1,h2,r,h4,_⟩:=h.form
 obtain ⟨s0,s1,s2⟩:=s
 simp only [sv,Value.slice.injEq] at e
 obtain ⟨rfl,rfl,rfl⟩:=e
 exact ⟨rfl,r,h4,h1,h2⟩
theorem rdG_of {w : World} {base : Nat} {s : Sl} {L : List Lg.Ln} (h : Lg.Own w base (sv s) L) : RdG w s L:=by
 obtain ⟨a,c,e,h1,h2,r,h4,_⟩:=h.form
 obtain ⟨s0,s1,s2⟩:=s
 simp only [sv,Value.slice.injEq] at e
 obtain ⟨rfl,rfl,rfl⟩:=e
 exact ⟨rfl,r,h1,h2⟩
theorem slB {w : World} {base : Nat} {v : Value} {L : List Bu.Rw} (h : Bu.Own w base v L) : ∃ s : Sl,v = sv s:=by
 obtain ⟨a,c,e,_⟩:=h.form
 exact ⟨(a,L.length,c),e⟩
theorem slG {w : World} {base : Nat} {v : Value} {L : List Lg.Ln} (h : Lg.Own w base v L) : ∃ s : Sl,v = sv s:=by
 obtain ⟨a,c,e,_⟩:=h.form
 exact ⟨(a,L.length,c),e⟩
structure RdN (w : World) (x : Nw) (e m b g : Sl) : Prop where
 e : Rp.RdE w e x.book
 m : Rp.RdM w m x.mem
 b : RdB w b x.buc
 g : RdG w g x.log
theorem RdN.kept {w w' : World} {x : Nw} {e m b g : Sl} (h : RdN w x e m b g) (k : Below w.heap.size w w') : RdN w' x e m b g:=⟨h.e.kept k,h.m.kept k,h.b.kept k,h.g.kept k⟩
abbrev nc (x : Nw) (e m b g : Sl) : Array Value:=#[sv e,sv m,.int .i64 x.ph,.int .i64 x.mn,.int .i64 x.ol,.int .i64 x.nw,.int .i64 x.tm,sv b,sv g,.string x.apex]
abbrev nv (x : Nw) (e m b g : Sl) : Value:=.agg (nc x e m b g)
structure OwnN (w : World) (base : Nat) (x : Nw) (e m b g : Sl) : Prop where
 e : En.Own w base (sv e) x.book
 m : Mm.Own w base (sv m) x.mem
 b : Bu.Own w base (sv b) x.buc
 g : Lg.Own w base (sv g) x.log
theorem OwnN.rd {w : World} {base : Nat} {x : Nw} {e m b g : Sl} (h : OwnN w base x e m b g) : RdN w x e m b g:=⟨Rp.rdE_of h.e,Rp.rdM_of h.m,rdB_of h.b,rdG_of h.g⟩
theorem OwnN.kept {w w' : World} {base : Nat} {x : Nw} {e m b g : Sl} (h : OwnN w base x e m b g) (k : Below w.heap.size w w') : OwnN w' base x e m b g:=⟨h.e.kept k,h.m.kept k,h.b.kept k,h.g.kept k⟩
structure ShortN (x : Nw) : Prop where
 e : En.shortR x.book
 g : ∀ i,i < x.log.length → (Lg.lat x.log i).1.size ≤ 9223372036854775807
 ap : x.apex.size ≤ 9223372036854775807
structure SmallN (x : Nw) : Prop where
 e : x.book.length ≤ 1048576
 m : x.mem.length ≤ 1048576
 b : x.buc.length ≤ 1048576
 g : x.log.length ≤ 1048576
 ap : x.apex.size ≤ 1048576
def NodP (w : World) (x : Nw) (en : Ending) (w' : World) : Prop:=∃ e m b g : Sl,en = .returned (nv x e m b g) ∧ OwnN w' w.heap.size x e m b g ∧ Below w.heap.size w w'
theorem NodP.of {w w' : World} {x : Nw} {en : Ending} {e m b g : Sl} (h : en = .returned (nv x e m b g)) (h1 : OwnN w' w.heap.size x e m b g) (h2 : Below w.heap.size w w') : NodP w x en w':=⟨e,m,b,g,h,h1,h2⟩
theorem NodP.out {w w' : World} {x : Nw} {en : Ending} (h : NodP w x en w') : ∃ e m b g : Sl,en = .returned (nv x e m b g) ∧ OwnN w' w.heap.size x e m b g ∧ Below w.heap.size w w':=h
def okN (x : Nw) : Bool:=Bk.okBk (En.toB x.book) && (Mk.okBk (Mm.toB x.mem) && (Ro.rollOk x.ph x.mn x.ol x.nw x.tm && (Bu.okB x.buc && (Lg.okL x.log && apexB x.apex))))
end Go.Proofs.YtgbnkkjjgodilaaGreatDoor.Nd
namespace Go.Proofs.YtgbnkkjjgodilaaGreatDoor.Nd
open Go.ChangeShapes Go.WideShapes Go.ChangeAt Go.RowKit
open Vv (Sl sv hidIt)
theorem on {W a b : World} (h : Below W.heap.size W a) (k : Below a.heap.size a b) : Below W.heap.size W b:=h.trans (k.mono h.size)
theorem eq_same (x : Nw) (e m b g e' m' b' g' : Sl) (w : World) (h : RdN w x e m b g) (h' : RdN w x e' m' b' g') (hlg : x.log.length ≤ 9223372036854775806) :
  Calls Tryz.prog 48 #[nv x e m b g,nv x e' m' b' g'] w fun en w'=>en = .returned (.bool true) ∧ Below w.heap.size w w':=by
 have hE:=h.e
 have hM:=h.m
 have hE':=h'.e
 have hM':=h'.m
 obtain ⟨bk,mm,ph,mn,ol,nw,tm,bu,lg,ap⟩:=x
 obtain ⟨e0,e1,e2⟩:=e
 obtain ⟨t0,t1,t2⟩:=m
 obtain ⟨b0,b1,b2⟩:=b
 obtain ⟨g0,g1,g2⟩:=g
 obtain ⟨⟨z1,rE,nE,lE,cE⟩,⟨z2,rM,nM,lM,cM⟩,⟨z3,rB,nB,lB,cB⟩,⟨z4,rG,lG,cG⟩⟩:=h
 simp only at z1 rE nE lE cE z2 rM nM lM cM z3 rB nB lB cB z4 rG lG cG
 obtain ⟨p0,p1,p2⟩:=e'
 obtain ⟨q0,q1,q2⟩:=m'
 obtain ⟨r0,r1,r2⟩:=b'
 obtain ⟨s0,s1,s2⟩:=g'
 obtain ⟨⟨y1,rE',_,_,_⟩,⟨y2,rM',_,_,_⟩,⟨y3,rB',_,_,_⟩,⟨y4,rG',_,_⟩⟩:=h'
 simp only at hE hM hE' hM' y1 y2 y3 y4 rB' rG'
 have C1:=hidIt (fun W (k : Rp.RdE W (e0,e1,e2) bk) (k' : Rp.RdM W (t0,t1,t2) mm) (j : Rp.RdE W (p0,p1,p2) bk) (j' : Rp.RdM W (q0,q1,q2) mm)=>Rp.eq_same (e0,e1,e2) (t0,t1,t2) (p0,p1,p2) (q0,q1,q2) (bk,mm) W k k' j j')
 have C2:=hidIt (fun W (k : Bu.Rd W b0 bu) (k' : Bu.Rd W r0 bu)=>Bu.eqS_same b0 r0 b2 r2 bu W k k' (by omega))
 have C3:=hidIt (fun W (k : Lg.Rd W g0 lg) (k' : Lg.Rd W s0 lg) (hl : lg.length ≤ 9223372036854775806)=>Lg.eqLineS_any g0 s0 g2 s2 lg W k k' hl)
 have C4:=hidIt (fun W=>Ro.eqRoll_same ph mn ol nw tm W)
 have HE:=hidIt hE
 have HM:=hidIt hM
 have HE':=hidIt hE'
 have HM':=hidIt hM'
 have RB:=hidIt rB
 have RG:=hidIt rG
 have RB':=hidIt rB'
 have RG':=hidIt rG'
 have hG6 : lg.length ≤ 9223372036854775806:=hlg
 have hap : (ap.toList == ap.toList) = true:=by simp
 clear hE hM hE' hM' rE rM rB rG rE' rM' rB' rG'
 subst z1 z2 z3 z4 y1 y2 y3 y4
 simp only [sv] at C1
 generalize bk.length = m1 at *
 generalize mm.length = m2 at *
 generalize bu.length = m3 at *
 generalize lg.length = m4 at *
 have BX:=hidIt ((Bo.Box.new w #[.slice e0 m1 e2,.slice t0 m2 t2,.int .i64 ph,.int .i64 mn,.int .i64 ol,.int .i64 nw,.int .i64 tm,.slice b0 m3 b2,.slice g0 m4 g2,.string ap] 49).alloc (.cells #[.slice p0 m1 p2,.slice q0 m2 q2,.int .i64 ph,.int .i64 mn,.int .i64 ol,.int .i64 nw,.int .i64 tm,.slice r0 m3 r2,.slice s0 m4 s2,.string ap] 49))
 have BY:=hidIt (Bo.Box.newAt (w:=w.alloc (.cells #[.slice e0 m1 e2,.slice t0 m2 t2,.int .i64 ph,.int .i64 mn,.int .i64 ol,.int .i64 nw,.int .i64 tm,.slice b0 m3 b2,.slice g0 m4 g2,.string ap] 49)) (c:=#[.slice p0 m1 p2,.slice q0 m2 q2,.int .i64 ph,.int .i64 mn,.int .i64 ol,.int .i64 nw,.int .i64 tm,.slice r0 m3 r2,.slice s0 m4 s2,.string ap]) (T:=49) (k:=w.heap.size + 1) (by simp))
 have HB:=hidIt (((Below.refl w.heap.size w).alloc (Nat.le_refl _) (.cells #[.slice e0 m1 e2,.slice t0 m2 t2,.int .i64 ph,.int .i64 mn,.int .i64 ol,.int .i64 nw,.int .i64 tm,.slice b0 m3 b2,.slice g0 m4 g2,.string ap] 49)).alloc (by simp) (.cells #[.slice p0 m1 p2,.slice q0 m2 q2,.int .i64 ph,.int .i64 mn,.int .i64 ol,.int .i64 nw,.int .i64 tm,.slice r0 m3 r2,.slice s0 m4 s2,.string ap] 49))
 have d0:=BX.out.c 0 rfl
 have d1:=BX.out.c 1 rfl
 have f0:=BY.out.c 0 rfl
 have f1:=BY.out.c 1 rfl
 simp only [nv,nc,sv]
 go_enter Tryz.func48,Tryz.ntmps48
 go_wp2_with (fail)
 generalize (w.alloc (.cells #[.slice e0 m1 e2,.slice t0 m2 t2,.int .i64 ph,.int .i64 mn,.int .i64 ol,.int .i64 nw,.int .i64 tm,.slice b0 m3 b2,.slice g0 m4 g2,.string ap] 49)).alloc (.cells #[.slice p0 m1 p2,.slice q0 m2 q2,.int .i64 ph,.int .i64 mn,.int .i64 ol,.int .i64 nw,.int .i64 tm,.slice r0 m3 r2,.slice s0 m4 s2,.string ap] 49) = W0 at BX BY HB d0 d1 f0 f1 ⊢
 refine (C1.out _ (HE.out.kept HB.out) (HM.out.kept HB.out) (HE'.out.kept HB.out) (HM'.out.kept HB.out)).mono ?_
 rintro en w1 ⟨rfl,k1⟩
 replace HB:=hidIt (on HB.out k1)
 replace BX:=hidIt (BX.out.kept k1)
 replace BY:=hidIt (BY.out.kept k1)
 clear k1 d0 d1 f0 f1
 have d2:=BX.out.c 2 rfl
 have d3:=BX.out.c 3 rfl
 have d4:=BX.out.c 4 rfl
 have d5:=BX.out.c 5 rfl
 have d6:=BX.out.c 6 rfl
 have f2:=BY.out.c 2 rfl
 have f3:=BY.out.c 3 rfl
 have f4:=BY.out.c 4 rfl
 have f5:=BY.out.c 5 rfl
 have f6:=BY.out.c 6 rfl
 go_wp2_with (fail)
 refine (C4.out _).mono ?_
 rintro en w2 ⟨rfl,k1⟩
 replace HB:=hidIt (on HB.out k1)
 replace BX:=hidIt (BX.out.kept k1)
 replace BY:=hidIt (BY.out.kept k1)
 clear k1 d2 d3 d4 d5 d6 f2 f3 f4 f5 f6
 have d7:=BX.out.c 7 rfl
 have f7:=BY.out.c 7 rfl
 go_wp2_with (fail)
 refine (C2.out _ (RB.out.kept HB.out) (RB'.out.kept HB.out)).mono ?_
 rintro en w3 ⟨rfl,k1⟩
 replace HB:=hidIt (on HB.out k1)
 replace BX:=hidIt (BX.out.kept k1)
 replace BY:=hidIt (BY.out.kept k1)
 clear k1 d7 f7
 have d8:=BX.out.c 8 rfl
 have f8:=BY.out.c 8 rfl
 go_wp2_with (fail)
 refine (C3.out _ (RG.out.kept HB.out) (RG'.out.kept HB.out) hG6).mono ?_
 rintro en w4 ⟨rfl,k1⟩
 replace HB:=hidIt (on HB.out k1)
 replace BX:=hidIt (BX.out.kept k1)
 replace BY:=hidIt (BY.out.kept k1)
 clear k1 d8 f8
 have d9:=BX.out.c 9 rfl
 have f9:=BY.out.c 9 rfl
 go_wp2_with (fail)
 go_ret
 exact ⟨rfl,HB.out⟩
end Go.Proofs.YtgbnkkjjgodilaaGreatDoor.Nd
namespace Go.Proofs.YtgbnkkjjgodilaaGreatDoor.Nd
open Go.ChangeShapes Go.WideShapes Go.ChangeAt Go.RowKit
open Vv (Sl sv hidIt)
open Rp (OnlyIn own_apart row_other)
structure Mk (ts : List Nat) (lo hi : Nat) (w w' : World) : Prop where
 only : OnlyIn lo hi w w'
 stay : ∀ (b e s n : Nat) (v : Value) (xs : List Value),w.ownsRow b e s v n xs → e ∉ ts → w'.ownsRow b e s v n xs
theorem Mk.of_below {lo hi : Nat} {w w' : World} (h : Below w.heap.size w w') : Mk [] lo hi w w' :=
 ⟨.of_below h,fun b e s n v xs r _=>World.ownsRow.kept (row:=none) r ⟨h.os,h.tape,h.output,h.size,fun i hi _=>h.block i hi⟩ (by cases v.ownBlock <;> simp)⟩
theorem Mk.of_row {b e s n lo hi : Nat} {v : Value} {xs : List Value} {w w' : World} (r : w.ownsRow b e s v n xs) (Y : Only (v.ownBlock.getD w.heap.size) w w') (hb : lo ≤ b) (hh : ∀ g,v.ownBlock = some g → g < hi) : Mk [e] lo hi w w':=by
 refine ⟨.of_only Y ?_,fun b' e' s' n' v' xs' r' hn=>row_other r' r Y (own_apart r' r (fun q=>hn (by rw [q]; simp)))⟩
 cases hv : v.ownBlock with
 | none=>exact .inl (by simp)
 | some g =>
  have:=(World.ownsRow.lt r g hv).1
  exact .inr ⟨by simpa using (by omega : lo ≤ g),by simpa using hh g hv⟩
theorem Mk.box {ts : List Nat} {lo hi b : Nat} {c : Array Value} {w w' : World} (h : Mk ts lo hi w w') (x : Bo.Box w b c) (hb : hi ≤ b) : Bo.Box w' b c :=
 ⟨Nat.lt_of_lt_of_le x.lt h.only.size,fun i=>by rw [World.cell?_of_block (w:=w) (h.only.block b x.lt (by omega))]; exact x.at' i,fun i=>by rw [World.frozen?_of_block (w:=w) (h.only.block b x.lt (by omega))]; exact x.fr i⟩
end Go.Proofs.YtgbnkkjjgodilaaGreatDoor.Nd
namespace Go.Proofs.YtgbnkkjjgodilaaGreatDoor.Nd
open Go.ChangeShapes Go.WideShapes Go.ChangeAt Go.RowKit
open Vv (Sl sv hidIt)
structure In (w : World) (x : Nw) (e m b g : Sl) : Prop where
 rd : RdN w x e m b g
 short : ShortN x
theorem cellsN : Tryz.prog.cellsOf 73 = 10:=by kernel_rfl
theorem cellsR : Tryz.prog.cellsOf 68 = 2:=by kernel_rfl
theorem cellsRo : Tryz.prog.cellsOf 69 = 5:=by kernel_rfl
theorem cellsB : Tryz.prog.cellsOf 70 = 1:=by kernel_rfl
theorem cellsG : Tryz.prog.cellsOf 71 = 1:=by kernel_rfl
theorem cellsT : Tryz.prog.cellsOf 9 = 1:=by kernel_rfl
theorem cellsE : Tryz.prog.cellsOf 65 = 1:=by kernel_rfl
theorem cellsM : Tryz.prog.cellsOf 66 = 1:=by kernel_rfl
theorem cellsI : Tryz.prog.cellsOf 2 = 1:=by kernel_rfl
theorem open_roll_in {H : Type} {enc : TypeId × Value → H} {w : World} {base : Nat} {spare : Nat → Bool} {held : Bool} {fuel : Nat} {c0 c1 c2 c3 c4 : Value} {y : DataW H × List MemPlace} (hf : DataW.trod enc Tryz.prog w base spare held fuel 69 [c0,c1,c2,c3,c4] = some y) :
  ∃ q0 q1 q2 q3 q4 : Int,c0 = .int .i64 q0 ∧ c1 = .int .i64 q1 ∧ c2 = .int .i64 q2 ∧ c3 = .int .i64 q3 ∧ c4 = .int .i64 q4:=by
 obtain ⟨xs,k,hk,hxy,_,hxl,hf'⟩:=DataW.trod_struct Tryz.underlying69 hf
 match xs,hxl with
 | [y5,y6,y7,y8,y9],_ =>
  have g0:=hf' 0 _ rfl
  have g1:=hf' 1 _ rfl
  have g2:=hf' 2 _ rfl
  have g3:=hf' 3 _ rfl
  have g4:=hf' 4 _ rfl
  simp [cellsI] at g0 g1 g2 g3 g4
  obtain ⟨q0,e0,_,_⟩:=DataW.trod_int Tryz.underlying2 g0
  obtain ⟨q1,e1,_,_⟩:=DataW.trod_int Tryz.underlying2 g1
  obtain ⟨q2,e2,_,_⟩:=DataW.trod_int Tryz.underlying2 g2
  obtain ⟨q3,e3,_,_⟩:=DataW.trod_int Tryz.underlying2 g3
  obtain ⟨q4,e4,_,_⟩:=DataW.trod_int Tryz.underlying2 g4
  simp at e0 e1 e2 e3 e4
  exact ⟨q0,q1,q2,q3,q4,e0,e1,e2,e3,e4⟩
theorem open_node_in {H : Type} {enc : TypeId × Value → H} {w : World} {base : Nat} {spare : Nat → Bool} {held : Bool} {fuel : Nat} {c0 c1 c2 c3 c4 c5 c6 c7 c8 c9 : Value} {y : DataW H × List MemPlace} (hf : DataW.trod enc Tryz.prog w base spare held fuel 73 [c0,c1,c2,c3,c4,c5,c6,c7,c8,c9] = some y) :
  ∃ (x : Nw) (e m b g : Sl),(.agg #[c0,c1,c2,c3,c4,c5,c6,c7,c8,c9] : Value) = nv x e m b g ∧ In w x e m b g:=by
 obtain ⟨xs,k,hk,hxy,_,hxl,hf'⟩:=DataW.trod_struct Tryz.underlying73 hf
 match xs,hxl with
 | [y5,y6,y7,y8,y9],_ =>
  have g0:=hf' 0 _ rfl
  have g1:=hf' 1 _ rfl
  have g2:=hf' 2 _ rfl
  have g3:=hf' 3 _ rfl
  have g4:=hf' 4 _ rfl
  simp [cellsR,cellsRo,cellsB,cellsG,cellsT] at g0 g1 g2 g3 g4
  obtain ⟨y0,y1,n,_,_,r0,r1⟩:=trod_struct2 Tryz.underlying68 g0
  simp [cellsE,cellsM] at r0 r1
  obtain ⟨a0,k0,L0,e0,I0⟩:=En.open_cells Tryz.underlying65 Tryz.underlying155 (by kernel_rfl) rfl rfl rfl rfl rfl (by kernel_rfl) (by kernel_rfl) (by kernel_rfl) (by kernel_rfl) (by kernel_rfl) Tryz.underlying9 Tryz.underlying9 Tryz.underlying2 Tryz.underlying2 Tryz.underlying4 r0
  obtain ⟨a1,k1,L1,e1,I1⟩:=Mm.open_cells Tryz.underlying66 Tryz.underlying159 (by kernel_rfl) rfl rfl rfl (by kernel_rfl) (by kernel_rfl) (by kernel_rfl) Tryz.underlying2 Tryz.underlying2 Tryz.underlying2 r1
  obtain ⟨q0,q1,q2,q3,q4,rfl,rfl,rfl,rfl,rfl⟩:=open_roll_in g1
  obtain ⟨a2,k2,L2,e2,I2⟩:=Bu.open_cells Tryz.underlying70 Tryz.underlying136 (by kernel_rfl) rfl rfl rfl (by kernel_rfl) (by kernel_rfl) (by kernel_rfl) Tryz.underlying2 Tryz.underlying2 Tryz.underlying2 g2
  obtain ⟨a3,k3,L3,e3,I3⟩:=Lg.open_lines_in g3
  obtain ⟨s,e4,_,hs⟩:=DataW.trod_string Tryz.underlying9 g4
  have e4' : c9 = .string s:=by simpa using e4
  subst e0 e1 e2 e3 e4'
  exact ⟨⟨L0,L1,q0,q1,q2,q3,q4,L2,L3,s⟩,(a0,L0.length,k0),(a1,L1.length,k1),(a2,L2.length,k2),(a3,L3.length,k3),rfl,⟨⟨rfl,I0.rd,I0.na,I0.le,I0.cap⟩,⟨rfl,I1.rd,I1.na,I1.le,I1.cap⟩,⟨rfl,I2.rd,I2.na,I2.le,I2.cap⟩,⟨rfl,I3.rd,I3.le,I3.cap⟩⟩,⟨I0.short,I3.short,hs⟩⟩
end Go.Proofs.YtgbnkkjjgodilaaGreatDoor.Nd
