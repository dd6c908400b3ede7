/- The program's replicaOk. -/
import Derived.Test.YtgbnkkjjgodilaaGreatDoorBun16
import Derived.Test.YtgbnkkjjgodilaaGreatDoorBun7
import Derived.Test.YtgbnkkjjgodilaaGreatDoorBun12
import Derived.Test.YtgbnkkjjgodilaaGreatDoorBun17
import Derived.Test.YtgbnkkjjgodilaaGreatDoorBun15
import Derived.Test.YtgbnkkjjgodilaaGreatDoorBun14
import Derived.Test.YtgbnkkjjgodilaaGreatDoorBun3
import Derived.Test.YtgbnkkjjgodilaaGreatDoorBun19
import Derived.Test.YtgbnkkjjgodilaaGreatDoorBun18
import Derived.Test.YtgbnkkjjgodilaaGreatDoorMem
import Derived.Test.YtgbnkkjjgodilaaGreatDoorProg
import Derived.Laws.OwnMore
import Derived.Deep.OwnRows
import Derived.Deep.Strs
import Derived.OwnWalk
import Derived.OpenShut
import Derived.Laws.AppendOwn
import Derived.Lib.SmallJoins
set_option maxRecDepth 100000
set_option maxHeartbeats 32000000
set_option linter.unusedVariables false
namespace Go.Proofs.YtgbnkkjjgodilaaGreatDoor.Rp
open Go.ChangeShapes Go.WideShapes Go.ChangeAt Go.RowKit
open Vv (Sl sv hidIt)
theorem impl_replicaOk (s t : Sl) (r : Rep) (w : World) (hE : RdE w s r.1) (hM : RdM w t r.2) (hs : En.shortR r.1) (h1 : r.1.length ≤ 9223372036854775807) (h2 : r.2.length ≤ 9223372036854775807) :
  Calls Tryz.prog 77 #[.agg #[sv s,sv t]] w fun e w'=>e = .returned (.bool (okR r)) ∧ Below w.heap.size w w':=by
 obtain ⟨s0,s1,s2⟩:=s
 obtain ⟨t0,t1,t2⟩:=t
 obtain ⟨e1,r1,_,_,_⟩:=hE
 obtain ⟨e2,r2,_,_,_⟩:=hM
 simp only at e1 r1 e2 r2
 have C1:=hidIt (fun W (k : En.Rd W s0 r.1)=>En.impl_BookOk s0 s2 r.1 W k h1 hs)
 have C2:=hidIt (fun W (k : Mm.Rd W t0 r.2)=>Mm.impl_MembersOk t0 t2 r.2 W k h2)
 rw [← e1] at C1
 rw [← e2] at C2
 have HOK : Hid (okR r = (Bk.okBk (En.toB r.1) && Mk.okBk (Mm.toB r.2))):=hidIt rfl
 generalize Bk.okBk (En.toB r.1) = k1 at C1 HOK
 generalize Mk.okBk (Mm.toB r.2) = k2 at C2 HOK
 generalize okR r = k at HOK ⊢
 have HB:=hidIt ((Below.refl w.heap.size w).alloc (Nat.le_refl _) (.cells #[.slice s0 s1 s2,.slice t0 t1 t2] 43))
 have H1:=hidIt (r1.kept HB.out)
 have H2:=hidIt (r2.kept HB.out)
 have BX:=hidIt (Bo.Box.new w #[.slice s0 s1 s2,.slice t0 t1 t2] 43)
 clear r1 r2 e1 e2 hs
 simp only [sv]
 cases k1 with
 | false =>
  have er:=HOK.out
  simp only [Bool.false_and] at er
  subst er
  go_enter Tryz.func77,Tryz.ntmps77
  go_wp2_with (fail)
  refine (C1.out _ H1.out).mono ?_
  rintro e w1 ⟨rfl,k⟩
  have HB1:=hidIt (on HB.out k)
  clear k
  go_wp2_with (fail)
  go_ret
  exact ⟨rfl,HB1.out⟩
 | true =>
  have er:=HOK.out
  simp only [Bool.true_and] at er
  subst er
  go_enter Tryz.func77,Tryz.ntmps77
  go_wp2_with (fail)
  refine (C1.out _ H1.out).mono ?_
  rintro e w1 ⟨rfl,k1⟩
  have HB1:=hidIt (on HB.out k1)
  have BX1:=hidIt (BX.out.kept k1)
  have c1:=BX1.out.c 1 rfl
  have H3:=hidIt (H2.out.kept k1)
  clear k1
  go_wp2_with (fail)
  refine (C2.out _ H3.out).mono ?_
  rintro e w2 ⟨rfl,k2⟩
  have HB2:=hidIt (on HB1.out k2)
  clear k2
  go_wp2_with (fail)
  go_ret
  exact ⟨rfl,HB2.out⟩
end Go.Proofs.YtgbnkkjjgodilaaGreatDoor.Rp
namespace Go.Proofs.YtgbnkkjjgodilaaGreatDoor.Nd
open Go.ChangeShapes Go.WideShapes Go.ChangeAt Go.RowKit
open Vv (Sl sv hidIt)
theorem impl_NodeOk (x : Nw) (e m b g : Sl) (w : World) (h : RdN w x e m b g) (hs : ShortN x) (ht : Sg.Tab w) :
  Calls Tryz.prog 46 #[nv x e m b g] w fun en w'=>en = .returned (.bool (okN x)) ∧ Below w.heap.size w w':=by
 have hE:=h.e
 have hM:=h.m
 obtain ⟨bk,mm,ph,mn,ol,nw,tm,bu,lg,ap⟩:=x
 obtain ⟨e0,e1,e2⟩:=e
 obtain ⟨t0,t1,t2⟩:=m
 obtain ⟨b0,b1,b2⟩:=b
 obtain ⟨g0,g1,g2⟩:=g
 obtain ⟨⟨z1,rE,nE,lE,cE⟩,⟨z2,rM,nM,lM,cM⟩,⟨z3,rB,nB,lB,cB⟩,⟨z4,rG,lG,cG⟩⟩:=h
 simp only at z1 rE nE lE cE z2 rM nM lM cM z3 rB nB lB cB z4 rG lG cG
 obtain ⟨sE,sG,sA⟩:=hs
 simp only at sE sG sA
 simp only at hE hM
 have C1:=hidIt (fun W (k : Rp.RdE W (e0,e1,e2) bk) (k' : Rp.RdM W (t0,t1,t2) mm)=>Rp.impl_replicaOk (e0,e1,e2) (t0,t1,t2) (bk,mm) W k k' sE (by show bk.length ≤ _; omega) (by show mm.length ≤ _; omega))
 have C3 : Hid (∀ W,Calls Tryz.prog 78 #[.agg #[.int .i64 ph,.int .i64 mn,.int .i64 ol,.int .i64 nw,.int .i64 tm]] W fun en w'=>en = .returned (.bool (Ro.rollOk ph mn ol nw tm)) ∧ Below W.heap.size W w'):=hidIt (fun W=>(Ro.impl_RollOk ph mn ol nw tm W).mono (fun en w' ⟨a,c⟩=>⟨a,by rw [c]; exact ((Below.refl _ _).alloc (Nat.le_refl _) _).alloc (by simp) _⟩))
 have C4:=hidIt (fun W (r : Bu.Rd W b0 bu)=>Bu.impl_BucketsOk b0 b2 bu W r (by omega))
 have C5:=hidIt (fun W (r : Lg.Rd W g0 lg) (t : Sg.Tab W)=>Lg.impl_LogOk g0 g2 lg W r (by omega) t)
 have C6:=hidIt (fun W=>impl_hasLabels ap W)
 have HT:=hidIt (fun W (k : Below w.heap.size w W)=>ht.kept k)
 have HOK : Hid (okN ⟨bk,mm,ph,mn,ol,nw,tm,bu,lg,ap⟩ = (Rp.okR (bk,mm) && (Ro.rollOk ph mn ol nw tm && (Bu.okB bu && (Lg.okL lg && apexB ap))))):=hidIt (by unfold okN Rp.okR; simp only [Bool.and_assoc])
 have HE:=hidIt hE
 have HM:=hidIt hM
 have RB:=hidIt rB
 have RG:=hidIt rG
 clear hE hM rE rM rB rG sE sG sA ht
 subst z1 z2 z3 z4
 simp only [sv] at C1
 simp only [nv,nc,sv]
 generalize okN ⟨bk,mm,ph,mn,ol,nw,tm,bu,lg,ap⟩ = r at HOK ⊢
 generalize Rp.okR (bk,mm) = k1 at C1 HOK
 generalize Ro.rollOk ph mn ol nw tm = k3 at C3 HOK
 generalize Bu.okB bu = k4 at C4 HOK
 generalize Lg.okL lg = k5 at C5 HOK
 generalize apexB ap = k6 at C6 HOK
 generalize bk.length = m1 at *
 generalize mm.length = m2 at *
 generalize bu.length = m3 at *
 generalize lg.length = m4 at *
 cases k1 with
 | false =>
  have er : r = false:=by rw [HOK.out]; rfl
  subst er
  have BX:=hidIt (Bo.Box.new w #[.slice e0 m1 e2,.slice t0 m2 t2,.int .i64 ph,.int .i64 mn,.int .i64 ol,.int .i64 nw,.int .i64 tm,.slice b0 m3 b2,.slice g0 m4 g2,.string ap] 49)
  have HB:=hidIt ((Below.refl w.heap.size w).alloc (Nat.le_refl _) (.cells #[.slice e0 m1 e2,.slice t0 m2 t2,.int .i64 ph,.int .i64 mn,.int .i64 ol,.int .i64 nw,.int .i64 tm,.slice b0 m3 b2,.slice g0 m4 g2,.string ap] 49))
  have d0:=BX.out.c 0 (v:=.slice e0 m1 e2) rfl
  have d1:=BX.out.c 1 (v:=.slice t0 m2 t2) rfl
  go_enter Tryz.func46,Tryz.ntmps46
  go_wp2_with (fail)
  refine (C1.out _ (HE.out.kept HB.out) (HM.out.kept HB.out)).mono ?_
  rintro en w1 ⟨rfl,kk⟩
  replace HB:=hidIt (on HB.out kk)
  replace BX:=hidIt (BX.out.kept kk)
  clear kk d0 d1
  go_wp2_with (fail)
  go_ret
  exact ⟨rfl,HB.out⟩
 | true =>
  cases k3 with
  | false =>
   have er : r = false:=by rw [HOK.out]; rfl
   subst er
   have BX:=hidIt (Bo.Box.new w #[.slice e0 m1 e2,.slice t0 m2 t2,.int .i64 ph,.int .i64 mn,.int .i64 ol,.int .i64 nw,.int .i64 tm,.slice b0 m3 b2,.slice g0 m4 g2,.string ap] 49)
   have HB:=hidIt ((Below.refl w.heap.size w).alloc (Nat.le_refl _) (.cells #[.slice e0 m1 e2,.slice t0 m2 t2,.int .i64 ph,.int .i64 mn,.int .i64 ol,.int .i64 nw,.int .i64 tm,.slice b0 m3 b2,.slice g0 m4 g2,.string ap] 49))
   have d0:=BX.out.c 0 (v:=.slice e0 m1 e2) rfl
   have d1:=BX.out.c 1 (v:=.slice t0 m2 t2) rfl
   go_enter Tryz.func46,Tryz.ntmps46
   go_wp2_with (fail)
   refine (C1.out _ (HE.out.kept HB.out) (HM.out.kept HB.out)).mono ?_
   rintro en w1 ⟨rfl,kk⟩
   replace HB:=hidIt (on HB.out kk)
   replace BX:=hidIt (BX.out.kept kk)
   clear kk d0 d1
   have d2:=BX.out.c 2 (v:=.int .i64 ph) rfl
   have d3:=BX.out.c 3 (v:=.int .i64 mn) rfl
   have d4:=BX.out.c 4 (v:=.int .i64 ol) rfl
   have d5:=BX.out.c 5 (v:=.int .i64 nw) rfl
   have d6:=BX.out.c 6 (v:=.int .i64 tm) rfl
   go_wp2_with (fail)
   refine (C3.out _).mono ?_
   rintro en w2 ⟨rfl,kk⟩
   replace HB:=hidIt (on HB.out kk)
   replace BX:=hidIt (BX.out.kept kk)
   clear kk d2 d3 d4 d5 d6
   go_wp2_with (fail)
   go_ret
   exact ⟨rfl,HB.out⟩
  | true =>
   cases k4 with
   | false =>
    have er : r = false:=by rw [HOK.out]; rfl
    subst er
    have BX:=hidIt (Bo.Box.new w #[.slice e0 m1 e2,.slice t0 m2 t2,.int .i64 ph,.int .i64 mn,.int .i64 ol,.int .i64 nw,.int .i64 tm,.slice b0 m3 b2,.slice g0 m4 g2,.string ap] 49)
    have HB:=hidIt ((Below.refl w.heap.size w).alloc (Nat.le_refl _) (.cells #[.slice e0 m1 e2,.slice t0 m2 t2,.int .i64 ph,.int .i64 mn,.int .i64 ol,.int .i64 nw,.int .i64 tm,.slice b0 m3 b2,.slice g0 m4 g2,.string ap] 49))
    have d0:=BX.out.c 0 (v:=.slice e0 m1 e2) rfl
    have d1:=BX.out.c 1 (v:=.slice t0 m2 t2) rfl
    go_enter Tryz.func46,Tryz.ntmps46
    go_wp2_with (fail)
    refine (C1.out _ (HE.out.kept HB.out) (HM.out.kept HB.out)).mono ?_
    rintro en w1 ⟨rfl,kk⟩
    replace HB:=hidIt (on HB.out kk)
    replace BX:=hidIt (BX.out.kept kk)
    clear kk d0 d1
    have d2:=BX.out.c 2 (v:=.int .i64 ph) rfl
    have d3:=BX.out.c 3 (v:=.int .i64 mn) rfl
    have d4:=BX.out.c 4 (v:=.int .i64 ol) rfl
    have d5:=BX.out.c 5 (v:=.int .i64 nw) rfl
    have d6:=BX.out.c 6 (v:=.int .i64 tm) rfl
    go_wp2_with (fail)
    refine (C3.out _).mono ?_
    rintro en w2 ⟨rfl,kk⟩
    replace HB:=hidIt (on HB.out kk)
    replace BX:=hidIt (BX.out.kept kk)
    clear kk d2 d3 d4 d5 d6
    have d7:=BX.out.c 7 (v:=.slice b0 m3 b2) rfl
    go_wp2_with (fail)
    refine (C4.out _ (RB.out.kept HB.out)).mono ?_
    rintro en w3 ⟨rfl,kk⟩
    replace HB:=hidIt (on HB.out kk)
    replace BX:=hidIt (BX.out.kept kk)
    clear kk d7
    go_wp2_with (fail)
    go_ret
    exact ⟨rfl,HB.out⟩
   | true =>
    cases k5 with
    | false =>
     have er : r = false:=by rw [HOK.out]; rfl
     subst er
     have BX:=hidIt (Bo.Box.new w #[.slice e0 m1 e2,.slice t0 m2 t2,.int .i64 ph,.int .i64 mn,.int .i64 ol,.int .i64 nw,.int .i64 tm,.slice b0 m3 b2,.slice g0 m4 g2,.string ap] 49)
     have HB:=hidIt ((Below.refl w.heap.size w).alloc (Nat.le_refl _) (.cells #[.slice e0 m1 e2,.slice t0 m2 t2,.int .i64 ph,.int .i64 mn,.int .i64 ol,.int .i64 nw,.int .i64 tm,.slice b0 m3 b2,.slice g0 m4 g2,.string ap] 49))
     have d0:=BX.out.c 0 (v:=.slice e0 m1 e2) rfl
     have d1:=BX.out.c 1 (v:=.slice t0 m2 t2) rfl
     go_enter Tryz.func46,Tryz.ntmps46
     go_wp2_with (fail)
     refine (C1.out _ (HE.out.kept HB.out) (HM.out.kept HB.out)).mono ?_
     rintro en w1 ⟨rfl,kk⟩
     replace HB:=hidIt (on HB.out kk)
     replace BX:=hidIt (BX.out.kept kk)
     clear kk d0 d1
     have d2:=BX.out.c 2 (v:=.int .i64 ph) rfl
     have d3:=BX.out.c 3 (v:=.int .i64 mn) rfl
     have d4:=BX.out.c 4 (v:=.int .i64 ol) rfl
     have d5:=BX.out.c 5 (v:=.int .i64 nw) rfl
     have d6:=BX.out.c 6 (v:=.int .i64 tm) rfl
     go_wp2_with (fail)
     refine (C3.out _).mono ?_
     rintro en w2 ⟨rfl,kk⟩
     replace HB:=hidIt (on HB.out kk)
     replace BX:=hidIt (BX.out.kept kk)
     clear kk d2 d3 d4 d5 d6
     have d7:=BX.out.c 7 (v:=.slice b0 m3 b2) rfl
     go_wp2_with (fail)
     refine (C4.out _ (RB.out.kept HB.out)).mono ?_
     rintro en w3 ⟨rfl,kk⟩
     replace HB:=hidIt (on HB.out kk)
     replace BX:=hidIt (BX.out.kept kk)
     clear kk d7
     have d8:=BX.out.c 8 (v:=.slice g0 m4 g2) rfl
     go_wp2_with (fail)
     refine (C5.out _ (RG.out.kept HB.out) (HT.out _ HB.out)).mono ?_
     rintro en w4 ⟨rfl,kk⟩
     replace HB:=hidIt (on HB.out kk)
     replace BX:=hidIt (BX.out.kept kk)
     clear kk d8
     go_wp2_with (fail)
     go_ret
     exact ⟨rfl,HB.out⟩
    | true =>
     cases k6 with
     | false =>
      have er : r = false:=by rw [HOK.out]; rfl
      subst er
      have BX:=hidIt (Bo.Box.new w #[.slice e0 m1 e2,.slice t0 m2 t2,.int .i64 ph,.int .i64 mn,.int .i64 ol,.int .i64 nw,.int .i64 tm,.slice b0 m3 b2,.slice g0 m4 g2,.string ap] 49)
      have HB:=hidIt ((Below.refl w.heap.size w).alloc (Nat.le_refl _) (.cells #[.slice e0 m1 e2,.slice t0 m2 t2,.int .i64 ph,.int .i64 mn,.int .i64 ol,.int .i64 nw,.int .i64 tm,.slice b0 m3 b2,.slice g0 m4 g2,.string ap] 49))
      have d0:=BX.out.c 0 (v:=.slice e0 m1 e2) rfl
      have d1:=BX.out.c 1 (v:=.slice t0 m2 t2) rfl
      go_enter Tryz.func46,Tryz.ntmps46
      go_wp2_with (fail)
      refine (C1.out _ (HE.out.kept HB.out) (HM.out.kept HB.out)).mono ?_
      rintro en w1 ⟨rfl,kk⟩
      replace HB:=hidIt (on HB.out kk)
      replace BX:=hidIt (BX.out.kept kk)
      clear kk d0 d1
      have d2:=BX.out.c 2 (v:=.int .i64 ph) rfl
      have d3:=BX.out.c 3 (v:=.int .i64 mn) rfl
      have d4:=BX.out.c 4 (v:=.int .i64 ol) rfl
      have d5:=BX.out.c 5 (v:=.int .i64 nw) rfl
      have d6:=BX.out.c 6 (v:=.int .i64 tm) rfl
      go_wp2_with (fail)
      refine (C3.out _).mono ?_
      rintro en w2 ⟨rfl,kk⟩
      replace HB:=hidIt (on HB.out kk)
      replace BX:=hidIt (BX.out.kept kk)
      clear kk d2 d3 d4 d5 d6
      have d7:=BX.out.c 7 (v:=.slice b0 m3 b2) rfl
      go_wp2_with (fail)
      refine (C4.out _ (RB.out.kept HB.out)).mono ?_
      rintro en w3 ⟨rfl,kk⟩
      replace HB:=hidIt (on HB.out kk)
      replace BX:=hidIt (BX.out.kept kk)
      clear kk d7
      have d8:=BX.out.c 8 (v:=.slice g0 m4 g2) rfl
      go_wp2_with (fail)
      refine (C5.out _ (RG.out.kept HB.out) (HT.out _ HB.out)).mono ?_
      rintro en w4 ⟨rfl,kk⟩
      replace HB:=hidIt (on HB.out kk)
      replace BX:=hidIt (BX.out.kept kk)
      clear kk d8
      have d9:=BX.out.c 9 (v:=.string ap) rfl
      go_wp2_with (fail)
      refine (C6.out _).mono ?_
      rintro en w5 ⟨rfl,kk⟩
      replace HB:=hidIt (on HB.out kk)
      replace BX:=hidIt (BX.out.kept kk)
      clear kk d9
      go_wp2_with (fail)
      go_ret
      exact ⟨rfl,HB.out⟩
     | true =>
      have er : r = true:=by rw [HOK.out]; rfl
      subst er
      have BX:=hidIt (Bo.Box.new w #[.slice e0 m1 e2,.slice t0 m2 t2,.int .i64 ph,.int .i64 mn,.int .i64 ol,.int .i64 nw,.int .i64 tm,.slice b0 m3 b2,.slice g0 m4 g2,.string ap] 49)
      have HB:=hidIt ((Below.refl w.heap.size w).alloc (Nat.le_refl _) (.cells #[.slice e0 m1 e2,.slice t0 m2 t2,.int .i64 ph,.int .i64 mn,.int .i64 ol,.int .i64 nw,.int .i64 tm,.slice b0 m3 b2,.slice g0 m4 g2,.string ap] 49))
      have d0:=BX.out.c 0 (v:=.slice e0 m1 e2) rfl
      have d1:=BX.out.c 1 (v:=.slice t0 m2 t2) rfl
      go_enter Tryz.func46,Tryz.ntmps46
      go_wp2_with (fail)
      refine (C1.out _ (HE.out.kept HB.out) (HM.out.kept HB.out)).mono ?_
      rintro en w1 ⟨rfl,kk⟩
      replace HB:=hidIt (on HB.out kk)
      replace BX:=hidIt (BX.out.kept kk)
      clear kk d0 d1
      have d2:=BX.out.c 2 (v:=.int .i64 ph) rfl
      have d3:=BX.out.c 3 (v:=.int .i64 mn) rfl
      have d4:=BX.out.c 4 (v:=.int .i64 ol) rfl
      have d5:=BX.out.c 5 (v:=.int .i64 nw) rfl
      have d6:=BX.out.c 6 (v:=.int .i64 tm) rfl
      go_wp2_with (fail)
      refine (C3.out _).mono ?_
      rintro en w2 ⟨rfl,kk⟩
      replace HB:=hidIt (on HB.out kk)
      replace BX:=hidIt (BX.out.kept kk)
      clear kk d2 d3 d4 d5 d6
      have d7:=BX.out.c 7 (v:=.slice b0 m3 b2) rfl
      go_wp2_with (fail)
      refine (C4.out _ (RB.out.kept HB.out)).mono ?_
      rintro en w3 ⟨rfl,kk⟩
      replace HB:=hidIt (on HB.out kk)
      replace BX:=hidIt (BX.out.kept kk)
      clear kk d7
      have d8:=BX.out.c 8 (v:=.slice g0 m4 g2) rfl
      go_wp2_with (fail)
      refine (C5.out _ (RG.out.kept HB.out) (HT.out _ HB.out)).mono ?_
      rintro en w4 ⟨rfl,kk⟩
      replace HB:=hidIt (on HB.out kk)
      replace BX:=hidIt (BX.out.kept kk)
      clear kk d8
      have d9:=BX.out.c 9 (v:=.string ap) rfl
      go_wp2_with (fail)
      refine (C6.out _).mono ?_
      rintro en w5 ⟨rfl,kk⟩
      replace HB:=hidIt (on HB.out kk)
      replace BX:=hidIt (BX.out.kept kk)
      clear kk d9
      go_wp2_with (fail)
      go_ret
      exact ⟨rfl,HB.out⟩
end Go.Proofs.YtgbnkkjjgodilaaGreatDoor.Nd
namespace Go.Proofs.YtgbnkkjjgodilaaGreatDoor.Lg
open Go.ChangeShapes Go.WideShapes Go.ChangeAt Go.RowKit
open Sg
theorem szLineS_sum (a : Option Addr) (cap : Nat) (L : List Ln) (l : Int) (w : World) (h : Rd w a L) (hl : L.length ≤ 9223372036854775807) (hs : ∀ i,i < L.length → (lat L i).1.size ≤ 9223372036854775807) (h0 : 0 ≤ l) (h1 : l ≤ 1048576) :
  Calls Tryz.prog 66 #[.slice a L.length cap,.int .i64 l] w fun e w'=>∃ r : Int,e = .returned (.int .i64 r) ∧ r ≤ l ∧ (0 ≤ r → r + (L.length : Int) ≤ l) ∧ Below w.heap.size w w':=by
 generalize hn : L.length = n at *
 have HR:=hidIt h
 have HN:=hidIt hn
 have HS:=hidIt hs
 clear h hn hs
 have h2 : -9223372036854775808 ≤ l - (n : Int):=by omega
 have h3 : l - (n : Int) ≤ 9223372036854775807:=by omega
 by_cases hs2 : l - (n : Int) < 0
 ·
  go_enter Tryz.func66,Tryz.ntmps66
  go_wp2
  go_ret
  exact ⟨-1,rfl,by omega,fun h=>by omega,Below.refl _ _⟩
 ·
  have hn2 : n ≤ 1048576:=by omega
  go_enter Tryz.func66,Tryz.ntmps66
  go_wp2_with (fail)
  go_loopw [1,5] (fun z y wx=>∃ (i : Nat) (r : Int),y = .int .i64 i ∧ z = .int .i64 r ∧ 0 ≤ r ∧ r + (n : Int) ≤ l ∧ i ≤ n ∧ Below w.heap.size w wx) (fun _ y _=>(n - intOf y).toNat)
  case atStart=>exact ⟨0,_,rfl,rfl,by omega,by omega,by omega,Below.refl _ _⟩
  case round =>
   obtain ⟨i,r,rfl,rfl,r0,r1,hi,hB⟩:=hrel
   have HRx:=hidIt (HR.out.kept hB)
   have HB:=hidIt hB
   clear hB
   by_cases hin : i < n
   ·
    have hin' : (i : Int) < (n : Int):=by omega
    obtain ⟨b,off,rfl,c0,c1⟩:=HRx.out.cell i (by rw [HN.out]; exact hin)
    have hsz:=HS.out i hin
    generalize lat L i = x at c0 c1 hsz
    obtain ⟨s,q⟩:=x
    go_wp2_with (fail)
    refine (szLine_any s q r _ r0 (by omega) hsz).mono ?_
    rintro e w1 ⟨r',rfl,hr',hb1⟩
    have HB1:=hidIt (HB.out.trans (hb1.mono HB.out.size))
    clear hb1 HRx HB
    by_cases hneg : r' < 0
    ·
     go_wp2_with (fail)
     go_ret
     exact ⟨-1,rfl,by omega,fun h=>by omega,HB1.out⟩
    ·
     go_wp2_with (fail)
     exact ⟨⟨i + 1,r',by simp,rfl,by omega,by omega,by omega,HB1.out⟩,by simp [intOf]; omega⟩
   ·
    have hin' : ¬ (i : Int) < (n : Int):=by omega
    go_wp2_with (fail)
    go_ret
    exact ⟨r,rfl,by omega,fun _=>r1,HB.out⟩
end Go.Proofs.YtgbnkkjjgodilaaGreatDoor.Lg
namespace Go.Proofs.YtgbnkkjjgodilaaGreatDoor.Nd
open Go.ChangeShapes Go.WideShapes Go.ChangeAt Go.RowKit
open Vv (Sl sv hidIt)
def bulkN (x : Nw) : Nat:=x.book.length + x.mem.length + x.buc.length + x.log.length
structure LeN (x : Nw) (q l : Int) : Prop where
 le : q ≤ l
 sm : 0 ≤ q → SmallN x
 sum : 0 ≤ q → q + (bulkN x : Int) ≤ l
theorem sz_sum (x : Nw) (e m b g : Sl) (l : Int) (w : World) (h : RdN w x e m b g) (hs : ShortN x) (h0 : 0 ≤ l) (h1 : l ≤ 1048576) :
  Calls Tryz.prog 36 #[nv x e m b g,.int .i64 l] w fun en w'=>∃ q : Int,en = .returned (.int .i64 q) ∧ LeN x q l ∧ Below w.heap.size w w':=by
 have hE:=h.e
 have hM:=h.m
 obtain ⟨bk,mm,ph,mn,ol,nw,tm,bu,lg,ap⟩:=x
 obtain ⟨e0,e1,e2⟩:=e
 obtain ⟨t0,t1,t2⟩:=m
 obtain ⟨b0,b1,b2⟩:=b
 obtain ⟨g0,g1,g2⟩:=g
 obtain ⟨⟨z1,rE,nE,lE,cE⟩,⟨z2,rM,nM,lM,cM⟩,⟨z3,rB,nB,lB,cB⟩,⟨z4,rG,lG,cG⟩⟩:=h
 simp only at z1 rE nE lE cE z2 rM nM lM cM z3 rB nB lB cB z4 rG lG cG
 obtain ⟨sE,sG,sA⟩:=hs
 simp only at sE sG sA hE hM
 have C1:=hidIt (fun W (k : Rp.RdE W (e0,e1,e2) bk) (k' : Rp.RdM W (t0,t1,t2) mm)=>Rp.sz_any (e0,e1,e2) (t0,t1,t2) (bk,mm) l W k k' sE h0 h1)
 have C2:=hidIt (fun l' W (k : Bu.Rd W b0 bu)=>Bu.szS_any b0 b2 bu l' W k (by omega))
 have C3:=hidIt (fun l' W (k : Lg.Rd W g0 lg)=>Lg.szLineS_sum g0 g2 lg l' W k (by omega) sG)
 have HE:=hidIt hE
 have HM:=hidIt hM
 have RB:=hidIt rB
 have RG:=hidIt rG
 have MK : Hid (∀ q : Int,q ≤ l → (0 ≤ q → q + ((bk.length + mm.length + bu.length + lg.length : Nat) : Int) + (ap.size : Int) ≤ l) → LeN ⟨bk,mm,ph,mn,ol,nw,tm,bu,lg,ap⟩ q l):=hidIt (fun q a c=>⟨a,fun z=>by have:=c z; exact ⟨by show bk.length ≤ _; omega,by show mm.length ≤ _; omega,by show bu.length ≤ _; omega,by show lg.length ≤ _; omega,by show ap.size ≤ _; omega⟩,fun z=>by have:=c z; show q + ((bk.length + mm.length + bu.length + lg.length : Nat) : Int) ≤ l; omega⟩)
 have hbulk : Rp.bulk1 (bk,mm) = bk.length + mm.length:=rfl
 rw [hbulk] at C1
 clear hE hM sE sG rE rM rB rG hbulk
 subst z1 z2 z3 z4
 simp only [sv] at C1
 generalize bk.length = m1 at *
 generalize mm.length = m2 at *
 generalize bu.length = m3 at *
 generalize lg.length = m4 at *
 have BX:=hidIt (Bo.Box.new w #[.slice e0 m1 e2,.slice t0 m2 t2,.int .i64 ph,.int .i64 mn,.int .i64 ol,.int .i64 nw,.int .i64 tm,.slice b0 m3 b2,.slice g0 m4 g2,.string ap] 73)
 have HB:=hidIt ((Below.refl w.heap.size w).alloc (Nat.le_refl _) (.cells #[.slice e0 m1 e2,.slice t0 m2 t2,.int .i64 ph,.int .i64 mn,.int .i64 ol,.int .i64 nw,.int .i64 tm,.slice b0 m3 b2,.slice g0 m4 g2,.string ap] 73))
 have d0:=BX.out.c 0 rfl
 have d1:=BX.out.c 1 rfl
 simp only [nv,nc,sv]
 go_enter Tryz.func36,Tryz.ntmps36
 go_wp2_with (fail)
 refine (C1.out _ (HE.out.kept HB.out) (HM.out.kept HB.out)).mono ?_
 rintro en w1 ⟨q,rfl,hq,k1⟩
 have HQ:=hidIt hq
 have HB1:=hidIt (on HB.out k1)
 have BX1:=hidIt (BX.out.kept k1)
 have q1:=hq.le
 clear k1 hq d0 d1
 by_cases hneg : q < 0
 ·
  go_wp2_with (fail)
  go_ret
  first | exact ⟨-1,rfl,MK.out _ (by omega) (fun z=>by omega),HB1.out⟩ | exact ⟨MK.out _ (by omega) (fun z=>by omega),HB1.out⟩
 have d7:=BX1.out.c 7 rfl
 go_wp2_with (fail)
 refine (C2.out q _ (RB.out.kept HB1.out) (by omega) (by omega)).mono ?_
 rintro en w2 ⟨p,rfl,hp,hp2,k1⟩
 have HB2:=hidIt (on HB1.out k1)
 have BX2:=hidIt (BX1.out.kept k1)
 have p1:=hp.le
 have HP2:=hidIt hp
 clear k1 hp d7 hp2
 by_cases hneg2 : p < 0
 ·
  go_wp2_with (fail)
  go_ret
  first | exact ⟨-1,rfl,MK.out _ (by omega) (fun z=>by omega),HB2.out⟩ | exact ⟨MK.out _ (by omega) (fun z=>by omega),HB2.out⟩
 have d8:=BX2.out.c 8 rfl
 go_wp2_with (fail)
 refine (C3.out p _ (RG.out.kept HB2.out) (by omega) (by omega)).mono ?_
 rintro en w3 ⟨r,rfl,hr,hr2,k1⟩
 have HB3:=hidIt (on HB2.out k1)
 have BX3:=hidIt (BX2.out.kept k1)
 have HR2:=hidIt hr2
 clear k1 d8 hr2
 by_cases hneg3 : r < 0
 ·
  go_wp2_with (fail)
  go_ret
  first | exact ⟨-1,rfl,MK.out _ (by omega) (fun z=>by omega),HB3.out⟩ | exact ⟨MK.out _ (by omega) (fun z=>by omega),HB3.out⟩
 have d9:=BX3.out.c 9 rfl
 have gw : ¬ 9223372036854775807 < r - (ap.size : Int):=by omega
 have gw2 : ¬ r - (ap.size : Int) < -9223372036854775808:=by omega
 by_cases hneg4 : r - (ap.size : Int) < 0
 ·
  go_wp2_with (fail)
  go_ret
  first | exact ⟨-1,rfl,MK.out _ (by omega) (fun z=>by omega),HB3.out⟩ | exact ⟨MK.out _ (by omega) (fun z=>by omega),HB3.out⟩
 ·
  go_wp2_with (fail)
  go_ret
  have i1:=HQ.out.sum (by omega)
  have i2:=HP2.out.sum (by omega)
  have i3:=HR2.out (by omega)
  first | exact ⟨_,rfl,MK.out _ (by omega) (fun z=>by omega),HB3.out⟩ | exact ⟨MK.out _ (by omega) (fun z=>by omega),HB3.out⟩
end Go.Proofs.YtgbnkkjjgodilaaGreatDoor.Nd
namespace Go.Proofs.YtgbnkkjjgodilaaGreatDoor.Ns
open Go.ChangeShapes Go.WideShapes Go.ChangeAt Go.RowKit
open Vv (Sl sv hidIt)
open Nd (Nw RdN OwnN ShortN SmallN on)
def bulkS : List Nw → Nat
 | []=>0
 | x :: L=>Nd.bulkN x + bulkS L
theorem bulkS_app (L M : List Nw) : bulkS (L ++ M) = bulkS L + bulkS M:=by
 induction L with
 | nil=>simp [bulkS]
 | cons r L ih=>simp only [List.cons_append,bulkS,ih]; omega
theorem bulkS_take {L : List Nw} {i : Nat} (h : i < L.length) : bulkS (L.take (i + 1)) = bulkS (L.take i) + Nd.bulkN (nod L i):=by
 rw [take_nod h,bulkS_app]
 simp [bulkS]
theorem cost_bulk (L : List Nw) : cost L ≤ 5 * bulkS L + 6 * L.length:=by
 induction L with
 | nil=>simp [cost]
 | cons r L ih=>simp only [cost,costN,bulkS,Nd.bulkN,List.length_cons]; omega
structure LeS (L : List Nw) (q l : Int) : Prop where
 le : q ≤ l
 sm : 0 ≤ q → L.length ≤ 1048576 ∧ ∀ i,i < L.length → SmallN (nod L i)
 sum : 0 ≤ q → q + (L.length : Int) + (bulkS L : Int) ≤ l
theorem szS_sum (a : Option Addr) (cap : Nat) (L : List Nw) (l : Int) (w : World) (h : Rd w a L) (hl : L.length ≤ 9223372036854775807) (hs : ∀ i,i < L.length → ShortN (nod L i)) (h0 : 0 ≤ l) (h1 : l ≤ 1048576) :
  Calls Tryz.prog 14 #[.slice a L.length cap,.int .i64 l] w fun e w'=>∃ q : Int,e = .returned (.int .i64 q) ∧ LeS L q l ∧ Below w.heap.size w w':=by
 have HLe : Hid (∀ q : Int,q ≤ l → (0 ≤ q → (L.length ≤ 1048576 ∧ ∀ i,i < L.length → SmallN (nod L i)) ∧ q + (L.length : Int) + (bulkS L : Int) ≤ l) → LeS L q l):=hidIt (fun q h h'=>⟨h,fun z=>(h' z).1,fun z=>(h' z).2⟩)
 generalize hn : L.length = m at *
 have HR:=hidIt h
 have HN:=hidIt hn
 have HS:=hidIt hs
 clear h hn hs
 have h2 : -9223372036854775808 ≤ l - (m : Int):=by omega
 have h3 : l - (m : Int) ≤ 9223372036854775807:=by omega
 by_cases hs2 : l - (m : Int) < 0
 ·
  go_enter Tryz.func14,Tryz.ntmps14
  go_wp2
  go_ret
  have z:=HLe.out (-1) (by omega) (fun h=>by omega)
  first | exact ⟨-1,rfl,z,Below.refl _ _⟩ | exact ⟨z,Below.refl _ _⟩
 ·
  have hn2 : m ≤ 1048576:=by omega
  go_enter Tryz.func14,Tryz.ntmps14
  go_wp2_with (fail)
  go_loopw [1,5] (fun z y wx=>∃ (i : Nat) (r : Int),y = .int .i64 i ∧ z = .int .i64 r ∧ 0 ≤ r ∧ r ≤ l ∧ Hid (r + (m : Int) + (bulkS (L.take i) : Int) ≤ l) ∧ Hid (∀ j,j < i → SmallN (nod L j)) ∧ i ≤ m ∧ Hid (Below w.heap.size w wx)) (fun _ y _=>(m - intOf y).toNat)
  case atStart=>exact ⟨0,_,rfl,rfl,by omega,by omega,hidIt (by rw [List.take_zero]; show _ + _ + ((0 : Nat) : Int) ≤ _; omega),hidIt (fun j hj=>by omega),by omega,hidIt (Below.refl _ _)⟩
  case round =>
   obtain ⟨i,r,rfl,rfl,r0,r1,HSu,HL,hi,HB⟩:=hrel
   by_cases hin : i < m
   ·
    have hin' : (i : Int) < (m : Int):=by omega
    obtain ⟨q,off,e,m,b,g,rfl,c0,c1,c2,c3,c4,c5,c6,c7,c8,c9,rN⟩:=(HR.out.kept HB.out).one (i:=i) (by rw [HN.out]; exact hin)
    have HC:=hidIt (Nd.sz_sum (nod L i) e m b g r wr rN (HS.out i hin) r0 (by omega))
    generalize hx : nod L i = x at *
    have HX:=hidIt hx
    clear rN hx
    obtain ⟨bk,mm,ph,mn,ol,nw,tm,bu,lg,ap⟩:=x
    obtain ⟨e0,e1,e2⟩:=e
    obtain ⟨t0,t1,t2⟩:=m
    obtain ⟨b0,b1,b2⟩:=b
    obtain ⟨g0,g1,g2⟩:=g
    simp only [Nd.nv,Nd.nc,sv] at c0 c1 c2 c3 c4 c5 c6 c7 c8 c9 HC
    go_wp2_with (fail)
    refine HC.out.mono ?_
    rintro en w1 ⟨k,rfl,hq,hb1⟩
    have HB1:=hidIt (on HB.out hb1)
    have HQ:=hidIt hq
    have q1:=hq.le
    clear hb1 HB HC hq c0 c1 c2 c3 c4 c5 c6 c7 c8 c9
    by_cases hneg : k < 0
    ·
     go_wp2_with (fail)
     go_ret
     have z:=HLe.out (-1) (by omega) (fun h=>by omega)
     first | exact ⟨-1,rfl,z,HB1.out⟩ | exact ⟨z,HB1.out⟩
    ·
     go_wp2_with (fail)
     have hsu : k + (m : Int) + (bulkS (L.take (i + 1)) : Int) ≤ l:=by
      have h1:=HQ.out.sum (by omega)
      have h2:=HSu.out
      rw [bulkS_take (by rw [HN.out]; exact hin),HX.out]
      omega
     refine ⟨⟨i + 1,k,by simp,rfl,by omega,by omega,hidIt hsu,hidIt (fun j hj=>?_),by omega,HB1⟩,by simp [intOf]; omega⟩
     by_cases hj2 : j < i
     ·
      exact HL.out j hj2
     ·
      obtain rfl : j = i:=by omega
      rw [HX.out]
      exact HQ.out.sm (by omega)
   ·
    have hin' : ¬ (i : Int) < (m : Int):=by omega
    obtain rfl : i = m:=by omega
    go_wp2_with (fail)
    go_ret
    have z:=HLe.out r (by omega) (fun _=>⟨⟨hn2,HL.out⟩,by have:=HSu.out; rw [← HN.out,List.take_length] at this; rw [HN.out] at this; exact this⟩)
    first | exact ⟨r,rfl,z,HB.out⟩ | exact ⟨z,HB.out⟩
end Go.Proofs.YtgbnkkjjgodilaaGreatDoor.Ns
namespace Go.Proofs.YtgbnkkjjgodilaaGreatDoor.Kc
open Go.ChangeShapes Go.WideShapes Go.ChangeAt Go.RowKit
open Vv (Sl sv hidIt)
open Nd (Nw RdN OwnN ShortN SmallN on)
structure LeK (c : Cw) (q l : Int) : Prop where
 le : q ≤ l
 sm : 0 ≤ q → SmallK c
 sum : 0 ≤ q → c.nodes.length + Ns.bulkS c.nodes + c.clock.length ≤ 2097152
theorem LeK.cost {c : Cw} {q l : Int} (h : LeK c q l) (z : 0 ≤ q) : costK c ≤ 12582912:=by
 have h1:=h.sum z
 have h2:=Ns.cost_bulk c.nodes
 unfold costK
 omega
theorem sz_sum (c : Cw) (n k : Sl) (l : Int) (w : World) (h : RdK w c n k) (hs : ShortK c) (h0 : 0 ≤ l) (h1 : l ≤ 1048576) :
  Calls Tryz.prog 5 #[kv c n k,.int .i64 l] w fun en w'=>∃ q : Int,en = .returned (.int .i64 q) ∧ LeK c q l ∧ Below w.heap.size w w':=by
 obtain ⟨nw,ns,ck⟩:=c
 obtain ⟨n0,n1,n2⟩:=n
 obtain ⟨k0,k1,k2⟩:=k
 obtain ⟨z1,rN,cN,z2,rK,cK⟩:=h
 simp only at z1 rN cN z2 rK cK
 have C1:=hidIt (fun W (r : Ns.Rd W n0 ns)=>Ns.szS_sum n0 n2 ns l W r cN hs h0 h1)
 have C2:=hidIt (fun (l' : Int) (h : 0 ≤ l') (h' : l' ≤ 1048576) W=>Iv.szInt64S_any k0 k2 ck.length l' W cK h h')
 have MK : Hid (∀ q : Int,q ≤ l → (0 ≤ q → (ns.length ≤ 1048576 ∧ (∀ i,i < ns.length → SmallN (Ns.nod ns i)) ∧ ck.length ≤ 1048576) ∧ ns.length + Ns.bulkS ns + ck.length ≤ 2097152) → LeK ⟨nw,ns,ck⟩ q l):=hidIt (fun q a c=>⟨a,fun z=>⟨(c z).1.1,(c z).1.2.1,(c z).1.2.2⟩,fun z=>(c z).2⟩)
 have RN:=hidIt rN
 subst z1 z2
 clear rN rK hs
 generalize hm1 : ns.length = m1 at C1 MK ⊢
 generalize hm2 : ck.length = m2 at C2 MK ⊢
 have HM1:=hidIt hm1
 clear hm1 hm2
 have BX:=hidIt (Bo.Box.new w #[.int .i64 nw,.slice n0 m1 n2,.slice k0 m2 k2] 25)
 have HB:=hidIt ((Below.refl w.heap.size w).alloc (Nat.le_refl _) (.cells #[.int .i64 nw,.slice n0 m1 n2,.slice k0 m2 k2] 25))
 have d1:=BX.out.c 1 (v:=.slice n0 m1 n2) rfl
 simp only [kv,kc,sv]
 go_enter Tryz.func5,Tryz.ntmps5
 go_wp2_with (fail)
 refine (C1.out _ (RN.out.kept HB.out)).mono ?_
 rintro en w1 ⟨q,rfl,hq,k1⟩
 have HQ:=hidIt hq
 have q1:=hq.le
 have HB1:=hidIt (on HB.out k1)
 have BX1:=hidIt (BX.out.kept k1)
 clear k1 hq d1
 by_cases hneg : q < 0
 ·
  go_wp2_with (fail)
  go_ret
  have z:=MK.out (-1) (by omega) (fun h=>by omega)
  first | exact ⟨-1,rfl,z,HB1.out⟩ | exact ⟨z,HB1.out⟩
 have d2:=BX1.out.c 2 (v:=.slice k0 m2 k2) rfl
 go_wp2_with (fail)
 refine (C2.out q (by omega) (by omega) _).mono ?_
 rintro en w2 ⟨r,rfl,r1,r2,r3,ew⟩
 have ew2:=ew.symm
 subst ew2
 have HR3:=hidIt r3
 clear ew r3
 by_cases hneg2 : r < 0
 ·
  go_wp2_with (fail)
  go_ret
  have z:=MK.out (-1) (by omega) (fun h=>by omega)
  first | exact ⟨-1,rfl,z,HB1.out⟩ | exact ⟨z,HB1.out⟩
 ·
  go_wp2_with (fail)
  go_ret
  have s:=HQ.out.sm (by omega)
  have z:=MK.out r (by omega) (fun h=>⟨⟨by rw [← HM1.out]; exact s.1,by rw [← HM1.out]; exact s.2,HR3.out h⟩,by have h1:=HQ.out.sum (by omega); rw [HM1.out] at h1; have h2:=HR3.out h; omega⟩)
  first | exact ⟨r,rfl,z,HB1.out⟩ | exact ⟨z,HB1.out⟩
end Go.Proofs.YtgbnkkjjgodilaaGreatDoor.Kc
namespace Go.Proofs.YtgbnkkjjgodilaaGreatDoor.Rg
open Go.ChangeShapes Go.WideShapes Go.ChangeAt Go.RowKit
def Ty (T : TypeId) (g : Nat) (W : World) : Prop:=∃ cur : Array Value,W.heap[g]? = some (.cells cur T (0,0))
theorem Ty.new (W : World) (c : Array Value) (T : TypeId) : Ty T W.heap.size (W.alloc (.cells c T)):=⟨c,heap_alloc_new W _⟩
theorem Ty.lt {T : TypeId} {g : Nat} {W : World} (h : Ty T g W) : g < W.heap.size:=by
 obtain ⟨c,h⟩:=h
 exact (Array.getElem?_eq_some_iff.1 h).1
theorem Ty.kept {T : TypeId} {g : Nat} {W W' : World} (h : Ty T g W) (k : Below W.heap.size W W') : Ty T g W':=by
 obtain ⟨c,e⟩:=h
 exact ⟨c,(k.block g (Array.getElem?_eq_some_iff.1 e).1).trans e⟩
theorem Ty.grown {T : TypeId} {g : Nat} {W W' : World} {r : Option Nat} (h : Ty T g W) (k : W.grownBy W' r) (hr : r ≠ some g) : Ty T g W':=by
 obtain ⟨c,e⟩:=h
 exact ⟨c,(k.block g (Array.getElem?_eq_some_iff.1 e).1 (Ne.symm hr)).trans e⟩
theorem Ty.self {T : TypeId} {g : Nat} {W : World} (h : Ty T g W) (i : Nat) (v : Value) : Ty T g (W.setCell ⟨g,i,none⟩ v):=by
 obtain ⟨c,e⟩:=h
 refine ⟨c.setIfInBounds i v,?_⟩
 simp [World.setCell,Array.getElem?_modify,e]
theorem Ty.apart {T e : TypeId} {g b s n : Nat} {v : Value} {xs : List Value} {W : World} (h : Ty T g W) (o : W.ownsRow b e s v n xs) (hne : T ≠ e) : v.ownBlock ≠ some g:=by
 intro hv
 obtain ⟨c,eg⟩:=h
 rcases o.2 with ⟨e1,_⟩ | ⟨x,cap,cur,e1,_,hx,_⟩
 ·
  rw [e1] at hv; cases hv
 ·
  rw [e1] at hv
  have : x = g:=Option.some.inj hv
  subst this
  rw [eg] at hx
  have:=Obj.cells.inj (Option.some.inj hx)
  exact hne this.2.1
theorem Ty.row {T e : TypeId} {g b s n : Nat} {v : Value} {xs : List Value} {W W' : World} (h : Ty T g W) (o : W.ownsRow b e s v n xs) (hne : T ≠ e) (k : Only g W W') : W'.ownsRow b e s v n xs :=
 row_only o k (fun x hx e'=>by subst e'; exact h.apart o hne hx)
end Go.Proofs.YtgbnkkjjgodilaaGreatDoor.Rg
namespace Go.Proofs.YtgbnkkjjgodilaaGreatDoor.Ns
open Go.ChangeShapes Go.WideShapes Go.ChangeAt Go.RowKit
open Vv (Sl sv hidIt)
open Nd (Nw RdN OwnN)
open Rg (Ty)
theorem OwnR.box {w w' : World} {lo g : Nat} {r : Nv.Rw} {x : Nw} (h : OwnR w lo r x) (t : Ty 30 g w) (k : Only g w w') : OwnR w' lo r x :=
 ⟨t.row h.e (by decide) k,t.row h.m (by decide) k,t.row h.b (by decide) k,t.row h.g (by decide) k⟩
theorem OwnC.box {w w' : World} {lo hi g : Nat} {v : Value} {C : List Nv.Rw} {L : List Nw} (h : OwnC w lo hi v C L) (t : Ty 30 g w) (k : Only g w w') : OwnC w' lo hi v C L :=
 ⟨h.len,t.row h.row (by decide) k,h.blk,h.fl,fun i hi=>(h.nd i hi).box t k,h.bd,h.dj,Nat.le_trans h.hi' k.size,h.lo'⟩
def Nx (lo : Nat) (x : Nw) (u : Value) (W : World) : Prop:=∃ e m b g : Sl,u = Nd.nv x e m b g ∧ OwnN W lo x e m b g
theorem Nx.kept {lo : Nat} {x : Nw} {u : Value} {W W' : World} (h : Nx lo x u W) (k : Below W.heap.size W W') : Nx lo x u W':=by
 obtain ⟨e,m,b,g,e1,o⟩:=h
 exact ⟨e,m,b,g,e1,o.kept k⟩
def Fx (lo : Nat) (x : Nw) (u : Value) (W : World) : Prop:=∃ e m b g : Sl,Rg.One lo (Nd.nc x e m b g) u W ∧ OwnN W lo x e m b g
end Go.Proofs.YtgbnkkjjgodilaaGreatDoor.Ns
namespace Go.Proofs.YtgbnkkjjgodilaaGreatDoor.Vv
open Go.ChangeShapes Go.WideShapes Go.ChangeAt Go.RowKit
abbrev Rw:=Sl × Sl
abbrev rc (x : Rw) : Array Value:=#[sv x.1,sv x.2]
def rat (L : List Rw) (i : Nat) : Rw:=L.getD i ((none,0,0),(none,0,0))
theorem rat_set {L : List Rw} {i j : Nat} {x : Rw} (h : i < L.length) : rat (L.set i x) j = if i = j then x else rat L j:=by
 unfold rat
 rw [List.getD_eq_getElem?_getD,List.getD_eq_getElem?_getD,List.getElem?_set]
 by_cases e : i = j
 ·
  subst e; simp [h]
 ·
  simp [e]
def rcell (x : Rw) : Nat → Value
 | 0=>sv x.1
 | _=>sv x.2
def rcells : List Rw → List Value
 | []=>[]
 | x :: r=>sv x.1 :: sv x.2 :: rcells r
theorem rcells_cons (x : Rw) (r : List Rw) : rcells (x :: r) = sv x.1 :: sv x.2 :: rcells r:=rfl
theorem rcells_length (L : List Rw) : (rcells L).length = L.length * 2:=by
 induction L with
 | nil=>rfl
 | cons x r ih=>simp only [rcells_cons,List.length_cons,ih]; omega
theorem rcells_append (L M : List Rw) : rcells (L ++ M) = rcells L ++ rcells M:=by
 induction L with
 | nil=>rfl
 | cons x r ih=>rw [List.cons_append,rcells_cons,rcells_cons,ih]; rfl
theorem rcells_one (L : List Rw) : ∀ u ∈ rcells L,u.oneCell' = true:=by
 induction L with
 | nil=>intro u hu; cases hu
 | cons x r ih =>
  intro u hu
  rw [rcells_cons] at hu
  simp only [List.mem_cons] at hu
  rcases hu with rfl | rfl | hu
  ·
   rfl
  ·
   rfl
  ·
   exact ih u hu
theorem rcells_get (L : List Rw) : ∀ i j,i < L.length → j < 2 → (rcells L)[i * 2 + j]? = some (rcell (rat L i) j):=by
 induction L with
 | nil=>intro i j hi; simp at hi
 | cons x r ih =>
  intro i j hi hj
  cases i with
  | zero =>
   match j,hj with
   | 0,_=>rfl
   | 1,_=>rfl
  | succ k =>
   rw [rcells_cons,show (k + 1) * 2 + j = k * 2 + j + 1 + 1 by omega,List.getElem?_cons_succ,List.getElem?_cons_succ,ih k j (by simp at hi; omega) hj]
   rfl
theorem rcells_set (L : List Rw) : ∀ i j (v : Value) (y : Rw),i < L.length → j < 2 → (∀ k,k < 2 → rcell y k = if k = j then v else rcell (rat L i) k) → (rcells L).set (i * 2 + j) v = rcells (L.set i y):=by
 induction L with
 | nil=>intro i j v y hi; simp at hi
 | cons x r ih =>
  intro i j v y hi hj h
  cases i with
  | zero =>
   have e0:=h 0 (by omega)
   have e1:=h 1 (by omega)
   rw [List.set_cons_zero,rcells_cons y r,show (sv y.1 : Value) = rcell y 0 from rfl,show (sv y.2 : Value) = rcell y 1 from rfl,e0,e1]
   match j,hj with
   | 0,_=>rfl
   | 1,_=>rfl
  | succ k =>
   rw [rcells_cons,show (k + 1) * 2 + j = k * 2 + j + 1 + 1 by omega,List.set_cons_succ,List.set_cons_succ,ih k j v y (by simp at hi; omega) hj (fun n hn=>h n hn)]
   rfl
structure Rd (w : World) (a : Option Addr) (L : List Rw) : Prop where
 cell : ∀ i,i < L.length → ∃ b off,a = some ⟨b,off,none⟩ ∧ ∀ j,j < 2 → w.cell? ⟨b,off + (i * 2 + j),none⟩ = some (rcell (rat L i) j)
theorem Rd.all {w : World} {a : Option Addr} {L : List Rw} (h : Rd w a L) {i : Nat} (hi : i < L.length) : ∃ b off,a = some ⟨b,off,none⟩ ∧ w.cell? ⟨b,off + i * 2,none⟩ = some (sv (rat L i).1) ∧ w.cell? ⟨b,off + i * 2 + 1,none⟩ = some (sv (rat L i).2):=by
 obtain ⟨b,off,e,c⟩:=h.cell i hi
 exact ⟨b,off,e,c 0 (by omega),by rw [Nat.add_assoc]; exact c 1 (by omega)⟩
theorem cell_block {w : World} {b o : Nat} {v : Value} (h : w.cell? ⟨b,o,none⟩ = some v) : b < w.heap.size:=World.block_lt_of_cell? w ⟨b,o,none⟩ h
theorem Rd.kept {w w' : World} {a : Option Addr} {L : List Rw} (h : Rd w a L) (k : Below w.heap.size w w') : Rd w' a L :=
 ⟨fun i hi=>by
  obtain ⟨b,off,e,c⟩:=h.cell i hi
  exact ⟨b,off,e,fun j hj=>by rw [k.cell (by simpa using cell_block (c j hj))]; exact c j hj⟩⟩
def Own (w : World) (base : Nat) (v : Value) (L : List Rw) : Prop:=w.ownsRow base 43 2 v L.length (rcells L)
theorem Own.form {w : World} {base : Nat} {v : Value} {L : List Rw} (h : Own w base v L) : ∃ a cap,v = .slice a L.length cap ∧ L.length ≤ cap ∧ cap ≤ maxLen ∧ Rd w a L ∧ (a = none → cap = 0) ∧ (∀ x,a = some x → ∃ g,x = ⟨g,0,none⟩ ∧ base ≤ g ∧ g < w.heap.size):=by
 have h':=h
 rcases h.2 with ⟨rfl,h0⟩ | ⟨g,cap,cur,rfl,hb,hg,hn,hm,rest⟩
 ·
  exact ⟨none,0,by rw [h0],by omega,by decide,⟨fun i hi=>by omega⟩,fun _=>rfl,fun x hx=>by cases hx⟩
 ·
  refine ⟨some ⟨g,0,none⟩,cap,rfl,hn,hm,⟨fun i hi=>⟨g,0,rfl,fun j hj=>?_⟩⟩,(fun e=>by cases e),fun x hx=>⟨g,by cases hx; rfl,hb,(Array.getElem?_eq_some_iff.1 hg).1⟩⟩
  rw [Nat.zero_add,World.ownsRow.cellAt h' _ (by omega),rcells_get _ _ _ hi hj]
theorem Own.kept {w w' : World} {base : Nat} {v : Value} {L : List Rw} (h : Own w base v L) (k : Below w.heap.size w w') : Own w' base v L :=
 World.ownsRow.kept (row:=none) h ⟨k.os,k.tape,k.output,k.size,fun i hi _=>k.block i hi⟩ (by cases v.ownBlock <;> simp)
theorem Own.alloc {w : World} {base : Nat} {v : Value} {L : List Rw} (h : Own w base v L) (o : Obj) : Own (w.alloc o) base v L:=World.ownsRow.alloc h o
theorem Own.mono {w : World} {base b' : Nat} {v : Value} {L : List Rw} (h : Own w base v L) (hb : b' ≤ base) : Own w b' v L:=by
 refine ⟨h.1,?_⟩
 rcases h.2 with h0 | ⟨g,cap,cur,e,hb',r⟩
 ·
  exact .inl h0
 ·
  exact .inr ⟨g,cap,cur,e,by omega,r⟩
theorem Own.new (w : World) : Own (w.alloc (.cells #[] 43)) w.heap.size (.slice (some ⟨w.heap.size,0,none⟩) 0 0) [] :=
 World.ownsRow_made w #[] 0 (Nat.le_refl _) (by decide) rfl
theorem Own.one (w : World) (x : Rw) {k : Nat} (h : w.heap.size = k) : Own (w.alloc (.cells (rc x) 43)) k (.slice (some ⟨k,0,none⟩) 1 1) [x]:=by
 subst h
 exact ⟨rfl,.inr ⟨w.heap.size,1,_,rfl,Nat.le_refl _,heap_alloc_new w _,Nat.le_refl _,by decide,rfl,rfl⟩⟩
theorem Own.more {w : World} {base : Nat} {v : Value} {L M : List Rw} (h : w.ownsRow base 43 2 v (L.length + M.length) (rcells L ++ rcells M)) : Own w base v (L ++ M):=by
 unfold Own
 rw [List.length_append,rcells_append]
 exact h
theorem Own.free {w : World} {base g m cap : Nat} {L : List Rw} (h : Own w base (.slice (some ⟨g,0,none⟩) m cap) L) (j : Nat) : w.frozen? ⟨g,j,none⟩ = false:=by
 obtain ⟨a,c',e,_⟩:=h.form
 cases e
 exact World.ownsRow.frozenAt h j
theorem Own.at {w : World} {base g m cap i j : Nat} {L : List Rw} (h : Own w base (.slice (some ⟨g,0,none⟩) m cap) L) (hi : i < L.length) (hj : j < 2) : w.cell? ⟨g,i * 2 + j,none⟩ = some (rcell (rat L i) j):=by
 obtain ⟨a',c',e1,_,_,r,_⟩:=h.form
 cases e1
 obtain ⟨b',o',e2,k⟩:=r.cell i hi
 cases e2
 simpa using k j hj
theorem Own.set {w : World} {base g m cap i j : Nat} {L : List Rw} {v : Value} {y : Rw} (h : Own w base (.slice (some ⟨g,0,none⟩) m cap) L) (hi : i < L.length) (hj : j < 2) (hy : ∀ k,k < 2 → rcell y k = if k = j then v else rcell (rat L i) k) :
  Own (w.setCell ⟨g,i * 2 + j,none⟩ v) base (.slice (some ⟨g,0,none⟩) m cap) (L.set i y):=by
 obtain ⟨a,c',e,_⟩:=h.form
 cases e
 have:=(World.ownsRow.stored h (i * 2 + j) v).1
 rw [rcells_set L i j v y hi hj hy] at this
 unfold Own
 rw [List.length_set]
 exact this
theorem grown_below {w w' : World} {base Bb : Nat} {v : Value} {L : List Rw} (h : Own w base v L) (g : w.grownBy w' v.ownBlock) (hB : Bb ≤ base) (hs : Bb ≤ w.heap.size) : Below Bb w w' :=
 ⟨g.os,g.tape,g.output,g.size,fun k hk=>g.block k (by omega) (fun e=>by have:=(World.ownsRow.lt h k e.symm).1; omega)⟩
theorem Own.whole {w : World} {base g m cap i : Nat} {L : List Rw} (h : Own w base (.slice (some ⟨g,0,none⟩) m cap) L) (hi : i < L.length) (y : Rw) :
  Own (((w.setCell ⟨g,i * 2,none⟩ (sv y.1)).setCell ⟨g,i * 2 + 1,none⟩ (sv y.2))) base (.slice (some ⟨g,0,none⟩) m cap) (L.set i y):=by
 obtain ⟨y0,y1⟩:=y
 have h1:=h.set (i:=i) (j:=0) (v:=sv y0) (y:=(y0,(rat L i).2)) hi (by omega) (fun k hk=>by
  match k,hk with
  | 0,_=>rfl
  | 1,_=>rfl)
 have h2:=h1.set (i:=i) (j:=1) (v:=sv y1) (y:=(y0,y1)) (by rw [List.length_set]; exact hi) (by omega) (fun k hk=>by
  rw [rat_set hi,if_pos rfl]
  match k,hk with
  | 0,_=>rfl
  | 1,_=>rfl)
 rw [List.set_set] at h2
 exact h2
theorem infoRw : (Tryz.prog.info? 43).map (fun i=>(i.zero,i.size,i.bytes)) = some (some (.agg #[sv (none,0,0),sv (none,0,0)]),2,48):=by kernel_rfl
theorem Own.some_form {w : World} {base : Nat} {v : Value} {M : List Rw} (h : Own w base v M) (hv : v ≠ .slice none 0 0) : ∃ g cap,v = .slice (some ⟨g,0,none⟩) M.length cap ∧ M.length ≤ cap ∧ cap ≤ 9223372036854775807 ∧ base ≤ g ∧ g < w.heap.size:=by
 obtain ⟨a,cap,rfl,hc,hm,hR,hna,hs⟩:=h.form
 cases a with
 | none =>
  have e:=hna rfl
  subst e
  have : M.length = 0:=by omega
  rw [this] at hv
  exact absurd rfl hv
 | some x =>
  obtain ⟨g,rfl,h1,h2⟩:=hs x rfl
  exact ⟨g,cap,rfl,hc,hm,h1,h2⟩
theorem Rd.cells {w : World} {b off : Nat} {L : List Rw} (h : Rd w (some ⟨b,off,none⟩) L) : ∀ j u,(rcells L)[j]? = some u → w.cell? ((⟨b,off,none⟩ : Addr).add j) = some u:=by
 intro j u hj
 have hlt : j < L.length * 2:=by rw [← rcells_length]; exact (List.getElem?_eq_some_iff.1 hj).1
 obtain ⟨b',o',e,c⟩:=h.cell (j / 2) (by omega)
 cases e
 have hc:=c (j % 2) (by omega)
 have hg:=rcells_get L (j / 2) (j % 2) (by omega) (by omega)
 rw [show j / 2 * 2 + j % 2 = j by omega] at hc hg
 rw [hg] at hj
 rw [Go.WideShapes.add_plain,hc]
 exact hj
theorem step_append {ops : Array Oper} {o : Oper} {a : Act} {w : World} {K : Act → World → Prop} {Q : Exit → Act → World → Prop} {E : Prop}
  (hg : o.guard = none) (s x : Operand) (hop : o.op = Op.call { callee:=Callee.builtin Builtin.append,args:=#[s,x],argTypes:=#[51,51] })
  (base : Nat) (v : Value) (M N : List Rw) (hs : a.eval s = v) (hown : Own w base v M) (ad : Addr) (m c : Nat) (hm : N.length = m) (hx : a.eval x = .slice (some ad) m c) (hc : ∀ j u,(rcells N)[j]? = some u → w.cell? (ad.add j) = some u)
  (hl : M.length + m ≤ 1000) (hb : base ≤ w.heap.size)
  (hK : ∀ v' w',Own w' base v' (M ++ N) → w.grownBy w' v.ownBlock → (v' = .slice none 0 0 ↔ v = .slice none 0 0 ∧ m = 0) → K (a.put o.dst v') w') :
  if Region.wanted o (yielded ops a.tmps) = true then Oper.wp Tryz.prog o a w K Q else E:=by
 have hw : Region.wanted o (yielded ops a.tmps) = true:=by simp [Region.wanted,hg]
 obtain ⟨i0,hi0,hz0,hz1,hz2⟩:=info_parts infoRw
 rw [if_pos hw]
 obtain ⟨v',w',hrun,r1,r2,r3⟩:=run_append_own (P:=Tryz.prog) w base 51 o.type 43 i0 (.agg #[sv (none,0,0),sv (none,0,0)]) 2 48 Tryz.underlying51 hi0 hz0 hz1 hz2 rfl (by decide) v M.length (rcells M) hown ad m c (rcells N) (by rw [rcells_length,hm]) hc (rcells_one _) (by unfold maxLen; omega) (by omega) hb
 unfold Oper.wp
 simp [execOp,hop,resolve,invoke,builtin,hs,hx,hrun,Result.andThen]
 exact hK v' w' (Own.more (by rw [hm]; exact r1)) r2 r3
theorem fresh (w : World) (x : Rw) (T : TypeId) : ∀ j u,(rcells [x])[j]? = some u → (w.alloc (.cells (rc x) T)).cell? ((⟨w.heap.size,0,none⟩ : Addr).add j) = some u:=by
 intro j u hj
 match j,hj with
 | 0,hj=>simp [rcells] at hj; subst hj; simp [Addr.add]
 | 1,hj=>simp [rcells] at hj; subst hj; simp [Addr.add]
 | j + 2,hj=>simp [rcells] at hj
end Go.Proofs.YtgbnkkjjgodilaaGreatDoor.Vv
