/- The program's next: the first of the first rest, and what is left. -/
import Derived.Test.YtgbnkkjjgodilaaGreatDoorBun8
import Derived.Deep.LoopGhost
import Derived.Test.YtgbnkkjjgodilaaGreatDoorMem
import Derived.Test.YtgbnkkjjgodilaaGreatDoorProg
import Derived.OpenShut
import Derived.Laws.OwnMore
import Derived.Deep.OwnRows
import Derived.OwnWalk
import Derived.Laws.AppendOwn
import Derived.Lib.SmallJoins
set_option maxRecDepth 100000
set_option maxHeartbeats 32000000
set_option linter.unusedVariables false
namespace Go.Proofs.YtgbnkkjjgodilaaGreatDoor.En
open Go.ChangeShapes Go.WideShapes Go.ChangeAt Go.RowKit
open Bk (Bytes okE newB okBk Ris IsJoin joinB lessE)
abbrev zE : Array Value:=#[.string ⟨#[]⟩,.string ⟨#[]⟩,.int .i64 0,.int .i64 0,.bool false]
theorem last_put {w0 w : World} {b g cap n d : Nat} {v0 v1 : Value} (x : Rw) (h : Hp w b g cap n v0 v1) (f : Fr b g w0 w) (hx : Bo.Box w d zE) (hd : w0.heap.size ≤ d) (hb : d ≠ b) (hg : d ≠ g) :
  Hp (((((w.setCell ⟨d,0,none⟩ (.string x.1)).setCell ⟨d,1,none⟩ (.string x.2.1)).setCell ⟨d,2,none⟩ (.int .i64 x.2.2.1)).setCell ⟨d,3,none⟩ (.int .i64 x.2.2.2.1)).setCell ⟨d,4,none⟩ (.bool x.2.2.2.2)) b g cap n v0 v1 ∧
  Fr b g w0 (((((w.setCell ⟨d,0,none⟩ (.string x.1)).setCell ⟨d,1,none⟩ (.string x.2.1)).setCell ⟨d,2,none⟩ (.int .i64 x.2.2.1)).setCell ⟨d,3,none⟩ (.int .i64 x.2.2.2.1)).setCell ⟨d,4,none⟩ (.bool x.2.2.2.2)) ∧
  Bo.Box (((((w.setCell ⟨d,0,none⟩ (.string x.1)).setCell ⟨d,1,none⟩ (.string x.2.1)).setCell ⟨d,2,none⟩ (.int .i64 x.2.2.1)).setCell ⟨d,3,none⟩ (.int .i64 x.2.2.2.1)).setCell ⟨d,4,none⟩ (.bool x.2.2.2.2)) d (rc x) :=
 ⟨((((h.other hb hg 0 _).other hb hg 1 _).other hb hg 2 _).other hb hg 3 _).other hb hg 4 _,
 ((((f.setNew hd 0 _).setNew hd 1 _).setNew hd 2 _).setNew hd 3 _).setNew hd 4 _,
 ((((hx.put 0 _ (by decide) rfl).put 1 _ (by simp) rfl).put 2 _ (by simp) rfl).put 3 _ (by simp) rfl).put 4 _ (by simp) rfl⟩
theorem last_two {w0 w : World} {b g cap d : Nat} {r : Bool} {v0 v1 : Value} (x : Rw) (h : Two w b g cap r v0 v1) (f : Fr b g w0 w) (hx : Bo.Box w d zE) (hd : w0.heap.size ≤ d) (hb : d ≠ b) (hg : d ≠ g) :
  Two (((((w.setCell ⟨d,0,none⟩ (.string x.1)).setCell ⟨d,1,none⟩ (.string x.2.1)).setCell ⟨d,2,none⟩ (.int .i64 x.2.2.1)).setCell ⟨d,3,none⟩ (.int .i64 x.2.2.2.1)).setCell ⟨d,4,none⟩ (.bool x.2.2.2.2)) b g cap r v0 v1 ∧
  Fr b g w0 (((((w.setCell ⟨d,0,none⟩ (.string x.1)).setCell ⟨d,1,none⟩ (.string x.2.1)).setCell ⟨d,2,none⟩ (.int .i64 x.2.2.1)).setCell ⟨d,3,none⟩ (.int .i64 x.2.2.2.1)).setCell ⟨d,4,none⟩ (.bool x.2.2.2.2)) ∧
  Bo.Box (((((w.setCell ⟨d,0,none⟩ (.string x.1)).setCell ⟨d,1,none⟩ (.string x.2.1)).setCell ⟨d,2,none⟩ (.int .i64 x.2.2.1)).setCell ⟨d,3,none⟩ (.int .i64 x.2.2.2.1)).setCell ⟨d,4,none⟩ (.bool x.2.2.2.2)) d (rc x):=by
 cases r with
 | false=>have:=last_put x (h.no rfl) f hx hd hb hg; exact ⟨⟨fun _=>this.1,fun e=>by cases e⟩,this.2⟩
 | true=>have:=last_put x (h.yes rfl) f hx hd hb hg; exact ⟨⟨fun e=>(by cases e),fun _=>this.1⟩,this.2⟩
theorem next_1last {w : World} {b g cap p0 o0 k0 : Nat} {v1 : Value} {x : Rw} (h : Hp w b g cap 1 (sv p0 o0 1 k0) (v1)) (hc : cap ≤ maxLen) (h0 : Rd w (some ⟨p0,o0,none⟩) ([x])) (q0 : p0 ≠ b ∧ p0 ≠ g) :
  Calls Tryz.prog 135 #[.pointer (some ⟨b,0,none⟩)] w fun e w'=>e = .returned (rv x) ∧ (∃ u0 u1,Hp w' b g cap 0 u0 u1) ∧ Fr b g w w':=by
 have HA:=hidIt ((Below.refl w.heap.size w).alloc (Nat.le_refl _) (.cells zE 98))
 have HP:=hidIt (h.kept HA.out)
 have BX:=hidIt (Bo.Box.new w zE 98)
 have hbs : w.heap.size ≠ b:=by have:=h.bl; omega
 have hgs : w.heap.size ≠ g:=by have:=h.gl; omega
 have me:=HP.out.me
 have r0:=HP.out.c0 (by omega)
 have f0:=HP.out.rf 0
 have R0:=hidIt (fun W (k : Fr b g (w.alloc (.cells zE 98)) W)=>cells_one ((h0.kept HA.out).fr k q0.1 q0.2) (by simp))
 have HFA:=hidIt (Fr.of_below (b:=b) (g:=g) HA.out)
 have CP:=hidIt (heap_Pop1 HP.out hc)
 clear h h0
 simp only [show rat [x] 0 = x from rfl] at R0
 go_enter Tryz.func135,Tryz.ntmps135
 go_wp2_with (fail)
 refine CP.out.mono ?_
 rintro e w1 ⟨⟨v,rfl⟩,h1,f1⟩
 obtain ⟨c0,c1,c2,c3,c4⟩:=R0.out _ f1
 have BX1:=hidIt (box_fr BX.out f1 hbs hgs)
 have d0:=BX1.out.c 0 rfl
 have d1:=BX1.out.c 1 rfl
 have d2:=BX1.out.c 2 rfl
 have d3:=BX1.out.c 3 rfl
 have d4:=BX1.out.c 4 rfl
 have fz:=BX1.out.fr
 have HL:=hidIt (last_put (w0:=w) x h1 (HFA.out.trans f1) BX1.out (Nat.le_refl _) hbs hgs)
 clear h1 f1
 obtain ⟨xk,xv,xt,xn,xg⟩:=x
 simp only at c0 c1 c2 c3 c4 HL
 go_wp2_with (fail)
 generalize (((((w1.setCell ⟨w.heap.size,0,none⟩ (.string xk)).setCell ⟨w.heap.size,1,none⟩ (.string xv)).setCell ⟨w.heap.size,2,none⟩ (.int .i64 xt)).setCell ⟨w.heap.size,3,none⟩ (.int .i64 xn)).setCell ⟨w.heap.size,4,none⟩ (.bool xg)) = w9 at HL ⊢
 have BX9:=HL.out.2.2
 have t0:=BX9.c 0 rfl
 have t1:=BX9.c 1 rfl
 have t2:=BX9.c 2 rfl
 have t3:=BX9.c 3 rfl
 have t4:=BX9.c 4 rfl
 refine bodyPost_ret (v:=.agg #[.string xk,.string xv,.int .i64 xt,.int .i64 xn,.bool xg]) (by simp [results,Tryz.results135,go_sem,t0,t1,t2,t3,t4]) rfl ⟨rfl,⟨_,_,HL.out.1⟩,HL.out.2.1⟩
theorem next_2last {w : World} {b g cap p0 o0 k0 p1 o1 n1 k1 : Nat} {x : Rw} (h : Hp w b g cap 2 (sv p0 o0 1 k0) (sv p1 o1 n1 k1)) (hc : cap ≤ maxLen) (h0 : Rd w (some ⟨p0,o0,none⟩) ([x])) (q0 : p0 ≠ b ∧ p0 ≠ g) :
  Calls Tryz.prog 135 #[.pointer (some ⟨b,0,none⟩)] w fun e w'=>e = .returned (rv x) ∧ (∃ u1,Hp w' b g cap 1 (sv p1 o1 n1 k1) u1) ∧ Fr b g w w':=by
 have HA:=hidIt ((Below.refl w.heap.size w).alloc (Nat.le_refl _) (.cells zE 98))
 have HP:=hidIt (h.kept HA.out)
 have BX:=hidIt (Bo.Box.new w zE 98)
 have hbs : w.heap.size ≠ b:=by have:=h.bl; omega
 have hgs : w.heap.size ≠ g:=by have:=h.gl; omega
 have me:=HP.out.me
 have r0:=HP.out.c0 (by omega)
 have f0:=HP.out.rf 0
 have R0:=hidIt (fun W (k : Fr b g (w.alloc (.cells zE 98)) W)=>cells_one ((h0.kept HA.out).fr k q0.1 q0.2) (by simp))
 have HFA:=hidIt (Fr.of_below (b:=b) (g:=g) HA.out)
 have CP:=hidIt (heap_Pop2 HP.out hc)
 clear h h0
 simp only [show rat [x] 0 = x from rfl] at R0
 go_enter Tryz.func135,Tryz.ntmps135
 go_wp2_with (fail)
 refine CP.out.mono ?_
 rintro e w1 ⟨⟨v,rfl⟩,h1,f1⟩
 obtain ⟨c0,c1,c2,c3,c4⟩:=R0.out _ f1
 have BX1:=hidIt (box_fr BX.out f1 hbs hgs)
 have d0:=BX1.out.c 0 rfl
 have d1:=BX1.out.c 1 rfl
 have d2:=BX1.out.c 2 rfl
 have d3:=BX1.out.c 3 rfl
 have d4:=BX1.out.c 4 rfl
 have fz:=BX1.out.fr
 have HL:=hidIt (last_put (w0:=w) x h1 (HFA.out.trans f1) BX1.out (Nat.le_refl _) hbs hgs)
 clear h1 f1
 obtain ⟨xk,xv,xt,xn,xg⟩:=x
 simp only at c0 c1 c2 c3 c4 HL
 go_wp2_with (fail)
 generalize (((((w1.setCell ⟨w.heap.size,0,none⟩ (.string xk)).setCell ⟨w.heap.size,1,none⟩ (.string xv)).setCell ⟨w.heap.size,2,none⟩ (.int .i64 xt)).setCell ⟨w.heap.size,3,none⟩ (.int .i64 xn)).setCell ⟨w.heap.size,4,none⟩ (.bool xg)) = w9 at HL ⊢
 have BX9:=HL.out.2.2
 have t0:=BX9.c 0 rfl
 have t1:=BX9.c 1 rfl
 have t2:=BX9.c 2 rfl
 have t3:=BX9.c 3 rfl
 have t4:=BX9.c 4 rfl
 refine bodyPost_ret (v:=.agg #[.string xk,.string xv,.int .i64 xt,.int .i64 xn,.bool xg]) (by simp [results,Tryz.results135,go_sem,t0,t1,t2,t3,t4]) rfl ⟨rfl,⟨_,HL.out.1⟩,HL.out.2.1⟩
theorem next_1more {w : World} {b g cap p0 o0 k0 m : Nat} {v1 : Value} {x y : Rw} {L : List Rw} (h : Hp w b g cap 1 (sv p0 o0 (m + 2) k0) (v1)) (hc : cap ≤ maxLen) (h0 : Rd w (some ⟨p0,o0,none⟩) (x :: y :: L)) (q0 : p0 ≠ b ∧ p0 ≠ g) (hm : L.length = m) (hk : m + 2 ≤ k0) :
  Calls Tryz.prog 135 #[.pointer (some ⟨b,0,none⟩)] w fun e w'=>e = .returned (rv x) ∧ (∃ u1,Hp w' b g cap 1 (sv p0 (o0 + 5) (m + 1) (k0 - 1)) u1) ∧ Fr b g w w':=by
 have HA:=hidIt ((Below.refl w.heap.size w).alloc (Nat.le_refl _) (.cells zE 98))
 have HP:=hidIt (h.kept HA.out)
 have BX:=hidIt (Bo.Box.new w zE 98)
 have hbs : w.heap.size ≠ b:=by have:=h.bl; omega
 have hgs : w.heap.size ≠ g:=by have:=h.gl; omega
 have me:=HP.out.me
 have r0:=HP.out.c0 (by omega)
 have f0:=HP.out.rf 0
 have R0:=hidIt (fun W (k : Fr b g (w.alloc (.cells zE 98)) W)=>cells_one ((h0.kept HA.out).fr k q0.1 q0.2) (by simp))
 have HFA:=hidIt (Fr.of_below (b:=b) (g:=g) HA.out)
 have HS:=hidIt ((HP.out.put0 (by omega) (sv p0 (o0 + 5) (m + 1) (k0 - 1))).drew)
 have HFS:=hidIt (((Fr.refl b g (w.alloc (.cells zE 98))).setG 0 (sv p0 (o0 + 5) (m + 1) (k0 - 1))).drew)
 have CF:=hidIt (heap_Fix1 HS.out)
 clear h h0
 simp only [show rat (x :: y :: L) 0 = x from rfl] at R0
 have hk1 : (1 : Int) ≤ ((m + 2 : Nat) : Int):=by omega
 have hk2 : ((m + 2 : Nat) : Int) ≤ (k0 : Int):=by omega
 have hk3 : ¬ ((m + 2 : Nat) : Int) = 1:=by omega
 have hk4 : ((m + 2 : Nat) == 1) = false:=by simp
 clear hm q0
 go_enter Tryz.func135,Tryz.ntmps135
 go_wp2_with (fail)
 go_big_region
 go_wp2_with (fail)
 refine CF.out.mono ?_
 rintro e w1 ⟨rfl,ew⟩
 have h1:=HS.out
 have f2:=HFS.out
 rw [← ew] at h1 f2
 clear ew HS HFS CF
 obtain ⟨c0,c1,c2,c3,c4⟩:=R0.out _ f2
 have BX1:=hidIt (box_fr BX.out f2 hbs hgs)
 have d0:=BX1.out.c 0 rfl
 have d1:=BX1.out.c 1 rfl
 have d2:=BX1.out.c 2 rfl
 have d3:=BX1.out.c 3 rfl
 have d4:=BX1.out.c 4 rfl
 have fz:=BX1.out.fr
 have HL:=hidIt (last_put (w0:=w) x h1 (HFA.out.trans f2) BX1.out (Nat.le_refl _) hbs hgs)
 clear h1 f2
 obtain ⟨xk,xv,xt,xn,xg⟩:=x
 simp only at c0 c1 c2 c3 c4 HL
 go_wp2_with (fail)
 generalize (((((w1.setCell ⟨w.heap.size,0,none⟩ (.string xk)).setCell ⟨w.heap.size,1,none⟩ (.string xv)).setCell ⟨w.heap.size,2,none⟩ (.int .i64 xt)).setCell ⟨w.heap.size,3,none⟩ (.int .i64 xn)).setCell ⟨w.heap.size,4,none⟩ (.bool xg)) = w9 at HL ⊢
 have BX9:=HL.out.2.2
 have t0:=BX9.c 0 rfl
 have t1:=BX9.c 1 rfl
 have t2:=BX9.c 2 rfl
 have t3:=BX9.c 3 rfl
 have t4:=BX9.c 4 rfl
 refine bodyPost_ret (v:=.agg #[.string xk,.string xv,.int .i64 xt,.int .i64 xn,.bool xg]) (by simp [results,Tryz.results135,go_sem,t0,t1,t2,t3,t4]) rfl ⟨rfl,⟨_,HL.out.1⟩,HL.out.2.1⟩
theorem next_2more {w : World} {b g cap p0 o0 k0 m p1 o1 n1 k1 : Nat} {x y : Rw} {L L1 : List Rw} (h : Hp w b g cap 2 (sv p0 o0 (m + 2) k0) (sv p1 o1 n1 k1)) (hc : cap ≤ maxLen) (h0 : Rd w (some ⟨p0,o0,none⟩) (x :: y :: L)) (q0 : p0 ≠ b ∧ p0 ≠ g) (hm : L.length = m) (hk : m + 2 ≤ k0) (h1 : Rd w (some ⟨p1,o1,none⟩) L1) (e1 : L1.length = n1) (z1 : 0 < n1) (q1 : p1 ≠ b ∧ p1 ≠ g) :
  Calls Tryz.prog 135 #[.pointer (some ⟨b,0,none⟩)] w fun e w'=>e = .returned (rv x) ∧ Two w' b g cap (lessE (toE (rat L1 0)) (toE y)) (sv p0 (o0 + 5) (m + 1) (k0 - 1)) (sv p1 o1 n1 k1) ∧ Fr b g w w':=by
 have HA:=hidIt ((Below.refl w.heap.size w).alloc (Nat.le_refl _) (.cells zE 98))
 have HP:=hidIt (h.kept HA.out)
 have BX:=hidIt (Bo.Box.new w zE 98)
 have hbs : w.heap.size ≠ b:=by have:=h.bl; omega
 have hgs : w.heap.size ≠ g:=by have:=h.gl; omega
 have me:=HP.out.me
 have r0:=HP.out.c0 (by omega)
 have f0:=HP.out.rf 0
 have R0:=hidIt (fun W (k : Fr b g (w.alloc (.cells zE 98)) W)=>cells_one ((h0.kept HA.out).fr k q0.1 q0.2) (by simp))
 have HFA:=hidIt (Fr.of_below (b:=b) (g:=g) HA.out)
 have HS:=hidIt ((HP.out.put0 (by omega) (sv p0 (o0 + 5) (m + 1) (k0 - 1))).drew)
 have HFS:=hidIt (((Fr.refl b g (w.alloc (.cells zE 98))).setG 0 (sv p0 (o0 + 5) (m + 1) (k0 - 1))).drew)
 have CF:=hidIt (heap_Fix2 (L0:=y :: L) (L1:=L1) HS.out (((h0.kept HA.out).tail).fr HFS.out q0.1 q0.2) ((h1.kept HA.out).fr HFS.out q1.1 q1.2) (by simp [hm]) e1 (by omega) z1)
 clear h h0 h1 e1 z1 q1
 simp only [show rat (y :: L) 0 = y from rfl] at CF
 generalize lessE (toE (rat L1 0)) (toE y) = r at CF ⊢
 simp only [show rat (x :: y :: L) 0 = x from rfl] at R0
 have hk1 : (1 : Int) ≤ ((m + 2 : Nat) : Int):=by omega
 have hk2 : ((m + 2 : Nat) : Int) ≤ (k0 : Int):=by omega
 have hk3 : ¬ ((m + 2 : Nat) : Int) = 1:=by omega
 have hk4 : ((m + 2 : Nat) == 1) = false:=by simp
 clear hm q0
 go_enter Tryz.func135,Tryz.ntmps135
 go_wp2_with (fail)
 go_big_region
 go_wp2_with (fail)
 refine CF.out.mono ?_
 rintro e w1 ⟨rfl,h1,f1⟩
 have f2:=HFS.out.trans f1
 obtain ⟨c0,c1,c2,c3,c4⟩:=R0.out _ f2
 have BX1:=hidIt (box_fr BX.out f2 hbs hgs)
 have d0:=BX1.out.c 0 rfl
 have d1:=BX1.out.c 1 rfl
 have d2:=BX1.out.c 2 rfl
 have d3:=BX1.out.c 3 rfl
 have d4:=BX1.out.c 4 rfl
 have fz:=BX1.out.fr
 have HL:=hidIt (last_two (w0:=w) x h1 (HFA.out.trans f2) BX1.out (Nat.le_refl _) hbs hgs)
 clear h1 f1 f2
 obtain ⟨xk,xv,xt,xn,xg⟩:=x
 simp only at c0 c1 c2 c3 c4 HL
 go_wp2_with (fail)
 generalize (((((w1.setCell ⟨w.heap.size,0,none⟩ (.string xk)).setCell ⟨w.heap.size,1,none⟩ (.string xv)).setCell ⟨w.heap.size,2,none⟩ (.int .i64 xt)).setCell ⟨w.heap.size,3,none⟩ (.int .i64 xn)).setCell ⟨w.heap.size,4,none⟩ (.bool xg)) = w9 at HL ⊢
 have BX9:=HL.out.2.2
 have t0:=BX9.c 0 rfl
 have t1:=BX9.c 1 rfl
 have t2:=BX9.c 2 rfl
 have t3:=BX9.c 3 rfl
 have t4:=BX9.c 4 rfl
 refine bodyPost_ret (v:=.agg #[.string xk,.string xv,.int .i64 xt,.int .i64 xn,.bool xg]) (by simp [results,Tryz.results135,go_sem,t0,t1,t2,t3,t4]) rfl ⟨rfl,HL.out.1,HL.out.2.1⟩
end Go.Proofs.YtgbnkkjjgodilaaGreatDoor.En
namespace Go.Proofs.YtgbnkkjjgodilaaGreatDoor.En
open Go.ChangeShapes Go.WideShapes Go.ChangeAt Go.RowKit
open Bk (Bytes okE newB okBk Ris IsJoin joinB lessE Mg putE)
structure El (w : World) (base p o k : Nat) (X : List Rw) : Prop where
 rd : Rd w (some ⟨p,o,none⟩) X
 lt : p < base
 pos : 0 < X.length
 cap : X.length ≤ k
theorem El.fr {w w' : World} {base p o k b g : Nat} {X : List Rw} (h : El w base p o k X) (f : Fr b g w w') (hb : base ≤ b) (hg : base ≤ g) : El w' base p o k X :=
 ⟨h.rd.fr f (by have:=h.lt; omega) (by have:=h.lt; omega),h.lt,h.pos,h.cap⟩
theorem El.low {w w' : World} {base p o k : Nat} {X : List Rw} (h : El w base p o k X) (f : Below base w w') : El w' base p o k X :=
 ⟨h.rd.kept' f h.lt,h.lt,h.pos,h.cap⟩
structure Sta.Rules (w : World) (base b g : Nat) (C : List Rw → List Rw → Prop) : Prop where
  zero : ∀ (a : Option Addr) (cap : Nat), w.cell? ⟨b, 0, none⟩ = some (.slice a 0 cap) → C [] []
  one : ∀ (cap p o k : Nat) (X : List Rw) (u : Value), Hp w b g cap 1 (sv p o X.length k) u → cap ≤ maxLen → El w base p o k X → C X []
  two : ∀ (cap p0 o0 k0 p1 o1 k1 : Nat) (X Y : List Rw), Hp w b g cap 2 (sv p0 o0 X.length k0) (sv p1 o1 Y.length k1) → cap ≤ maxLen → El w base p0 o0 k0 X → El w base p1 o1 k1 Y → lessE (toE (rat Y 0)) (toE (rat X 0)) = false → C X Y
/-- The rests at block b hold X on top and Y. -/
def Sta (w : World) (base b g : Nat) (X : List Rw) (Y : List Rw) : Prop := ∀ C, Sta.Rules w base b g C → C X Y
theorem Sta.zero {w : World} {base b g : Nat} (a : Option Addr) (cap : Nat) (h0 : w.cell? ⟨b, 0, none⟩ = some (.slice a 0 cap)) : Sta w base b g [] [] := fun _ r => r.zero a cap h0
theorem Sta.one {w : World} {base b g : Nat} (cap p o k : Nat) (X : List Rw) (u : Value) (h0 : Hp w b g cap 1 (sv p o X.length k) u) (h1 : cap ≤ maxLen) (h2 : El w base p o k X) : Sta w base b g X [] := fun _ r => r.one cap p o k X u h0 h1 h2
theorem Sta.two {w : World} {base b g : Nat} (cap p0 o0 k0 p1 o1 k1 : Nat) (X Y : List Rw) (h0 : Hp w b g cap 2 (sv p0 o0 X.length k0) (sv p1 o1 Y.length k1)) (h1 : cap ≤ maxLen) (h2 : El w base p0 o0 k0 X) (h3 : El w base p1 o1 k1 Y) (h4 : lessE (toE (rat Y 0)) (toE (rat X 0)) = false) : Sta w base b g X Y := fun _ r => r.two cap p0 o0 k0 p1 o1 k1 X Y h0 h1 h2 h3 h4
theorem Sta.elim {w : World} {base b g : Nat} {motive : ∀ X Y, Sta w base b g X Y → Prop}
    (zero : ∀ (a : Option Addr) (cap : Nat) (h0 : w.cell? ⟨b, 0, none⟩ = some (.slice a 0 cap)), motive [] [] (.zero a cap h0))
    (one : ∀ (cap p o k : Nat) (X : List Rw) (u : Value) (h0 : Hp w b g cap 1 (sv p o X.length k) u) (h1 : cap ≤ maxLen) (h2 : El w base p o k X), motive X [] (.one cap p o k X u h0 h1 h2))
    (two : ∀ (cap p0 o0 k0 p1 o1 k1 : Nat) (X Y : List Rw) (h0 : Hp w b g cap 2 (sv p0 o0 X.length k0) (sv p1 o1 Y.length k1)) (h1 : cap ≤ maxLen) (h2 : El w base p0 o0 k0 X) (h3 : El w base p1 o1 k1 Y) (h4 : lessE (toE (rat Y 0)) (toE (rat X 0)) = false), motive X Y (.two cap p0 o0 k0 p1 o1 k1 X Y h0 h1 h2 h3 h4)) {X Y} (t : Sta w base b g X Y) : motive X Y t :=
  t (fun X Y => ∀ t, motive X Y t) ⟨fun a cap h0 _ => zero a cap h0, fun cap p o k X u h0 h1 h2 _ => one cap p o k X u h0 h1 h2, fun cap p0 o0 k0 p1 o1 k1 X Y h0 h1 h2 h3 h4 _ => two cap p0 o0 k0 p1 o1 k1 X Y h0 h1 h2 h3 h4⟩ t
theorem Sta.kept {w w' : World} {base b g : Nat} {X Y : List Rw} (h : Sta w base b g X Y) (k : Below w.heap.size w w') : Sta w' base b g X Y:=by
 have low : ∀ {p o c : Nat} {Z : List Rw},El w base p o c Z → El w' base p o c Z:=fun e=>⟨e.rd.kept k,e.lt,e.pos,e.cap⟩
 cases h using Sta.elim with
 | zero a cap h=>exact .zero a cap (by rw [k.cell (by simpa using cell_block h)]; exact h)
 | one cap p o c X u h hc hx=>exact .one cap p o c X u (h.kept k) hc (low hx)
 | two cap p0 o0 k0 p1 o1 k1 X Y h hc hx hy ht=>exact .two cap p0 o0 k0 p1 o1 k1 X Y (h.kept k) hc (low hx) (low hy) ht
theorem lessE_asymm {a b : Bk.En} (h : lessE a b = true) : lessE b a = false:=by
 unfold lessE at h ⊢
 rw [Bool.or_eq_true,decide_eq_true_eq,Bool.and_eq_true,decide_eq_true_eq] at h
 rcases h with h | ⟨h1,h2⟩
 ·
  rw [decide_eq_false (fun k=>List.lt_irrefl _ (List.lt_trans h k)),decide_eq_false (fun k=>by rw [k] at h; exact List.lt_irrefl _ h)]
  rfl
 ·
  rw [h1,decide_eq_false (List.lt_irrefl _),Bk.new_asymm h2]
  simp
theorem Sta.nil_right {w : World} {base b g : Nat} {Y : List Rw} (h : Sta w base b g [] Y) : Y = [] ∧ ∃ a cap,w.cell? ⟨b,0,none⟩ = some (.slice a 0 cap):=by
 cases h using Sta.elim with
 | zero a cap h=>exact ⟨rfl,a,cap,h⟩
 | one cap p o c X u h hc hx=>have:=hx.pos; simp at this
 | two cap p0 o0 k0 p1 o1 k1 X Y h hc hx hy ht=>have:=hx.pos; simp at this
theorem Sta.len {w : World} {base b g : Nat} {x : Rw} {X Y : List Rw} (h : Sta w base b g (x :: X) Y) : ∃ a n cap,w.cell? ⟨b,0,none⟩ = some (.slice a n cap) ∧ 0 < n ∧ n ≤ 2:=by
 cases h using Sta.elim with
 | one cap p o c X u h hc hx=>exact ⟨_,1,_,h.me,by omega,by omega⟩
 | two cap p0 o0 k0 p1 o1 k1 X Y h hc hx hy ht=>exact ⟨_,2,_,h.me,by omega,by omega⟩
theorem Sta.top {w : World} {base b g : Nat} {x : Rw} {X Y : List Rw} (h : Sta w base b g (x :: X) Y) : ∀ y,(toB Y).head? = some y → lessE y (toE x) = false:=by
 cases h using Sta.elim with
 | one cap p o c X u h hc hx=>intro y hy; simp at hy
 | two cap p0 o0 k0 p1 o1 k1 X Y h hc hx hy ht =>
  intro y hy'
  cases Y with
  | nil=>simp at hy'
  | cons y0 Y =>
   simp at hy'
   rw [← hy']
   exact ht
theorem next_any {w : World} {base b g : Nat} {x : Rw} {X Y : List Rw} (h : Sta w base b g (x :: X) Y) (hb : base ≤ b) (hg : base ≤ g) :
  Calls Tryz.prog 135 #[.pointer (some ⟨b,0,none⟩)] w fun e w'=>e = .returned (rv x) ∧ (Sta w' base b g X Y ∨ Sta w' base b g Y X) ∧ Fr b g w w':=by
 cases h using Sta.elim with
 | one cap p o c XX u h hc hx =>
  have q : p ≠ b ∧ p ≠ g:=⟨by have:=hx.lt; omega,by have:=hx.lt; omega⟩
  cases X with
  | nil =>
   refine (next_1last h hc hx.rd q).mono ?_
   rintro e w1 ⟨rfl,⟨u0,u1,h1⟩,f1⟩
   exact ⟨rfl,.inl (.zero _ _ h1.me),f1⟩
  | cons y L =>
   refine (next_1more (m:=L.length) h hc hx.rd q rfl hx.cap).mono ?_
   rintro e w1 ⟨rfl,⟨u1,h1⟩,f1⟩
   have hx':=hx.fr f1 hb hg
   exact ⟨rfl,.inl (.one cap p (o + 5) (c - 1) (y :: L) u1 h1 hc ⟨hx'.rd.tail,hx.lt,by simp,by have:=hx.cap; simp at this ⊢; omega⟩),f1⟩
 | two cap p0 o0 k0 p1 o1 k1 XX YY h hc hx hy ht =>
  have q : p0 ≠ b ∧ p0 ≠ g:=⟨by have:=hx.lt; omega,by have:=hx.lt; omega⟩
  have q1 : p1 ≠ b ∧ p1 ≠ g:=⟨by have:=hy.lt; omega,by have:=hy.lt; omega⟩
  cases X with
  | nil =>
   refine (next_2last h hc hx.rd q).mono ?_
   rintro e w1 ⟨rfl,⟨u1,h1⟩,f1⟩
   exact ⟨rfl,.inr (.one cap p1 o1 k1 Y u1 h1 hc (hy.fr f1 hb hg)),f1⟩
  | cons y L =>
   refine (next_2more (m:=L.length) h hc hx.rd q rfl hx.cap hy.rd rfl hy.pos q1).mono ?_
   rintro e w1 ⟨rfl,h1,f1⟩
   have hx':=hx.fr f1 hb hg
   have hx2 : El w1 base p0 (o0 + 5) (k0 - 1) (y :: L):=⟨hx'.rd.tail,hx.lt,by simp,by have:=hx.cap; simp at this ⊢; omega⟩
   refine ⟨rfl,?_,f1⟩
   cases hr : lessE (toE (rat Y 0)) (toE y) with
   | false=>exact .inl (.two cap p0 (o0 + 5) (k0 - 1) p1 o1 k1 (y :: L) Y (h1.no hr) hc hx2 (hy.fr f1 hb hg) hr)
   | true=>exact .inr (.two cap p1 o1 k1 p0 (o0 + 5) (k0 - 1) Y (y :: L) (h1.yes hr) hc (hy.fr f1 hb hg) hx2 (lessE_asymm hr))
theorem Rs.zero {w : World} {base b : Nat} (h : Rs w base b []) : ∃ a cap,w.cell? ⟨b,0,none⟩ = some (.slice a 0 cap):=by
 obtain ⟨le,v,hb,ho⟩:=h
 have c : w.cell? ⟨b,0,none⟩ = some v:=by rw [Go.Lib.cell_of_heap hb]; rfl
 rcases ho.2 with ⟨e,_⟩ | ⟨g,cap,cur,e,_⟩
 ·
  exact ⟨_,_,by rw [c,e]⟩
 ·
  exact ⟨_,_,by rw [c,e]; rfl⟩
theorem Rs.start (w : World) : Rs ((w.alloc (.cells #[] 40)).alloc (.cells #[.slice (some ⟨w.heap.size,0,none⟩) 0 0] 179)) w.heap.size (w.heap.size + 1) []:=by
 refine ⟨by omega,.slice (some ⟨w.heap.size,0,none⟩) 0 0,?_,?_⟩
 ·
  have:=heap_alloc_new (w.alloc (.cells #[] 40)) (.cells #[.slice (some ⟨w.heap.size,0,none⟩) 0 0] 179)
  simpa using this
 ·
  have h0 : (w.alloc (.cells #[] 40)).ownsRow w.heap.size 40 1 (.slice (some ⟨w.heap.size,0,none⟩) 0 0) 0 []:=World.ownsRow_made w #[] 0 (Nat.le_refl _) (by decide) rfl
  exact World.ownsRow.alloc h0 _
def Half (w : World) (base b : Nat) (a : Option Addr) (ca : Nat) (A : List Rw) : Prop:=(A = [] ∧ Rs w base b []) ∨ (A ≠ [] ∧ ∃ p o,a = some ⟨p,o,none⟩ ∧ Rs w base b [sv p o A.length ca])
def Made (w : World) (base b : Nat) (A B : List Rw) : Prop:=∃ g X Y,base ≤ g ∧ Sta w base b g X Y ∧ g < w.heap.size ∧ ((X = A ∧ Y = B) ∨ (X = B ∧ Y = A))
theorem made_two {w : World} {base b g cap p0 o0 k0 p1 o1 k1 : Nat} {A B : List Rw} (hg : base ≤ g) (hc : cap ≤ maxLen) (t : Two w b g cap (lessE (toE (rat B 0)) (toE (rat A 0))) (sv p0 o0 A.length k0) (sv p1 o1 B.length k1)) (hA : El w base p0 o0 k0 A) (hB : El w base p1 o1 k1 B) : Made w base b A B:=by
 cases hr : lessE (toE (rat B 0)) (toE (rat A 0)) with
 | false=>exact ⟨g,A,B,hg,.two cap p0 o0 k0 p1 o1 k1 A B (t.no hr) hc hA hB hr,(t.no hr).gl,.inl ⟨rfl,rfl⟩⟩
 | true=>exact ⟨g,B,A,hg,.two cap p1 o1 k1 p0 o0 k0 B A (t.yes hr) hc hB hA (lessE_asymm hr),(t.yes hr).gl,.inr ⟨rfl,rfl⟩⟩
theorem made_one {w : World} {base b p o k : Nat} {A : List Rw} (h : Rs w base b [sv p o A.length k]) (hA : El w base p o k A) : Made w base b A []:=by
 obtain ⟨g,cap,hg,hc,hp⟩:=h.hp (by simp)
 exact ⟨g,A,[],hg,.one cap p o k A _ hp hc hA,hp.gl,.inl ⟨rfl,rfl⟩⟩
theorem made_swap {w : World} {base b : Nat} {A B : List Rw} (h : Made w base b A B) : Made w base b B A:=by
 obtain ⟨g,X,Y,h1,h2,h3,h4⟩:=h
 exact ⟨g,X,Y,h1,h2,h3,h4.symm⟩
theorem made_none {w : World} {base b : Nat} (h : Rs w base b []) (hl : base < w.heap.size) : Made w base b [] []:=by
 obtain ⟨a,cap,hc⟩:=h.zero
 exact ⟨base,[],[],Nat.le_refl _,.zero a cap hc,hl,.inl ⟨rfl,rfl⟩⟩
theorem el_of {w : World} {a : Option Addr} {c : Nat} {A : List Rw} (h : Rd w a A) (hl : A ≠ []) (hc : A.length ≤ c) : ∃ p o,a = some ⟨p,o,none⟩ ∧ El w w.heap.size p o c A:=by
 have hp : 0 < A.length:=List.length_pos_iff.2 hl
 obtain ⟨p,o,e,hcell⟩:=h.cell 0 hp
 subst e
 exact ⟨p,o,rfl,h,cell_block (hcell 0 (by omega)),hp,hc⟩
theorem impl_restsOf {w : World} {q ca cb : Nat} {a b : Option Addr} {A B : List Rw} (hq : w.cell? ⟨q,0,none⟩ = some (.slice a A.length ca) ∧ w.cell? ⟨q,1,none⟩ = some (.slice b B.length cb)) (hA : Rd w a A) (hB : Rd w b B) (la : A.length ≤ ca) (lb : B.length ≤ cb) :
  Calls Tryz.prog 112 #[.slice (some ⟨q,0,none⟩) 2 2] w fun e w'=>e = .returned (.pointer (some ⟨w.heap.size + 1,0,none⟩)) ∧ Made w' w.heap.size (w.heap.size + 1) A B ∧ Below w.heap.size w w':=by
 obtain ⟨hq0,hq1⟩:=hq
 have hql:=cell_block hq0
 have Q0:=hidIt (fun W (k : Below w.heap.size w W)=>(k.cell (p:=⟨q,0,none⟩) hql).trans hq0)
 have Q1:=hidIt (fun W (k : Below w.heap.size w W)=>(k.cell (p:=⟨q,1,none⟩) hql).trans hq1)
 have HS:=hidIt (Rs.start w)
 have HB0:=hidIt (((Below.refl w.heap.size w).alloc (Nat.le_refl _) (.cells #[] 40)).alloc (by simp) (.cells #[.slice (some ⟨w.heap.size,0,none⟩) 0 0] 179))
 have HEA:=hidIt (fun h=>el_of hA h la)
 have HEB:=hidIt (fun h=>el_of hB h lb)
 clear hq0 hq1 hql hA hB la lb
 go_enter Tryz.func112,Tryz.ntmps112
 go_wp2_with (fail)
 have HW0 : Hid (w.heap.size < ((w.alloc (.cells #[] 40)).alloc (.cells #[.slice (some ⟨w.heap.size,0,none⟩) 0 0] 179)).heap.size):=hidIt (by simp; omega)
 generalize (w.alloc (.cells #[] 40)).alloc (.cells #[.slice (some ⟨w.heap.size,0,none⟩) 0 0] 179) = w1 at HS HB0 HW0 ⊢
 go_loopw [10] (fun y wx=>(y = .int .i64 0 ∧ Hid (wx = w1)) ∨ (y = .int .i64 1 ∧ Hid (Half wx w.heap.size (w.heap.size + 1) a ca A) ∧ Hid (Below w.heap.size w wx) ∧ Hid (w.heap.size < wx.heap.size)) ∨ (y = .int .i64 2 ∧ Hid (Made wx w.heap.size (w.heap.size + 1) A B) ∧ Hid (Below w.heap.size w wx))) (fun y _=>(2 - intOf y).toNat)
 case atStart=>exact .inl ⟨rfl,hidIt rfl⟩
 case round =>
  rcases hrel with ⟨rfl,HW⟩ | ⟨rfl,HA,HB,HZ⟩ | ⟨rfl,HM,HB⟩
  ·
   have ew:=HW.out
   subst ew
   have c0:=Q0.out _ HB0.out
   by_cases hn : A = []
   ·
    subst hn
    simp only [List.length_nil] at c0
    go_wp2_with (fail)
    exact ⟨.inr (.inl ⟨rfl,hidIt (.inl ⟨rfl,HS.out⟩),HB0,HW0⟩),by simp [intOf]⟩
   ·
    obtain ⟨p,o,ea,eA⟩:=HEA.out hn
    subst ea
    have CP:=hidIt (heap_Push0 (p:=p) (o:=o) (n:=A.length) (c:=ca) HS.out HB0.out.size)
    have hp:=eA.pos
    have hp' : (0 : Int) < (A.length : Int):=by omega
    have HNA:=hidIt hn
    clear hn
    go_wp2_with (fail)
    refine CP.out.mono ?_
    rintro e w2 ⟨rfl,r2,k2⟩
    have HR2:=hidIt r2
    have HB2:=hidIt (HB0.out.trans k2)
    have HZ2:=hidIt (Nat.lt_of_lt_of_le HW0.out k2.size)
    clear r2 k2
    go_wp2_with (fail)
    exact ⟨.inr (.inl ⟨rfl,hidIt (.inr ⟨HNA.out,p,o,rfl,HR2.out⟩),HB2,HZ2⟩),by simp [intOf]⟩
  ·
   have c1:=Q1.out _ HB.out
   by_cases hn : B = []
   ·
    subst hn
    simp only [List.length_nil] at c1
    have HM : Hid (Made wr w.heap.size (w.heap.size + 1) A []):=hidIt (by
     rcases HA.out with ⟨rfl,r⟩ | ⟨hn,p,o,ea,r⟩
     ·
      exact made_none r HZ.out
     ·
      obtain ⟨p',o',ea',eA⟩:=HEA.out hn
      rw [ea] at ea'
      cases ea'
      exact made_one r (eA.low HB.out))
    go_wp2_with (fail)
    exact ⟨.inr (.inr ⟨rfl,HM,HB⟩),by simp [intOf]⟩
   ·
    obtain ⟨p,o,ea,eB⟩:=HEB.out hn
    subst ea
    have hp:=eB.pos
    have hp' : (0 : Int) < (B.length : Int):=by omega
    have CP : Hid (Calls Tryz.prog 136 #[hI (w.heap.size + 1),.iface 40 (sv p o B.length cb)] wr fun e w'=>e = .returned (.tuple #[]) ∧ Made w' w.heap.size (w.heap.size + 1) A B ∧ Below w.heap.size wr w'):=hidIt (by
     rcases HA.out with ⟨hA0,r⟩ | ⟨hA1,p',o',ea,r⟩
     ·
      refine (heap_Push0 (p:=p) (o:=o) (n:=B.length) (c:=cb) r HB.out.size).mono ?_
      rintro e w2 ⟨rfl,r2,k2⟩
      refine ⟨rfl,?_,k2⟩
      rw [hA0]
      exact made_swap (made_one r2 (eB.low (HB.out.trans k2)))
     ·
      obtain ⟨p2,o2,ea2,eA⟩:=HEA.out hA1
      rw [ea] at ea2
      cases ea2
      have eA1:=eA.low HB.out
      have eB1:=eB.low HB.out
      refine (heap_Push1 (L0:=A) (L1:=B) (k0:=ca) (k1:=cb) r HB.out.size eA1.rd eB1.rd rfl rfl eA1.pos eB1.pos eA1.lt eB1.lt).mono ?_
      rintro e w2 ⟨rfl,⟨g,cap,hg,hc,t⟩,k2⟩
      exact ⟨rfl,made_two hg hc t (eA1.low k2) (eB1.low k2),k2⟩)
    clear hn HA HEA HEB
    go_wp2_with (fail)
    refine CP.out.mono ?_
    rintro e w2 ⟨rfl,r2,k2⟩
    have HR2:=hidIt r2
    have HB2:=hidIt (HB.out.trans k2)
    clear r2 k2
    go_wp2_with (fail)
    exact ⟨.inr (.inr ⟨rfl,HR2,HB2⟩),by simp [intOf]⟩
  ·
   go_wp2_with (fail)
   go_ret
   exact ⟨rfl,HM.out,HB.out⟩
end Go.Proofs.YtgbnkkjjgodilaaGreatDoor.En
namespace Go.Proofs.YtgbnkkjjgodilaaGreatDoor.En
open Go.ChangeShapes Go.WideShapes Go.ChangeAt Go.RowKit
open Rc (BelowBy BelowBy.one wp_region_below calls_below calls_same)
open Bk (Bytes okE newB okBk Ris IsJoin joinB lessE Mg putE)
theorem put_at {J : List Rw} {j : Nat} (h : J.length = j + 1) : (toB J).getLast? = some (toE (rat J j)):=by
 rw [List.getLast?_eq_getElem?,List.length_map,h,List.getElem?_map]
 simp only [Nat.add_sub_cancel]
 rw [rat_getElem? (by omega)]
 rfl
theorem put_same {J : List Rw} {j : Nat} {x : Rw} (h : J.length = j + 1) (e : bs (rat J j).1 = bs x.1) : putE (toB J) (toE x) = toB J:=by
 unfold putE
 rw [put_at h,if_pos (by simp [toE,e])]
theorem put_more {J : List Rw} {j : Nat} {x : Rw} (h : J.length = j + 1) (e : bs (rat J j).1 ≠ bs x.1) : putE (toB J) (toE x) = toB (J ++ [x]):=by
 unfold putE
 rw [put_at h,if_neg (by simp [toE,e])]
 simp [toB]
theorem put_first {x : Rw} : putE (toB []) (toE x) = toB ([] ++ [x]):=by
 unfold putE
 rw [if_neg (by simp)]
 rfl
def After (w : World) (base b g k : Nat) (A B J : List Bk.En) : Prop:=∃ X Y,Sta w base b g X Y ∧ Mg A B J (toB X) (toB Y) ∧ X.length + Y.length + 1 ≤ k
theorem After.kept {w w' : World} {base b g k : Nat} {A B J : List Bk.En} (h : After w base b g k A B J) (h' : Below w.heap.size w w') : After w' base b g k A B J:=by
 obtain ⟨X,Y,h1,h2,h3⟩:=h
 exact ⟨X,Y,h1.kept h',h2,h3⟩
theorem after_of {w w' : World} {base b g k : Nat} {A B J : List Bk.En} {x : Rw} {X Y : List Rw} (s : Sta w base b g (x :: X) Y) (m : Mg A B J (toB (x :: X)) (toB Y)) (rA : Ris A) (rB : Ris B) (hk : (x :: X).length + Y.length ≤ k) (s1 : Sta w' base b g X Y ∨ Sta w' base b g Y X) : After w' base b g k A B (putE J (toE x)):=by
 have m1:=Mg.step (X:=toB X) (Y:=toB Y) (x:=toE x) m rA rB s.top
 simp at hk
 rcases s1 with s1 | s1
 ·
  exact ⟨X,Y,s1,m1,by omega⟩
 ·
  exact ⟨Y,X,s1,m1.swap,by omega⟩
theorem Hp.low {w w' : World} {b g cap n B : Nat} {v0 v1 : Value} (h : Hp w b g cap n v0 v1) (k : Below B w w') (hb : b < B) (hg : g < B) : Hp w' b g cap n v0 v1 :=
 ⟨h.ne,Nat.lt_of_lt_of_le h.bl k.size,Nat.lt_of_lt_of_le h.gl k.size,h.le,by rw [k.cell (by simpa using hb)]; exact h.me,by rw [k.frozen (by simpa using hb)]; exact h.mf,
  fun i hi=>by rw [k.cell (by simpa using hg)]; exact h.row i hi,fun i=>by rw [k.frozen (by simpa using hg)]; exact h.rf i⟩
theorem Sta.low {w w' : World} {base b g B : Nat} {X Y : List Rw} (h : Sta w base b g X Y) (k : Below B w w') (hb : b < B) (hg : g < B) (hs : base ≤ B) : Sta w' base b g X Y:=by
 have low : ∀ {p o c : Nat} {Z : List Rw},El w base p o c Z → El w' base p o c Z:=fun e=>e.low (k.mono hs)
 cases h using Sta.elim with
 | zero a cap h=>exact .zero a cap (by rw [k.cell (by simpa using hb)]; exact h)
 | one cap p o c X u h hc hx=>exact .one cap p o c X u (h.low k hb hg) hc (low hx)
 | two cap p0 o0 k0 p1 o1 k1 X Y h hc hx hy ht=>exact .two cap p0 o0 k0 p1 o1 k1 X Y (h.low k hb hg) hc (low hx) (low hy) ht
theorem After.low {w w' : World} {base b g k B : Nat} {A B' J : List Bk.En} (h : After w base b g k A B' J) (h' : Below B w w') (hb : b < B) (hg : g < B) (hs : base ≤ B) : After w' base b g k A B' J:=by
 obtain ⟨X,Y,h1,h2,h3⟩:=h
 exact ⟨X,Y,h1.low h' hb hg hs,h2,h3⟩
def Now (w0 w : World) (base b g k : Nat) (A B : List Rw) (v : Value) : Prop:=∃ J X Y,Own w w0.heap.size v J ∧ Sta w base b g X Y ∧ Mg (toB A) (toB B) (toB J) (toB X) (toB Y) ∧ X.length + Y.length ≤ k ∧ Below base w0 w
theorem now_of {w0 w : World} {base b g k : Nat} {A B : List Rw} {J : List Rw} {PJ : List Bk.En} {v : Value} (o : Own w w0.heap.size v J) (a : After w base b g k (toB A) (toB B) PJ) (e : PJ = toB J) (hb : Below base w0 w) : Now w0 w base b g (k - 1) A B v:=by
 obtain ⟨X,Y,s,m,hk⟩:=a
 subst e
 exact ⟨J,X,Y,o,s,m,by omega,hb⟩
theorem impl_newest {w : World} {base b : Nat} {A B : List Rw} (h : Made w base b A B) (hb : base ≤ b) (hbl : b < w.heap.size) (hs : base ≤ w.heap.size) (rA : Ris (toB A)) (rB : Ris (toB B)) (lA : A.length ≤ 80) (lB : B.length ≤ 80) :
  Calls Tryz.prog 111 #[.pointer (some ⟨b,0,none⟩)] w fun e w'=>∃ v J,e = .returned v ∧ Own w' w.heap.size v J ∧ IsJoin (toB A) (toB B) (toB J) ∧ J.length ≤ 160 ∧ Below base w w':=by
 obtain ⟨i0,hi0,hz0,hz1,hz2⟩:=info_parts infoRw
 obtain ⟨g,X,Y,hg,st,hgl,hxy⟩:=h
 have CL:=hidIt (fun a n c W=>rests_Len a n c W)
 have HN0 : Hid (Now w (w.alloc (.cells #[] 98)) base b g (A.length + B.length) A B (.slice (some ⟨w.heap.size,0,none⟩) 0 0)):=hidIt (by
  have ka:=(Below.refl w.heap.size w).alloc (Nat.le_refl _) (.cells #[] 98)
  refine ⟨[],X,Y,Own.new w,st.kept ka,?_,?_,ka.mono hs⟩
  ·
   rcases hxy with ⟨rfl,rfl⟩ | ⟨rfl,rfl⟩
   ·
    exact Mg.start _ _
   ·
    exact (Mg.start _ _).swap
  ·
   rcases hxy with ⟨rfl,rfl⟩ | ⟨rfl,rfl⟩ <;> omega)
 have HRA:=hidIt rA
 have HRB:=hidIt rB
 clear st hxy rA rB
 go_enter Tryz.func111,Tryz.ntmps111
 go_wp2_with (fail)
 generalize w.alloc (.cells #[] 98) = w1 at HN0 ⊢
 go_loopg [3] (A.length + B.length) (fun kx s3 wx=>Hid (Now w wx base b g kx A B s3))
 case atStart=>exact HN0
 case round =>
  obtain ⟨J,X,Y,o1,s1,m1,hk,b1⟩:=hrel.out
  have HO:=hidIt o1
  have HS:=hidIt s1
  have HM:=hidIt m1
  have HB:=hidIt b1
  clear o1 s1 m1 b1 hrel HN0
  cases X with
  | nil =>
   obtain ⟨eY,a,cap,hc⟩:=HS.out.nil_right
   subst eY
   have HJ:=hidIt HM.out.join
   have HJL : Hid (J.length ≤ 160):=hidIt (by have:=HM.out.len; simp at this; omega)
   clear HM HS
   go_wp2_with (fail)
   refine (CL.out _ _ _ _).mono ?_
   rintro e w2 ⟨rfl,rfl⟩
   go_wp2_with (fail)
   go_ret
   exact ⟨_,J,rfl,HO.out,HJ.out,HJL.out,HB.out⟩
  | cons x X =>
   obtain ⟨a,n,cap,hc,hn,hn2⟩:=HS.out.len
   have CN:=hidIt (next_any HS.out hb hg)
   have hn' : (0 : Int) < (n : Int):=by omega
   have HA:=hidIt (fun W s1=>after_of (w':=W) HS.out HM.out HRA.out HRB.out hk s1)
   have HJL : Hid (J.length ≤ 159):=hidIt (by have:=HM.out.len; simp at this; omega)
   have HJK : Hid (gk ≠ 0):=hidIt (by simp at hk; omega)
   clear HS HM hk
   go_wp2_with (fail)
   refine (CL.out _ _ _ _).mono ?_
   rintro e w2 ⟨rfl,rfl⟩
   go_wp2_with (fail)
   refine CN.out.mono ?_
   rintro e w3 ⟨rfl,s3,f3⟩
   have HF3:=hidIt (HA.out _ s3)
   have HO3:=hidIt (HO.out.fr f3 hbl hgl)
   have HB3:=hidIt (HB.out.trans (f3.below hb hg (Nat.le_trans hs HB.out.size)))
   have HZ3:=hidIt (Nat.le_trans HB.out.size f3.size)
   clear s3 f3 HO HB HA CN hc
   have HPS:=hidIt (fun j h e=>put_same (J:=J) (j:=j) (x:=x) h e)
   have HPM:=hidIt (fun j h e=>put_more (J:=J) (j:=j) (x:=x) h e)
   have HPF:=hidIt (fun (e : J = [])=>show putE (toB J) (toE x) = toB (J ++ [x]) by rw [e]; exact put_first)
   generalize putE (toB J) (toE x) = PJ at HF3 HPS HPM HPF
   obtain ⟨xk,xv,xt,xn,xg⟩:=x
   simp only at HPS HPM
   obtain ⟨za,zc,ez,hle,hcm,hrd,_,hsome⟩:=HO3.out.form
   have HFM:=hidIt hrd
   clear hrd hsome
   subst ez
   generalize hjl : J.length = jl at *
   have HJLn:=hidIt hjl
   clear hjl
   go_wp2_with (fail)
   have BX:=hidIt (Bo.Box.new w3 #[.string xk,.string xv,.int .i64 xt,.int .i64 xn,.bool xg] 98)
   have HAl:=hidIt ((Below.refl w3.heap.size w3).alloc (Nat.le_refl _) (.cells #[.string xk,.string xv,.int .i64 xt,.int .i64 xn,.bool xg] 98))
   generalize hz : w3.alloc (.cells #[.string xk,.string xv,.int .i64 xt,.int .i64 xn,.bool xg] 98) = wz at BX HAl ⊢
   clear hz
   have HFz:=hidIt (HF3.out.kept HAl.out)
   have HOz:=hidIt (HO3.out.kept HAl.out)
   have HBz:=hidIt (HB3.out.trans (HAl.out.mono (Nat.le_trans hs HZ3.out)))
   have HZz:=hidIt (Nat.le_trans HZ3.out HAl.out.size)
   have HRz:=hidIt (HFM.out.kept HAl.out)
   clear HF3 HO3 HB3 HZ3 HAl HFM
   haveI:=BelowBy.one wz
   have g0:=fun p : BelowBy wz=>p.cell (BX.out.c 0 rfl)
   generalize hbk : w3.heap.size = bk at BX g0 ⊢
   clear hbk
   rcases Nat.eq_zero_or_pos jl with hj | hj
   ·
    subst hj
    refine wp_region_below (by kernel_rfl) (by kernel_rfl) ?_
    repeat (go_big_quiet_step (fail))
    refine wpQuiet_nil ?_
    intro _ hw'
    obtain ⟨pq,rfl⟩:=hw'
    have kq:=pq.h
    generalize pq.world = w4 at kq ⊢
    have HF4:=hidIt (HFz.out.kept kq)
    have HO4:=hidIt (HOz.out.kept kq)
    have HB4:=hidIt (HBz.out.trans (kq.mono (Nat.le_trans hs HZz.out)))
    have HZ4:=hidIt (Nat.le_trans HZz.out kq.size)
    have BX4:=hidIt (BX.out.kept kq)
    clear kq HFz HOz HBz HZz BX g0
    have t0:=BX4.out.c 0 rfl
    have t1:=BX4.out.c 1 rfl
    have t2:=BX4.out.c 2 rfl
    have t3:=BX4.out.c 3 rfl
    have t4:=BX4.out.c 4 rfl
    have HOw : Hid (w4.ownsRow w.heap.size 98 5 (.slice za 0 zc) 0 (rcells J)):=hidIt (by have:=HO4.out; unfold Own at this; rw [HJLn.out] at this; exact this)
    go_wp2_with (first | (at_builtin; refine wpList_append_own _ rfl _ _ 40 rfl w.heap.size 98 i0 (.agg #[.string ByteArray.empty,.string ByteArray.empty,.int .i64 0,.int .i64 0,.bool false]) 5 56 Tryz.underlying40 hi0 hz0 hz1 hz2 rfl (by decide) _ _ _ rfl (World.ownsRow.alloc HOw.out (.cells #[.string xk,.string xv,.int .i64 xt,.int .i64 xn,.bool xg] 98)) ⟨w4.heap.size,0,none⟩ 1 1 [.string xk,.string xv,.int .i64 xt,.int .i64 xn,.bool xg] rfl rfl (fresh w4 (xk,xv,xt,xn,xg) 98) (rcells_one [(xk,xv,xt,xn,xg)]) ?ca1 ?ca2 ?ca3 ?_))
    case ca1=>unfold maxLen; have:=HJL.out; omega
    case ca2=>have:=HJL.out; omega
    case ca3=>have:=HZ4.out; simp; omega
    intro v' w9 hown hgrow _
    have ka:=(Below.refl w4.heap.size w4).alloc (Nat.le_refl _) (.cells #[.string xk,.string xv,.int .i64 xt,.int .i64 xn,.bool xg] 98)
    have kk:=grown_below (HO4.out.kept ka) (by exact hgrow) (Nat.le_refl _) (Nat.le_trans HZ4.out ka.size)
    have k9:=(ka.mono HZ4.out).trans kk
    have HO9 : Hid (Own w9 w.heap.size v' (J ++ [(xk,xv,xt,xn,xg)])):=hidIt (Own.more (L:=J) (M:=[(xk,xv,xt,xn,xg)]) (by rw [HJLn.out]; exact hown))
    have HF9:=hidIt (HF4.out.low k9 hbl hgl hs)
    have HB9:=hidIt (HB4.out.trans (k9.mono hs))
    have HE9:=hidIt (HPF.out (List.length_eq_zero_iff.1 HJLn.out))
    clear hown hgrow ka kk k9
    go_wp2_with (fail)
    go_roundg (gk - 1)
    case measure=>have:=HJK.out; omega
    case rel=>exact hidIt (now_of HO9.out HF9.out HE9.out HB9.out)
   ·
    obtain ⟨j,rfl⟩ : ∃ j,jl = j + 1:=⟨jl - 1,by omega⟩
    obtain ⟨zb,zo,eza,l0,_⟩:=HRz.out.all (i:=j) (by rw [HJLn.out]; omega)
    subst eza
    obtain ⟨lk,elk⟩ : ∃ s,(rat J j).1 = s:=⟨_,rfl⟩
    have HPS1:=hidIt (fun e=>HPS.out j rfl e)
    have HPM1:=hidIt (fun e=>HPM.out j rfl e)
    rw [elk] at l0 HPS1 HPM1
    clear elk HPS HPM HPF HRz
    have k0:=fun p : BelowBy wz=>p.cell l0
    clear l0
    have heq:=eq_of lk xk
    have hjz : ((j : Int) + 1 == 0) = false:=by simp; omega
    have hj1 : (j : Int) < (j : Int) + 1:=by omega
    have hj2 : (j : Int) ≤ 200:=by have:=HJL.out; omega
    have hj3 : (0 : Int) ≤ (j : Int):=by omega
    by_cases hk : bs lk = bs xk
    ·
     have HE0:=hidIt (HPS1.out hk)
     rw [decide_eq_true hk] at heq
     clear hk HPS1 HPM1
     refine wp_region_below (by kernel_rfl) (by kernel_rfl) ?_
     repeat (go_big_quiet_step (fail))
     refine wpQuiet_nil ?_
     intro _ hw'
     obtain ⟨pq,rfl⟩:=hw'
     have kq:=pq.h
     generalize pq.world = w4 at kq ⊢
     have HF4:=hidIt (HFz.out.kept kq)
     have HO4:=hidIt (HOz.out.kept kq)
     have HB4:=hidIt (HBz.out.trans (kq.mono (Nat.le_trans hs HZz.out)))
     have HZ4:=hidIt (Nat.le_trans HZz.out kq.size)
     have BX4:=hidIt (BX.out.kept kq)
     clear kq HFz HOz HBz HZz BX g0 k0
     have t0:=BX4.out.c 0 rfl
     have t1:=BX4.out.c 1 rfl
     have t2:=BX4.out.c 2 rfl
     have t3:=BX4.out.c 3 rfl
     have t4:=BX4.out.c 4 rfl
     have HE9:=hidIt (HE0.out)
     go_wp2_with (fail)
     go_roundg (gk - 1)
     case measure=>have:=HJK.out; omega
     case rel=>exact hidIt (now_of HO4.out HF4.out HE9.out HB4.out)
    ·
     have HE0:=hidIt (HPM1.out hk)
     rw [decide_eq_false hk] at heq
     clear hk HPS1 HPM1
     refine wp_region_below (by kernel_rfl) (by kernel_rfl) ?_
     repeat (go_big_quiet_step (fail))
     refine wpQuiet_nil ?_
     intro _ hw'
     obtain ⟨pq,rfl⟩:=hw'
     have kq:=pq.h
     generalize pq.world = w4 at kq ⊢
     have HF4:=hidIt (HFz.out.kept kq)
     have HO4:=hidIt (HOz.out.kept kq)
     have HB4:=hidIt (HBz.out.trans (kq.mono (Nat.le_trans hs HZz.out)))
     have HZ4:=hidIt (Nat.le_trans HZz.out kq.size)
     have BX4:=hidIt (BX.out.kept kq)
     clear kq HFz HOz HBz HZz BX g0 k0
     have t0:=BX4.out.c 0 rfl
     have t1:=BX4.out.c 1 rfl
     have t2:=BX4.out.c 2 rfl
     have t3:=BX4.out.c 3 rfl
     have t4:=BX4.out.c 4 rfl
     have HOw : Hid (w4.ownsRow w.heap.size 98 5 (.slice (some ⟨zb,zo,none⟩) (j + 1) zc) (j + 1) (rcells J)):=hidIt (by have:=HO4.out; unfold Own at this; rw [HJLn.out] at this; exact this)
     go_wp2_with (first | (at_builtin; refine wpList_append_own _ rfl _ _ 40 rfl w.heap.size 98 i0 (.agg #[.string ByteArray.empty,.string ByteArray.empty,.int .i64 0,.int .i64 0,.bool false]) 5 56 Tryz.underlying40 hi0 hz0 hz1 hz2 rfl (by decide) _ _ _ rfl (World.ownsRow.alloc HOw.out (.cells #[.string xk,.string xv,.int .i64 xt,.int .i64 xn,.bool xg] 98)) ⟨w4.heap.size,0,none⟩ 1 1 [.string xk,.string xv,.int .i64 xt,.int .i64 xn,.bool xg] rfl rfl (fresh w4 (xk,xv,xt,xn,xg) 98) (rcells_one [(xk,xv,xt,xn,xg)]) ?cb1 ?cb2 ?cb3 ?_))
     case cb1=>unfold maxLen; have:=HJL.out; omega
     case cb2=>have:=HJL.out; omega
     case cb3=>have:=HZ4.out; simp; omega
     intro v' w9 hown hgrow _
     have ka:=(Below.refl w4.heap.size w4).alloc (Nat.le_refl _) (.cells #[.string xk,.string xv,.int .i64 xt,.int .i64 xn,.bool xg] 98)
     have kk:=grown_below (HO4.out.kept ka) (by exact hgrow) (Nat.le_refl _) (Nat.le_trans HZ4.out ka.size)
     have k9:=(ka.mono HZ4.out).trans kk
     have HO9 : Hid (Own w9 w.heap.size v' (J ++ [(xk,xv,xt,xn,xg)])):=hidIt (Own.more (L:=J) (M:=[(xk,xv,xt,xn,xg)]) (by rw [HJLn.out]; exact hown))
     have HF9:=hidIt (HF4.out.low k9 hbl hgl hs)
     have HB9:=hidIt (HB4.out.trans (k9.mono hs))
     have HE9:=hidIt (HE0.out)
     clear hown hgrow ka kk k9
     go_wp2_with (fail)
     go_roundg (gk - 1)
     case measure=>have:=HJK.out; omega
     case rel=>exact hidIt (now_of HO9.out HF9.out HE9.out HB9.out)
end Go.Proofs.YtgbnkkjjgodilaaGreatDoor.En
namespace Go.Proofs.YtgbnkkjjgodilaaGreatDoor.En
open Go.ChangeShapes Go.WideShapes Go.ChangeAt Go.RowKit
open Bk (Bytes okE newB okBk look Ris IsJoin joinB)
theorem impl_Joined (aA aB : Option Addr) (cA cB : Nat) (A B : List Rw) (w : World) (hA : Rd w aA A) (hB : Rd w aB B) (leA : A.length ≤ cA) (leB : B.length ≤ cB) (hlA : A.length ≤ 9223372036854775807) (hlB : B.length ≤ 9223372036854775807) (hsA : shortR A) (hsB : shortR B) :
  Calls Tryz.prog 118 #[.slice aA A.length cA,.slice aB B.length cB] w fun e w'=>∃ v J,e = .returned (.tuple #[v,.bool (joinB (toB A) (toB B)).2]) ∧ toB J = (joinB (toB A) (toB B)).1 ∧ Own w' w.heap.size v J ∧ Below w.heap.size w w':=by
 have CA:=hidIt (fun W (r : Rd W aA A)=>impl_BookOk aA cA A W r hlA hsA)
 have CB:=hidIt (fun W (r : Rd W aB B)=>impl_BookOk aB cB B W r hlB hsB)
 have HRA:=hidIt hA
 have HRB:=hidIt hB
 clear hA hB
 cases okA : okBk (toB A) with
 | false =>
  have e : joinB (toB A) (toB B) = ([],false):=by unfold joinB; rw [if_neg (by rw [okA]; simp)]
  rw [e]
  rw [okA] at CA
  clear e okA
  generalize A.length = la at *
  generalize B.length = lb at *
  go_enter Tryz.func118,Tryz.ntmps118
  go_wp2_with (fail)
  refine (CA.out _ HRA.out).mono ?_
  rintro e w1 ⟨rfl,k1⟩
  have HB1:=hidIt k1
  clear k1
  go_wp2_with (fail)
  refine bodyPost_ret (v:=.tuple #[.slice (some ⟨w1.heap.size,0,none⟩) 0 0,.bool false]) (by simp [results,Tryz.results118,go_sem]) rfl ⟨_,[],rfl,rfl,(Own.new w1).mono HB1.out.size,HB1.out.alloc HB1.out.size _⟩
 | true =>
  rw [okA] at CA
  cases okB : okBk (toB B) with
  | false =>
   have e : joinB (toB A) (toB B) = ([],false):=by unfold joinB; rw [if_neg (by rw [okB]; simp)]
   rw [e]
   rw [okB] at CB
   clear e okA okB
   generalize A.length = la at *
   generalize B.length = lb at *
   go_enter Tryz.func118,Tryz.ntmps118
   go_wp2_with (fail)
   refine (CA.out _ HRA.out).mono ?_
   rintro e w1 ⟨rfl,k1⟩
   have HB1:=hidIt k1
   clear k1
   go_wp2_with (fail)
   refine (CB.out _ (HRB.out.kept HB1.out)).mono ?_
   rintro e w2 ⟨rfl,k2⟩
   have HB2:=hidIt (HB1.out.trans (k2.mono HB1.out.size))
   clear k2
   go_wp2_with (fail)
   refine bodyPost_ret (v:=.tuple #[.slice (some ⟨w2.heap.size,0,none⟩) 0 0,.bool false]) (by simp [results,Tryz.results118,go_sem]) rfl ⟨_,[],rfl,rfl,(Own.new w2).mono HB2.out.size,HB2.out.alloc HB2.out.size _⟩
  | true =>
   rw [okB] at CB
   have l1:=Bk.ok_len okA
   have l2:=Bk.ok_len okB
   rw [toB_length] at l1 l2
   have CR:=hidIt (fun W q hq (r1 : Rd W aA A) (r2 : Rd W aB B)=>impl_restsOf (w:=W) (q:=q) (ca:=cA) (cb:=cB) hq r1 r2 leA leB)
   have CJ:=hidIt (fun W base b (m : Made W base b A B) h1 h2 h3=>impl_newest m h1 h2 h3 (Bk.ok_ris okA) (Bk.ok_ris okB) l1 l2)
   have HJ:=hidIt (fun J (h : IsJoin (toB A) (toB B) J)=>Bk.join_of okA okB h)
   clear okA okB hsA hsB
   generalize joinB (toB A) (toB B) = r at HJ ⊢
   generalize A.length = la at *
   generalize B.length = lb at *
   go_enter Tryz.func118,Tryz.ntmps118
   go_wp2_with (fail)
   refine (CA.out _ HRA.out).mono ?_
   rintro e w1 ⟨rfl,k1⟩
   have HB1:=hidIt k1
   clear k1
   go_wp2_with (fail)
   refine (CB.out _ (HRB.out.kept HB1.out)).mono ?_
   rintro e w2 ⟨rfl,k2⟩
   have HB2:=hidIt (HB1.out.trans (k2.mono HB1.out.size))
   clear k2
   have HQ : Hid ((w2.alloc (.cells #[.slice aA la cA,.slice aB lb cB] 40)).cell? ⟨w2.heap.size,0,none⟩ = some (.slice aA la cA) ∧ (w2.alloc (.cells #[.slice aA la cA,.slice aB lb cB] 40)).cell? ⟨w2.heap.size,1,none⟩ = some (.slice aB lb cB)):=hidIt ⟨by simp,by simp⟩
   have HBq:=hidIt (HB2.out.alloc HB2.out.size (.cells #[.slice aA la cA,.slice aB lb cB] 40))
   go_wp2_with (fail)
   refine (CR.out _ _ HQ.out (HRA.out.kept HBq.out) (HRB.out.kept HBq.out)).mono ?_
   generalize w2.alloc (.cells #[.slice aA la cA,.slice aB lb cB] 40) = w3 at HBq ⊢
   clear HQ
   rintro e w4 ⟨rfl,m4,k4⟩
   have HM:=hidIt m4
   have HB4:=hidIt k4
   have HBL : Hid (w3.heap.size + 1 < w4.heap.size):=hidIt (by
    obtain ⟨g,X,Y,hg,st,hgl,_⟩:=m4
    cases st using Sta.elim with
    | zero a cap h=>exact cell_block h
    | one cap p o c X u h hc hx=>exact h.bl
    | two cap p0 o0 k0 p1 o1 k1 X Y h hc hx hy ht=>exact h.bl)
   clear m4 k4
   go_wp2_with (fail)
   refine (CJ.out _ _ _ HM.out (by omega) HBL.out HB4.out.size).mono ?_
   rintro e w5 ⟨v,J,rfl,o5,j5,l5,k5⟩
   have HB5:=hidIt ((HBq.out.trans (HB4.out.mono HBq.out.size)).trans (k5.mono HBq.out.size))
   have HO5:=hidIt (o5.mono (Nat.le_trans HBq.out.size HB4.out.size))
   have HR:=hidIt (HJ.out _ j5)
   clear k5 o5 j5
   obtain ⟨b,cap,rfl,_⟩:=HO5.out.form
   generalize hjl : J.length = lj at *
   have HJL:=hidIt hjl
   clear hjl
   by_cases h80 : lj ≤ 80
   ·
    have h80' : ¬ (80 : Int) < (lj : Int):=by omega
    have er : Hid (r = (toB J,true)):=hidIt (by rw [HR.out,if_pos (by rw [toB_length,HJL.out]; exact h80)])
    go_wp2_with (fail)
    refine bodyPost_ret (v:=.tuple #[.slice b lj cap,.bool true]) (by simp [results,Tryz.results118,go_sem]) rfl ⟨_,J,by rw [er.out],by rw [er.out],HO5.out,HB5.out⟩
   ·
    have h80' : (80 : Int) < (lj : Int):=by omega
    have er : Hid (r = ([],false)):=hidIt (by rw [HR.out,if_neg (by rw [toB_length,HJL.out]; exact h80)])
    go_wp2_with (fail)
    refine bodyPost_ret (v:=.tuple #[.slice (some ⟨w5.heap.size,0,none⟩) 0 0,.bool false]) (by simp [results,Tryz.results118,go_sem]) rfl ⟨_,[],by rw [er.out],by rw [er.out]; rfl,(Own.new w5).mono HB5.out.size,HB5.out.alloc HB5.out.size _⟩
end Go.Proofs.YtgbnkkjjgodilaaGreatDoor.En
namespace Go.Proofs.YtgbnkkjjgodilaaGreatDoor.Iv
open Go.ChangeShapes Go.WideShapes Go.ChangeAt Go.RowKit
theorem hidIt {p : Prop} (h : p) : Hid p:=h
def iat (L : List Int) (i : Nat) : Int:=L.getD i 0
theorem iat_at {L : List Int} {i : Nat} (h : i < L.length) : iat L i = L[i]:=by
 unfold iat
 rw [List.getD_eq_getElem?_getD,List.getElem?_eq_getElem h]
 rfl
abbrev icells (L : List Int) : List Value:=L.map (Value.int .i64)
theorem icells_at {L : List Int} {i : Nat} (h : i < L.length) : (icells L)[i]? = some (.int .i64 (iat L i)):=by
 rw [iat_at h,List.getElem?_map,List.getElem?_eq_getElem h]
 rfl
theorem icells_one (L : List Int) : ∀ u ∈ icells L,u.oneCell' = true:=by
 intro u hu
 obtain ⟨s,_,rfl⟩:=List.mem_map.1 hu
 rfl
structure Rd (w : World) (a : Option Addr) (L : List Int) : Prop where
 cell : ∀ i,i < L.length → ∃ b off,a = some ⟨b,off,none⟩ ∧ w.cell? ⟨b,off + i,none⟩ = some (.int .i64 (iat L i))
theorem cell_block {w : World} {b o : Nat} {v : Value} (h : w.cell? ⟨b,o,none⟩ = some v) : b < w.heap.size:=World.block_lt_of_cell? w ⟨b,o,none⟩ h
theorem Rd.kept {w w' : World} {a : Option Addr} {L : List Int} (h : Rd w a L) (k : Below w.heap.size w w') : Rd w' a L :=
 ⟨fun i hi=>by
  obtain ⟨b,off,e,c0⟩:=h.cell i hi
  exact ⟨b,off,e,by rw [k.cell (by simpa using cell_block c0)]; exact c0⟩⟩
theorem Rd.nil (w : World) (a : Option Addr) : Rd w a []:=⟨fun i hi=>by simp at hi⟩
def Own (w : World) (base : Nat) (v : Value) (L : List Int) : Prop:=w.ownsRow base 2 1 v L.length (icells L)
theorem Own.form {w : World} {base : Nat} {v : Value} {L : List Int} (h : Own w base v L) : ∃ a cap,v = .slice a L.length cap ∧ L.length ≤ cap ∧ cap ≤ maxLen ∧ Rd w a L ∧ (a = none → cap = 0) ∧ (∀ x,a = some x → ∃ g,x = ⟨g,0,none⟩ ∧ base ≤ g ∧ g < w.heap.size):=by
 have h':=h
 rcases h.2 with ⟨rfl,h0⟩ | ⟨g,cap,cur,rfl,hb,hg,hn,hm,rest⟩
 ·
  exact ⟨none,0,by rw [h0],by omega,by decide,⟨fun i hi=>by omega⟩,fun _=>rfl,fun x hx=>by cases hx⟩
 ·
  refine ⟨some ⟨g,0,none⟩,cap,rfl,hn,hm,⟨fun i hi=>⟨g,0,rfl,?_⟩⟩,(fun e=>by cases e),fun x hx=>⟨g,by cases hx; rfl,hb,(Array.getElem?_eq_some_iff.1 hg).1⟩⟩
  rw [Nat.zero_add,World.ownsRow.cellAt h' _ (by omega),icells_at hi]
theorem Own.kept {w w' : World} {base : Nat} {v : Value} {L : List Int} (h : Own w base v L) (k : Below w.heap.size w w') : Own w' base v L :=
 World.ownsRow.kept (row:=none) h ⟨k.os,k.tape,k.output,k.size,fun i hi _=>k.block i hi⟩ (by cases v.ownBlock <;> simp)
theorem Own.only {w w' : World} {base c : Nat} {v : Value} {L : List Int} (h : Own w base v L) (k : Only c w w') (hc : c < base ∨ ∀ g,v.ownBlock = some g → g ≠ c) : Own w' base v L:=by
 refine World.ownsRow.kept h (row:=some c) ⟨k.os,k.tape,k.output,k.size,fun i hi hne=>k.block i hi (fun e=>hne (by rw [e]))⟩ ?_
 cases hv : v.ownBlock with
 | none=>exact .inl rfl
 | some g =>
  refine .inr (fun e=>?_)
  cases e
  rcases hc with hc | hc
  ·
   have:=(World.ownsRow.lt h _ hv).1; omega
  ·
   exact hc _ hv rfl
theorem Own.mono {w : World} {base b' : Nat} {v : Value} {L : List Int} (h : Own w base v L) (hb : b' ≤ base) : Own w b' v L:=by
 refine ⟨h.1,?_⟩
 rcases h.2 with h0 | ⟨g,cap,cur,e,hb',r⟩
 ·
  exact .inl h0
 ·
  exact .inr ⟨g,cap,cur,e,by omega,r⟩
theorem Own.free {w : World} {base g n cap : Nat} {L : List Int} (h : Own w base (.slice (some ⟨g,0,none⟩) n cap) L) (j : Nat) : w.frozen? ⟨g,j,none⟩ = false:=by
 obtain ⟨a,c',e,_⟩:=h.form
 cases e
 exact World.ownsRow.frozenAt h j
theorem Own.at {w : World} {base g n cap i : Nat} {L : List Int} (h : Own w base (.slice (some ⟨g,0,none⟩) n cap) L) (hi : i < L.length) :
  w.cell? ⟨g,i,none⟩ = some (.int .i64 (iat L i)) ∧ w.frozen? ⟨g,i,none⟩ = false:=by
 obtain ⟨a',c',e1,_,_,r,_⟩:=h.form
 cases e1
 obtain ⟨b',o',e2,k0⟩:=r.cell i hi
 cases e2
 exact ⟨by simpa using k0,h.free _⟩
theorem Own.set {w : World} {base g n cap i : Nat} {L : List Int} (h : Own w base (.slice (some ⟨g,0,none⟩) n cap) L) (s : Int) :
  Own (w.setCell ⟨g,i,none⟩ (.int .i64 s)) base (.slice (some ⟨g,0,none⟩) n cap) (L.set i s):=by
 obtain ⟨a,c',e,_⟩:=h.form
 cases e
 have:=(World.ownsRow.stored h i (.int .i64 s)).1
 unfold Own
 rw [List.length_set,icells,List.map_set]
 exact this
theorem ext_iat {L M : List Int} (hl : L.length = M.length) (h : ∀ i,i < L.length → iat L i = iat M i) : L = M:=by
 apply List.ext_getElem hl
 intro i h1 h2
 have:=h i h1
 rwa [iat_at h1,iat_at h2] at this
theorem iat_set {L : List Int} {i j : Nat} {x : Int} (h : i < L.length) : iat (L.set i x) j = if i = j then x else iat L j:=by
 unfold iat
 rw [List.getD_eq_getElem?_getD,List.getD_eq_getElem?_getD,List.getElem?_set]
 by_cases e : i = j
 ·
  subst e; simp [h]
 ·
  simp [e]
structure In (w : World) (a : Option Addr) (cap : Nat) (L : List Int) : Prop where
 rd : Rd w a L
 le : L.length ≤ cap
 cap : cap ≤ 9223372036854775807
theorem iat_take {zs : List Int} {n i : Nat} (h : i < n) : iat (zs.take n) i = iat zs i:=by
 unfold iat
 rw [List.getD_eq_getElem?_getD,List.getD_eq_getElem?_getD,List.getElem?_take,if_pos h]
end Go.Proofs.YtgbnkkjjgodilaaGreatDoor.Iv
