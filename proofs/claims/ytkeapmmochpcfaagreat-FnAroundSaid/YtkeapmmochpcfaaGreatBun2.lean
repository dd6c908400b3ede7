/- The program's next: the first of the first rest, and what is left. -/
import Derived.Test.YtkeapmmochpcfaaGreatBun1
import Derived.Deep.LoopGhost
import Derived.Test.YtkeapmmochpcfaaGreatMem2M
import Derived.Shelf.Spec.SlicesInsert
import Derived.Lib.AppendZerosOnto
import Derived.Laws.CopyRow
import Derived.Deep.RegionLaw
set_option maxRecDepth 100000
set_option maxHeartbeats 32000000
set_option linter.unusedVariables false
namespace Go.Proofs.YtkeapmmochpcfaaGreat.En
open Go.ChangeShapes Go.WideShapes Go.ChangeAt Go.RowKit
open Bk (Bytes okE newB okBk Ris IsJoin joinB lessE)
abbrev zE : Array Value:=#[.string ⟨#[]⟩,.string ⟨#[]⟩,.int .i64 0,.int .i64 0,.bool false]
theorem last_put {w0 w : World} {b g cap n d : Nat} {v0 v1 : Value} (x : Rw) (h : Hp w b g cap n v0 v1) (f : Fr b g w0 w) (hx : Bo.Box w d zE) (hd : w0.heap.size ≤ d) (hb : d ≠ b) (hg : d ≠ g) :
  Hp (((((w.setCell ⟨d,0,none⟩ (.string x.1)).setCell ⟨d,1,none⟩ (.string x.2.1)).setCell ⟨d,2,none⟩ (.int .i64 x.2.2.1)).setCell ⟨d,3,none⟩ (.int .i64 x.2.2.2.1)).setCell ⟨d,4,none⟩ (.bool x.2.2.2.2)) b g cap n v0 v1 ∧
  Fr b g w0 (((((w.setCell ⟨d,0,none⟩ (.string x.1)).setCell ⟨d,1,none⟩ (.string x.2.1)).setCell ⟨d,2,none⟩ (.int .i64 x.2.2.1)).setCell ⟨d,3,none⟩ (.int .i64 x.2.2.2.1)).setCell ⟨d,4,none⟩ (.bool x.2.2.2.2)) ∧
  Bo.Box (((((w.setCell ⟨d,0,none⟩ (.string x.1)).setCell ⟨d,1,none⟩ (.string x.2.1)).setCell ⟨d,2,none⟩ (.int .i64 x.2.2.1)).setCell ⟨d,3,none⟩ (.int .i64 x.2.2.2.1)).setCell ⟨d,4,none⟩ (.bool x.2.2.2.2)) d (rc x) :=
 ⟨((((h.other hb hg 0 _).other hb hg 1 _).other hb hg 2 _).other hb hg 3 _).other hb hg 4 _,
 ((((f.setNew hd 0 _).setNew hd 1 _).setNew hd 2 _).setNew hd 3 _).setNew hd 4 _,
 ((((hx.put 0 _ (by decide) rfl).put 1 _ (by simp) rfl).put 2 _ (by simp) rfl).put 3 _ (by simp) rfl).put 4 _ (by simp) rfl⟩
theorem last_two {w0 w : World} {b g cap d : Nat} {r : Bool} {v0 v1 : Value} (x : Rw) (h : Two w b g cap r v0 v1) (f : Fr b g w0 w) (hx : Bo.Box w d zE) (hd : w0.heap.size ≤ d) (hb : d ≠ b) (hg : d ≠ g) :
  Two (((((w.setCell ⟨d,0,none⟩ (.string x.1)).setCell ⟨d,1,none⟩ (.string x.2.1)).setCell ⟨d,2,none⟩ (.int .i64 x.2.2.1)).setCell ⟨d,3,none⟩ (.int .i64 x.2.2.2.1)).setCell ⟨d,4,none⟩ (.bool x.2.2.2.2)) b g cap r v0 v1 ∧
  Fr b g w0 (((((w.setCell ⟨d,0,none⟩ (.string x.1)).setCell ⟨d,1,none⟩ (.string x.2.1)).setCell ⟨d,2,none⟩ (.int .i64 x.2.2.1)).setCell ⟨d,3,none⟩ (.int .i64 x.2.2.2.1)).setCell ⟨d,4,none⟩ (.bool x.2.2.2.2)) ∧
  Bo.Box (((((w.setCell ⟨d,0,none⟩ (.string x.1)).setCell ⟨d,1,none⟩ (.string x.2.1)).setCell ⟨d,2,none⟩ (.int .i64 x.2.2.1)).setCell ⟨d,3,none⟩ (.int .i64 x.2.2.2.1)).setCell ⟨d,4,none⟩ (.bool x.2.2.2.2)) d (rc x):=by
 cases r with
 | false=>have:=last_put x (h.no rfl) f hx hd hb hg; exact ⟨⟨fun _=>this.1,fun e=>by cases e⟩,this.2⟩
 | true=>have:=last_put x (h.yes rfl) f hx hd hb hg; exact ⟨⟨fun e=>(by cases e),fun _=>this.1⟩,this.2⟩
theorem next_1last {w : World} {b g cap p0 o0 k0 : Nat} {v1 : Value} {x : Rw} (h : Hp w b g cap 1 (sv p0 o0 1 k0) (v1)) (hc : cap ≤ maxLen) (h0 : Rd w (some ⟨p0,o0,none⟩) ([x])) (q0 : p0 ≠ b ∧ p0 ≠ g) :
  Calls Tryz.prog 66 #[.pointer (some ⟨b,0,none⟩)] w fun e w'=>e = .returned (rv x) ∧ (∃ u0 u1,Hp w' b g cap 0 u0 u1) ∧ Fr b g w w':=by
 have HA:=hidIt ((Below.refl w.heap.size w).alloc (Nat.le_refl _) (.cells zE 60))
 have HP:=hidIt (h.kept HA.out)
 have BX:=hidIt (Bo.Box.new w zE 60)
 have hbs : w.heap.size ≠ b:=by have:=h.bl; omega
 have hgs : w.heap.size ≠ g:=by have:=h.gl; omega
 have me:=HP.out.me
 have r0:=HP.out.c0 (by omega)
 have f0:=HP.out.rf 0
 have R0:=hidIt (fun W (k : Fr b g (w.alloc (.cells zE 60)) W)=>cells_one ((h0.kept HA.out).fr k q0.1 q0.2) (by simp))
 have HFA:=hidIt (Fr.of_below (b:=b) (g:=g) HA.out)
 have CP:=hidIt (heap_Pop1 HP.out hc)
 clear h h0
 simp only [show rat [x] 0 = x from rfl] at R0
 go_enter Tryz.func66,Tryz.ntmps66
 go_wp2_with (fail)
 refine CP.out.mono ?_
 rintro e w1 ⟨⟨v,rfl⟩,h1,f1⟩
 obtain ⟨c0,c1,c2,c3,c4⟩:=R0.out _ f1
 have BX1:=hidIt (box_fr BX.out f1 hbs hgs)
 have d0:=BX1.out.c 0 rfl
 have d1:=BX1.out.c 1 rfl
 have d2:=BX1.out.c 2 rfl
 have d3:=BX1.out.c 3 rfl
 have d4:=BX1.out.c 4 rfl
 have fz:=BX1.out.fr
 have HL:=hidIt (last_put (w0:=w) x h1 (HFA.out.trans f1) BX1.out (Nat.le_refl _) hbs hgs)
 clear h1 f1
 obtain ⟨xk,xv,xt,xn,xg⟩:=x
 simp only at c0 c1 c2 c3 c4 HL
 go_wp2_with (fail)
 generalize (((((w1.setCell ⟨w.heap.size,0,none⟩ (.string xk)).setCell ⟨w.heap.size,1,none⟩ (.string xv)).setCell ⟨w.heap.size,2,none⟩ (.int .i64 xt)).setCell ⟨w.heap.size,3,none⟩ (.int .i64 xn)).setCell ⟨w.heap.size,4,none⟩ (.bool xg)) = w9 at HL ⊢
 have BX9:=HL.out.2.2
 have t0:=BX9.c 0 rfl
 have t1:=BX9.c 1 rfl
 have t2:=BX9.c 2 rfl
 have t3:=BX9.c 3 rfl
 have t4:=BX9.c 4 rfl
 refine bodyPost_ret (v:=.agg #[.string xk,.string xv,.int .i64 xt,.int .i64 xn,.bool xg]) (by simp [results,Tryz.results66,go_sem,t0,t1,t2,t3,t4]) rfl ⟨rfl,⟨_,_,HL.out.1⟩,HL.out.2.1⟩
theorem next_2last {w : World} {b g cap p0 o0 k0 p1 o1 n1 k1 : Nat} {x : Rw} (h : Hp w b g cap 2 (sv p0 o0 1 k0) (sv p1 o1 n1 k1)) (hc : cap ≤ maxLen) (h0 : Rd w (some ⟨p0,o0,none⟩) ([x])) (q0 : p0 ≠ b ∧ p0 ≠ g) :
  Calls Tryz.prog 66 #[.pointer (some ⟨b,0,none⟩)] w fun e w'=>e = .returned (rv x) ∧ (∃ u1,Hp w' b g cap 1 (sv p1 o1 n1 k1) u1) ∧ Fr b g w w':=by
 have HA:=hidIt ((Below.refl w.heap.size w).alloc (Nat.le_refl _) (.cells zE 60))
 have HP:=hidIt (h.kept HA.out)
 have BX:=hidIt (Bo.Box.new w zE 60)
 have hbs : w.heap.size ≠ b:=by have:=h.bl; omega
 have hgs : w.heap.size ≠ g:=by have:=h.gl; omega
 have me:=HP.out.me
 have r0:=HP.out.c0 (by omega)
 have f0:=HP.out.rf 0
 have R0:=hidIt (fun W (k : Fr b g (w.alloc (.cells zE 60)) W)=>cells_one ((h0.kept HA.out).fr k q0.1 q0.2) (by simp))
 have HFA:=hidIt (Fr.of_below (b:=b) (g:=g) HA.out)
 have CP:=hidIt (heap_Pop2 HP.out hc)
 clear h h0
 simp only [show rat [x] 0 = x from rfl] at R0
 go_enter Tryz.func66,Tryz.ntmps66
 go_wp2_with (fail)
 refine CP.out.mono ?_
 rintro e w1 ⟨⟨v,rfl⟩,h1,f1⟩
 obtain ⟨c0,c1,c2,c3,c4⟩:=R0.out _ f1
 have BX1:=hidIt (box_fr BX.out f1 hbs hgs)
 have d0:=BX1.out.c 0 rfl
 have d1:=BX1.out.c 1 rfl
 have d2:=BX1.out.c 2 rfl
 have d3:=BX1.out.c 3 rfl
 have d4:=BX1.out.c 4 rfl
 have fz:=BX1.out.fr
 have HL:=hidIt (last_put (w0:=w) x h1 (HFA.out.trans f1) BX1.out (Nat.le_refl _) hbs hgs)
 clear h1 f1
 obtain ⟨xk,xv,xt,xn,xg⟩:=x
 simp only at c0 c1 c2 c3 c4 HL
 go_wp2_with (fail)
 generalize (((((w1.setCell ⟨w.heap.size,0,none⟩ (.string xk)).setCell ⟨w.heap.size,1,none⟩ (.string xv)).setCell ⟨w.heap.size,2,none⟩ (.int .i64 xt)).setCell ⟨w.heap.size,3,none⟩ (.int .i64 xn)).setCell ⟨w.heap.size,4,none⟩ (.bool xg)) = w9 at HL ⊢
 have BX9:=HL.out.2.2
 have t0:=BX9.c 0 rfl
 have t1:=BX9.c 1 rfl
 have t2:=BX9.c 2 rfl
 have t3:=BX9.c 3 rfl
 have t4:=BX9.c 4 rfl
 refine bodyPost_ret (v:=.agg #[.string xk,.string xv,.int .i64 xt,.int .i64 xn,.bool xg]) (by simp [results,Tryz.results66,go_sem,t0,t1,t2,t3,t4]) rfl ⟨rfl,⟨_,HL.out.1⟩,HL.out.2.1⟩
theorem next_1more {w : World} {b g cap p0 o0 k0 m : Nat} {v1 : Value} {x y : Rw} {L : List Rw} (h : Hp w b g cap 1 (sv p0 o0 (m + 2) k0) (v1)) (hc : cap ≤ maxLen) (h0 : Rd w (some ⟨p0,o0,none⟩) (x :: y :: L)) (q0 : p0 ≠ b ∧ p0 ≠ g) (hm : L.length = m) (hk : m + 2 ≤ k0) :
  Calls Tryz.prog 66 #[.pointer (some ⟨b,0,none⟩)] w fun e w'=>e = .returned (rv x) ∧ (∃ u1,Hp w' b g cap 1 (sv p0 (o0 + 5) (m + 1) (k0 - 1)) u1) ∧ Fr b g w w':=by
 have HA:=hidIt ((Below.refl w.heap.size w).alloc (Nat.le_refl _) (.cells zE 60))
 have HP:=hidIt (h.kept HA.out)
 have BX:=hidIt (Bo.Box.new w zE 60)
 have hbs : w.heap.size ≠ b:=by have:=h.bl; omega
 have hgs : w.heap.size ≠ g:=by have:=h.gl; omega
 have me:=HP.out.me
 have r0:=HP.out.c0 (by omega)
 have f0:=HP.out.rf 0
 have R0:=hidIt (fun W (k : Fr b g (w.alloc (.cells zE 60)) W)=>cells_one ((h0.kept HA.out).fr k q0.1 q0.2) (by simp))
 have HFA:=hidIt (Fr.of_below (b:=b) (g:=g) HA.out)
 have HS:=hidIt ((HP.out.put0 (by omega) (sv p0 (o0 + 5) (m + 1) (k0 - 1))).drew)
 have HFS:=hidIt (((Fr.refl b g (w.alloc (.cells zE 60))).setG 0 (sv p0 (o0 + 5) (m + 1) (k0 - 1))).drew)
 have CF:=hidIt (heap_Fix1 HS.out)
 clear h h0
 simp only [show rat (x :: y :: L) 0 = x from rfl] at R0
 have hk1 : (1 : Int) ≤ ((m + 2 : Nat) : Int):=by omega
 have hk2 : ((m + 2 : Nat) : Int) ≤ (k0 : Int):=by omega
 have hk3 : ¬ ((m + 2 : Nat) : Int) = 1:=by omega
 have hk4 : ((m + 2 : Nat) == 1) = false:=by simp
 clear hm q0
 go_enter Tryz.func66,Tryz.ntmps66
 go_wp2_with (fail)
 go_big_region
 go_wp2_with (fail)
 refine CF.out.mono ?_
 rintro e w1 ⟨rfl,ew⟩
 have h1:=HS.out
 have f2:=HFS.out
 rw [← ew] at h1 f2
 clear ew HS HFS CF
 obtain ⟨c0,c1,c2,c3,c4⟩:=R0.out _ f2
 have BX1:=hidIt (box_fr BX.out f2 hbs hgs)
 have d0:=BX1.out.c 0 rfl
 have d1:=BX1.out.c 1 rfl
 have d2:=BX1.out.c 2 rfl
 have d3:=BX1.out.c 3 rfl
 have d4:=BX1.out.c 4 rfl
 have fz:=BX1.out.fr
 have HL:=hidIt (last_put (w0:=w) x h1 (HFA.out.trans f2) BX1.out (Nat.le_refl _) hbs hgs)
 clear h1 f2
 obtain ⟨xk,xv,xt,xn,xg⟩:=x
 simp only at c0 c1 c2 c3 c4 HL
 go_wp2_with (fail)
 generalize (((((w1.setCell ⟨w.heap.size,0,none⟩ (.string xk)).setCell ⟨w.heap.size,1,none⟩ (.string xv)).setCell ⟨w.heap.size,2,none⟩ (.int .i64 xt)).setCell ⟨w.heap.size,3,none⟩ (.int .i64 xn)).setCell ⟨w.heap.size,4,none⟩ (.bool xg)) = w9 at HL ⊢
 have BX9:=HL.out.2.2
 have t0:=BX9.c 0 rfl
 have t1:=BX9.c 1 rfl
 have t2:=BX9.c 2 rfl
 have t3:=BX9.c 3 rfl
 have t4:=BX9.c 4 rfl
 refine bodyPost_ret (v:=.agg #[.string xk,.string xv,.int .i64 xt,.int .i64 xn,.bool xg]) (by simp [results,Tryz.results66,go_sem,t0,t1,t2,t3,t4]) rfl ⟨rfl,⟨_,HL.out.1⟩,HL.out.2.1⟩
theorem next_2more {w : World} {b g cap p0 o0 k0 m p1 o1 n1 k1 : Nat} {x y : Rw} {L L1 : List Rw} (h : Hp w b g cap 2 (sv p0 o0 (m + 2) k0) (sv p1 o1 n1 k1)) (hc : cap ≤ maxLen) (h0 : Rd w (some ⟨p0,o0,none⟩) (x :: y :: L)) (q0 : p0 ≠ b ∧ p0 ≠ g) (hm : L.length = m) (hk : m + 2 ≤ k0) (h1 : Rd w (some ⟨p1,o1,none⟩) L1) (e1 : L1.length = n1) (z1 : 0 < n1) (q1 : p1 ≠ b ∧ p1 ≠ g) :
  Calls Tryz.prog 66 #[.pointer (some ⟨b,0,none⟩)] w fun e w'=>e = .returned (rv x) ∧ Two w' b g cap (lessE (toE (rat L1 0)) (toE y)) (sv p0 (o0 + 5) (m + 1) (k0 - 1)) (sv p1 o1 n1 k1) ∧ Fr b g w w':=by
 have HA:=hidIt ((Below.refl w.heap.size w).alloc (Nat.le_refl _) (.cells zE 60))
 have HP:=hidIt (h.kept HA.out)
 have BX:=hidIt (Bo.Box.new w zE 60)
 have hbs : w.heap.size ≠ b:=by have:=h.bl; omega
 have hgs : w.heap.size ≠ g:=by have:=h.gl; omega
 have me:=HP.out.me
 have r0:=HP.out.c0 (by omega)
 have f0:=HP.out.rf 0
 have R0:=hidIt (fun W (k : Fr b g (w.alloc (.cells zE 60)) W)=>cells_one ((h0.kept HA.out).fr k q0.1 q0.2) (by simp))
 have HFA:=hidIt (Fr.of_below (b:=b) (g:=g) HA.out)
 have HS:=hidIt ((HP.out.put0 (by omega) (sv p0 (o0 + 5) (m + 1) (k0 - 1))).drew)
 have HFS:=hidIt (((Fr.refl b g (w.alloc (.cells zE 60))).setG 0 (sv p0 (o0 + 5) (m + 1) (k0 - 1))).drew)
 have CF:=hidIt (heap_Fix2 (L0:=y :: L) (L1:=L1) HS.out (((h0.kept HA.out).tail).fr HFS.out q0.1 q0.2) ((h1.kept HA.out).fr HFS.out q1.1 q1.2) (by simp [hm]) e1 (by omega) z1)
 clear h h0 h1 e1 z1 q1
 simp only [show rat (y :: L) 0 = y from rfl] at CF
 generalize lessE (toE (rat L1 0)) (toE y) = r at CF ⊢
 simp only [show rat (x :: y :: L) 0 = x from rfl] at R0
 have hk1 : (1 : Int) ≤ ((m + 2 : Nat) : Int):=by omega
 have hk2 : ((m + 2 : Nat) : Int) ≤ (k0 : Int):=by omega
 have hk3 : ¬ ((m + 2 : Nat) : Int) = 1:=by omega
 have hk4 : ((m + 2 : Nat) == 1) = false:=by simp
 clear hm q0
 go_enter Tryz.func66,Tryz.ntmps66
 go_wp2_with (fail)
 go_big_region
 go_wp2_with (fail)
 refine CF.out.mono ?_
 rintro e w1 ⟨rfl,h1,f1⟩
 have f2:=HFS.out.trans f1
 obtain ⟨c0,c1,c2,c3,c4⟩:=R0.out _ f2
 have BX1:=hidIt (box_fr BX.out f2 hbs hgs)
 have d0:=BX1.out.c 0 rfl
 have d1:=BX1.out.c 1 rfl
 have d2:=BX1.out.c 2 rfl
 have d3:=BX1.out.c 3 rfl
 have d4:=BX1.out.c 4 rfl
 have fz:=BX1.out.fr
 have HL:=hidIt (last_two (w0:=w) x h1 (HFA.out.trans f2) BX1.out (Nat.le_refl _) hbs hgs)
 clear h1 f1 f2
 obtain ⟨xk,xv,xt,xn,xg⟩:=x
 simp only at c0 c1 c2 c3 c4 HL
 go_wp2_with (fail)
 generalize (((((w1.setCell ⟨w.heap.size,0,none⟩ (.string xk)).setCell ⟨w.heap.size,1,none⟩ (.string xv)).setCell ⟨w.heap.size,2,none⟩ (.int .i64 xt)).setCell ⟨w.heap.size,3,none⟩ (.int .i64 xn)).setCell ⟨w.heap.size,4,none⟩ (.bool xg)) = w9 at HL ⊢
 have BX9:=HL.out.2.2
 have t0:=BX9.c 0 rfl
 have t1:=BX9.c 1 rfl
 have t2:=BX9.c 2 rfl
 have t3:=BX9.c 3 rfl
 have t4:=BX9.c 4 rfl
 refine bodyPost_ret (v:=.agg #[.string xk,.string xv,.int .i64 xt,.int .i64 xn,.bool xg]) (by simp [results,Tryz.results66,go_sem,t0,t1,t2,t3,t4]) rfl ⟨rfl,HL.out.1,HL.out.2.1⟩
end Go.Proofs.YtkeapmmochpcfaaGreat.En
namespace Go.Proofs.YtkeapmmochpcfaaGreat.En
open Go.ChangeShapes Go.WideShapes Go.ChangeAt Go.RowKit
open Bk (Bytes okE newB okBk Ris IsJoin joinB lessE Mg putE)
structure El (w : World) (base p o k : Nat) (X : List Rw) : Prop where
 rd : Rd w (some ⟨p,o,none⟩) X
 lt : p < base
 pos : 0 < X.length
 cap : X.length ≤ k
theorem El.fr {w w' : World} {base p o k b g : Nat} {X : List Rw} (h : El w base p o k X) (f : Fr b g w w') (hb : base ≤ b) (hg : base ≤ g) : El w' base p o k X :=
 ⟨h.rd.fr f (by have:=h.lt; omega) (by have:=h.lt; omega),h.lt,h.pos,h.cap⟩
theorem El.low {w w' : World} {base p o k : Nat} {X : List Rw} (h : El w base p o k X) (f : Below base w w') : El w' base p o k X :=
 ⟨h.rd.kept' f h.lt,h.lt,h.pos,h.cap⟩
structure Sta.Rules (w : World) (base b g : Nat) (C : List Rw → List Rw → Prop) : Prop where
 zero : ∀ (a : Option Addr) (cap : Nat),w.cell? ⟨b,0,none⟩ = some (.slice a 0 cap) → C [] []
 one : ∀ (cap p o k : Nat) (X : List Rw) (u : Value),Hp w b g cap 1 (sv p o X.length k) u → cap ≤ maxLen → El w base p o k X → C X []
 two : ∀ (cap p0 o0 k0 p1 o1 k1 : Nat) (X Y : List Rw),Hp w b g cap 2 (sv p0 o0 X.length k0) (sv p1 o1 Y.length k1) → cap ≤ maxLen → El w base p0 o0 k0 X → El w base p1 o1 k1 Y → lessE (toE (rat Y 0)) (toE (rat X 0)) = false → C X Y
def Sta (w : World) (base b g : Nat) (X : List Rw) (Y : List Rw) : Prop:=∀ C,Sta.Rules w base b g C → C X Y
theorem Sta.zero {w : World} {base b g : Nat} (a : Option Addr) (cap : Nat) (h0 : w.cell? ⟨b,0,none⟩ = some (.slice a 0 cap)) : Sta w base b g [] []:=fun _ r=>r.zero a cap h0
theorem Sta.one {w : World} {base b g : Nat} (cap p o k : Nat) (X : List Rw) (u : Value) (h0 : Hp w b g cap 1 (sv p o X.length k) u) (h1 : cap ≤ maxLen) (h2 : El w base p o k X) : Sta w base b g X []:=fun _ r=>r.one cap p o k X u h0 h1 h2
theorem Sta.two {w : World} {base b g : Nat} (cap p0 o0 k0 p1 o1 k1 : Nat) (X Y : List Rw) (h0 : Hp w b g cap 2 (sv p0 o0 X.length k0) (sv p1 o1 Y.length k1)) (h1 : cap ≤ maxLen) (h2 : El w base p0 o0 k0 X) (h3 : El w base p1 o1 k1 Y) (h4 : lessE (toE (rat Y 0)) (toE (rat X 0)) = false) : Sta w base b g X Y:=fun _ r=>r.two cap p0 o0 k0 p1 o1 k1 X Y h0 h1 h2 h3 h4
theorem Sta.elim {w : World} {base b g : Nat} {motive : ∀ X Y,Sta w base b g X Y → Prop}
  (zero : ∀ (a : Option Addr) (cap : Nat) (h0 : w.cell? ⟨b,0,none⟩ = some (.slice a 0 cap)),motive [] [] (.zero a cap h0))
  (one : ∀ (cap p o k : Nat) (X : List Rw) (u : Value) (h0 : Hp w b g cap 1 (sv p o X.length k) u) (h1 : cap ≤ maxLen) (h2 : El w base p o k X),motive X [] (.one cap p o k X u h0 h1 h2))
  (two : ∀ (cap p0 o0 k0 p1 o1 k1 : Nat) (X Y : List Rw) (h0 : Hp w b g cap 2 (sv p0 o0 X.length k0) (sv p1 o1 Y.length k1)) (h1 : cap ≤ maxLen) (h2 : El w base p0 o0 k0 X) (h3 : El w base p1 o1 k1 Y) (h4 : lessE (toE (rat Y 0)) (toE (rat X 0)) = false),motive X Y (.two cap p0 o0 k0 p1 o1 k1 X Y h0 h1 h2 h3 h4)) {X Y} (t : Sta w base b g X Y) : motive X Y t :=
 t (fun X Y=>∀ t,motive X Y t) ⟨fun a cap h0 _=>zero a cap h0,fun cap p o k X u h0 h1 h2 _=>one cap p o k X u h0 h1 h2,fun cap p0 o0 k0 p1 o1 k1 X Y h0 h1 h2 h3 h4 _=>two cap p0 o0 k0 p1 o1 k1 X Y h0 h1 h2 h3 h4⟩ t
theorem Sta.kept {w w' : World} {base b g : Nat} {X Y : List Rw} (h : Sta w base b g X Y) (k : Below w.heap.size w w') : Sta w' base b g X Y:=by
 have low : ∀ {p o c : Nat} {Z : List Rw},El w base p o c Z → El w' base p o c Z:=fun e=>⟨e.rd.kept k,e.lt,e.pos,e.cap⟩
 cases h using Sta.elim with
 | zero a cap h=>exact .zero a cap (by rw [k.cell (by simpa using cell_block h)]; exact h)
 | one cap p o c X u h hc hx=>exact .one cap p o c X u (h.kept k) hc (low hx)
 | two cap p0 o0 k0 p1 o1 k1 X Y h hc hx hy ht=>exact .two cap p0 o0 k0 p1 o1 k1 X Y (h.kept k) hc (low hx) (low hy) ht
theorem lessE_asymm {a b : Bk.En} (h : lessE a b = true) : lessE b a = false:=by
 unfold lessE at h ⊢
 rw [Bool.or_eq_true,decide_eq_true_eq,Bool.and_eq_true,decide_eq_true_eq] at h
 rcases h with h | ⟨h1,h2⟩
 ·
  rw [decide_eq_false (fun k=>List.lt_irrefl _ (List.lt_trans h k)),decide_eq_false (fun k=>by rw [k] at h; exact List.lt_irrefl _ h)]
  rfl
 ·
  rw [h1,decide_eq_false (List.lt_irrefl _),Bk.new_asymm h2]
  simp
theorem Sta.nil_right {w : World} {base b g : Nat} {Y : List Rw} (h : Sta w base b g [] Y) : Y = [] ∧ ∃ a cap,w.cell? ⟨b,0,none⟩ = some (.slice a 0 cap):=by
 cases h using Sta.elim with
 | zero a cap h=>exact ⟨rfl,a,cap,h⟩
 | one cap p o c X u h hc hx=>have:=hx.pos; simp at this
 | two cap p0 o0 k0 p1 o1 k1 X Y h hc hx hy ht=>have:=hx.pos; simp at this
theorem Sta.len {w : World} {base b g : Nat} {x : Rw} {X Y : List Rw} (h : Sta w base b g (x :: X) Y) : ∃ a n cap,w.cell? ⟨b,0,none⟩ = some (.slice a n cap) ∧ 0 < n ∧ n ≤ 2:=by
 cases h using Sta.elim with
 | one cap p o c X u h hc hx=>exact ⟨_,1,_,h.me,by omega,by omega⟩
 | two cap p0 o0 k0 p1 o1 k1 X Y h hc hx hy ht=>exact ⟨_,2,_,h.me,by omega,by omega⟩
theorem Sta.top {w : World} {base b g : Nat} {x : Rw} {X Y : List Rw} (h : Sta w base b g (x :: X) Y) : ∀ y,(toB Y).head? = some y → lessE y (toE x) = false:=by
 cases h using Sta.elim with
 | one cap p o c X u h hc hx=>intro y hy; simp at hy
 | two cap p0 o0 k0 p1 o1 k1 X Y h hc hx hy ht =>
  intro y hy'
  cases Y with
  | nil=>simp at hy'
  | cons y0 Y =>
   simp at hy'
   rw [← hy']
   exact ht
theorem next_any {w : World} {base b g : Nat} {x : Rw} {X Y : List Rw} (h : Sta w base b g (x :: X) Y) (hb : base ≤ b) (hg : base ≤ g) :
  Calls Tryz.prog 66 #[.pointer (some ⟨b,0,none⟩)] w fun e w'=>e = .returned (rv x) ∧ (Sta w' base b g X Y ∨ Sta w' base b g Y X) ∧ Fr b g w w':=by
 cases h using Sta.elim with
 | one cap p o c XX u h hc hx =>
  have q : p ≠ b ∧ p ≠ g:=⟨by have:=hx.lt; omega,by have:=hx.lt; omega⟩
  cases X with
  | nil =>
   refine (next_1last h hc hx.rd q).mono ?_
   rintro e w1 ⟨rfl,⟨u0,u1,h1⟩,f1⟩
   exact ⟨rfl,.inl (.zero _ _ h1.me),f1⟩
  | cons y L =>
   refine (next_1more (m:=L.length) h hc hx.rd q rfl hx.cap).mono ?_
   rintro e w1 ⟨rfl,⟨u1,h1⟩,f1⟩
   have hx':=hx.fr f1 hb hg
   exact ⟨rfl,.inl (.one cap p (o + 5) (c - 1) (y :: L) u1 h1 hc ⟨hx'.rd.tail,hx.lt,by simp,by have:=hx.cap; simp at this ⊢; omega⟩),f1⟩
 | two cap p0 o0 k0 p1 o1 k1 XX YY h hc hx hy ht =>
  have q : p0 ≠ b ∧ p0 ≠ g:=⟨by have:=hx.lt; omega,by have:=hx.lt; omega⟩
  have q1 : p1 ≠ b ∧ p1 ≠ g:=⟨by have:=hy.lt; omega,by have:=hy.lt; omega⟩
  cases X with
  | nil =>
   refine (next_2last h hc hx.rd q).mono ?_
   rintro e w1 ⟨rfl,⟨u1,h1⟩,f1⟩
   exact ⟨rfl,.inr (.one cap p1 o1 k1 Y u1 h1 hc (hy.fr f1 hb hg)),f1⟩
  | cons y L =>
   refine (next_2more (m:=L.length) h hc hx.rd q rfl hx.cap hy.rd rfl hy.pos q1).mono ?_
   rintro e w1 ⟨rfl,h1,f1⟩
   have hx':=hx.fr f1 hb hg
   have hx2 : El w1 base p0 (o0 + 5) (k0 - 1) (y :: L):=⟨hx'.rd.tail,hx.lt,by simp,by have:=hx.cap; simp at this ⊢; omega⟩
   refine ⟨rfl,?_,f1⟩
   cases hr : lessE (toE (rat Y 0)) (toE y) with
   | false=>exact .inl (.two cap p0 (o0 + 5) (k0 - 1) p1 o1 k1 (y :: L) Y (h1.no hr) hc hx2 (hy.fr f1 hb hg) hr)
   | true=>exact .inr (.two cap p1 o1 k1 p0 (o0 + 5) (k0 - 1) Y (y :: L) (h1.yes hr) hc (hy.fr f1 hb hg) hx2 (lessE_asymm hr))
theorem Rs.zero {w : World} {base b : Nat} (h : Rs w base b []) : ∃ a cap,w.cell? ⟨b,0,none⟩ = some (.slice a 0 cap):=by
 obtain ⟨le,v,hb,ho⟩:=h
 have c : w.cell? ⟨b,0,none⟩ = some v:=by rw [Go.Lib.cell_of_heap hb]; rfl
 rcases ho.2 with ⟨e,_⟩ | ⟨g,cap,cur,e,_⟩
 ·
  exact ⟨_,_,by rw [c,e]⟩
 ·
  exact ⟨_,_,by rw [c,e]; rfl⟩
theorem Rs.start (w : World) : Rs ((w.alloc (.cells #[] 29)).alloc (.cells #[.slice (some ⟨w.heap.size,0,none⟩) 0 0] 97)) w.heap.size (w.heap.size + 1) []:=by
 refine ⟨by omega,.slice (some ⟨w.heap.size,0,none⟩) 0 0,?_,?_⟩
 ·
  have:=heap_alloc_new (w.alloc (.cells #[] 29)) (.cells #[.slice (some ⟨w.heap.size,0,none⟩) 0 0] 97)
  simpa using this
 ·
  have h0 : (w.alloc (.cells #[] 29)).ownsRow w.heap.size 29 1 (.slice (some ⟨w.heap.size,0,none⟩) 0 0) 0 []:=World.ownsRow_made w #[] 0 (Nat.le_refl _) (by decide) rfl
  exact World.ownsRow.alloc h0 _
def Half (w : World) (base b : Nat) (a : Option Addr) (ca : Nat) (A : List Rw) : Prop:=(A = [] ∧ Rs w base b []) ∨ (A ≠ [] ∧ ∃ p o,a = some ⟨p,o,none⟩ ∧ Rs w base b [sv p o A.length ca])
def Made (w : World) (base b : Nat) (A B : List Rw) : Prop:=∃ g X Y,base ≤ g ∧ Sta w base b g X Y ∧ g < w.heap.size ∧ ((X = A ∧ Y = B) ∨ (X = B ∧ Y = A))
theorem made_two {w : World} {base b g cap p0 o0 k0 p1 o1 k1 : Nat} {A B : List Rw} (hg : base ≤ g) (hc : cap ≤ maxLen) (t : Two w b g cap (lessE (toE (rat B 0)) (toE (rat A 0))) (sv p0 o0 A.length k0) (sv p1 o1 B.length k1)) (hA : El w base p0 o0 k0 A) (hB : El w base p1 o1 k1 B) : Made w base b A B:=by
 cases hr : lessE (toE (rat B 0)) (toE (rat A 0)) with
 | false=>exact ⟨g,A,B,hg,.two cap p0 o0 k0 p1 o1 k1 A B (t.no hr) hc hA hB hr,(t.no hr).gl,.inl ⟨rfl,rfl⟩⟩
 | true=>exact ⟨g,B,A,hg,.two cap p1 o1 k1 p0 o0 k0 B A (t.yes hr) hc hB hA (lessE_asymm hr),(t.yes hr).gl,.inr ⟨rfl,rfl⟩⟩
theorem made_one {w : World} {base b p o k : Nat} {A : List Rw} (h : Rs w base b [sv p o A.length k]) (hA : El w base p o k A) : Made w base b A []:=by
 obtain ⟨g,cap,hg,hc,hp⟩:=h.hp (by simp)
 exact ⟨g,A,[],hg,.one cap p o k A _ hp hc hA,hp.gl,.inl ⟨rfl,rfl⟩⟩
theorem made_swap {w : World} {base b : Nat} {A B : List Rw} (h : Made w base b A B) : Made w base b B A:=by
 obtain ⟨g,X,Y,h1,h2,h3,h4⟩:=h
 exact ⟨g,X,Y,h1,h2,h3,h4.symm⟩
theorem made_none {w : World} {base b : Nat} (h : Rs w base b []) (hl : base < w.heap.size) : Made w base b [] []:=by
 obtain ⟨a,cap,hc⟩:=h.zero
 exact ⟨base,[],[],Nat.le_refl _,.zero a cap hc,hl,.inl ⟨rfl,rfl⟩⟩
theorem el_of {w : World} {a : Option Addr} {c : Nat} {A : List Rw} (h : Rd w a A) (hl : A ≠ []) (hc : A.length ≤ c) : ∃ p o,a = some ⟨p,o,none⟩ ∧ El w w.heap.size p o c A:=by
 have hp : 0 < A.length:=List.length_pos_iff.2 hl
 obtain ⟨p,o,e,hcell⟩:=h.cell 0 hp
 subst e
 exact ⟨p,o,rfl,h,cell_block (hcell 0 (by omega)),hp,hc⟩
theorem impl_restsOf {w : World} {q ca cb : Nat} {a b : Option Addr} {A B : List Rw} (hq : w.cell? ⟨q,0,none⟩ = some (.slice a A.length ca) ∧ w.cell? ⟨q,1,none⟩ = some (.slice b B.length cb)) (hA : Rd w a A) (hB : Rd w b B) (la : A.length ≤ ca) (lb : B.length ≤ cb) :
  Calls Tryz.prog 40 #[.slice (some ⟨q,0,none⟩) 2 2] w fun e w'=>e = .returned (.pointer (some ⟨w.heap.size + 1,0,none⟩)) ∧ Made w' w.heap.size (w.heap.size + 1) A B ∧ Below w.heap.size w w':=by
 obtain ⟨hq0,hq1⟩:=hq
 have hql:=cell_block hq0
 have Q0:=hidIt (fun W (k : Below w.heap.size w W)=>(k.cell (p:=⟨q,0,none⟩) hql).trans hq0)
 have Q1:=hidIt (fun W (k : Below w.heap.size w W)=>(k.cell (p:=⟨q,1,none⟩) hql).trans hq1)
 have HS:=hidIt (Rs.start w)
 have HB0:=hidIt (((Below.refl w.heap.size w).alloc (Nat.le_refl _) (.cells #[] 29)).alloc (by simp) (.cells #[.slice (some ⟨w.heap.size,0,none⟩) 0 0] 97))
 have HEA:=hidIt (fun h=>el_of hA h la)
 have HEB:=hidIt (fun h=>el_of hB h lb)
 clear hq0 hq1 hql hA hB la lb
 go_enter Tryz.func40,Tryz.ntmps40
 go_wp2_with (fail)
 have HW0 : Hid (w.heap.size < ((w.alloc (.cells #[] 29)).alloc (.cells #[.slice (some ⟨w.heap.size,0,none⟩) 0 0] 97)).heap.size):=hidIt (by simp; omega)
 generalize (w.alloc (.cells #[] 29)).alloc (.cells #[.slice (some ⟨w.heap.size,0,none⟩) 0 0] 97) = w1 at HS HB0 HW0 ⊢
 go_loopw [10] (fun y wx=>(y = .int .i64 0 ∧ Hid (wx = w1)) ∨ (y = .int .i64 1 ∧ Hid (Half wx w.heap.size (w.heap.size + 1) a ca A) ∧ Hid (Below w.heap.size w wx) ∧ Hid (w.heap.size < wx.heap.size)) ∨ (y = .int .i64 2 ∧ Hid (Made wx w.heap.size (w.heap.size + 1) A B) ∧ Hid (Below w.heap.size w wx))) (fun y _=>(2 - intOf y).toNat)
 case atStart=>exact .inl ⟨rfl,hidIt rfl⟩
 case round =>
  rcases hrel with ⟨rfl,HW⟩ | ⟨rfl,HA,HB,HZ⟩ | ⟨rfl,HM,HB⟩
  ·
   have ew:=HW.out
   subst ew
   have c0:=Q0.out _ HB0.out
   by_cases hn : A = []
   ·
    subst hn
    simp only [List.length_nil] at c0
    go_wp2_with (fail)
    exact ⟨.inr (.inl ⟨rfl,hidIt (.inl ⟨rfl,HS.out⟩),HB0,HW0⟩),by simp [intOf]⟩
   ·
    obtain ⟨p,o,ea,eA⟩:=HEA.out hn
    subst ea
    have CP:=hidIt (heap_Push0 (p:=p) (o:=o) (n:=A.length) (c:=ca) HS.out HB0.out.size)
    have hp:=eA.pos
    have hp' : (0 : Int) < (A.length : Int):=by omega
    have HNA:=hidIt hn
    clear hn
    go_wp2_with (fail)
    refine CP.out.mono ?_
    rintro e w2 ⟨rfl,r2,k2⟩
    have HR2:=hidIt r2
    have HB2:=hidIt (HB0.out.trans k2)
    have HZ2:=hidIt (Nat.lt_of_lt_of_le HW0.out k2.size)
    clear r2 k2
    go_wp2_with (fail)
    exact ⟨.inr (.inl ⟨rfl,hidIt (.inr ⟨HNA.out,p,o,rfl,HR2.out⟩),HB2,HZ2⟩),by simp [intOf]⟩
  ·
   have c1:=Q1.out _ HB.out
   by_cases hn : B = []
   ·
    subst hn
    simp only [List.length_nil] at c1
    have HM : Hid (Made wr w.heap.size (w.heap.size + 1) A []):=hidIt (by
     rcases HA.out with ⟨rfl,r⟩ | ⟨hn,p,o,ea,r⟩
     ·
      exact made_none r HZ.out
     ·
      obtain ⟨p',o',ea',eA⟩:=HEA.out hn
      rw [ea] at ea'
      cases ea'
      exact made_one r (eA.low HB.out))
    go_wp2_with (fail)
    exact ⟨.inr (.inr ⟨rfl,HM,HB⟩),by simp [intOf]⟩
   ·
    obtain ⟨p,o,ea,eB⟩:=HEB.out hn
    subst ea
    have hp:=eB.pos
    have hp' : (0 : Int) < (B.length : Int):=by omega
    have CP : Hid (Calls Tryz.prog 67 #[hI (w.heap.size + 1),.iface 29 (sv p o B.length cb)] wr fun e w'=>e = .returned (.tuple #[]) ∧ Made w' w.heap.size (w.heap.size + 1) A B ∧ Below w.heap.size wr w'):=hidIt (by
     rcases HA.out with ⟨hA0,r⟩ | ⟨hA1,p',o',ea,r⟩
     ·
      refine (heap_Push0 (p:=p) (o:=o) (n:=B.length) (c:=cb) r HB.out.size).mono ?_
      rintro e w2 ⟨rfl,r2,k2⟩
      refine ⟨rfl,?_,k2⟩
      rw [hA0]
      exact made_swap (made_one r2 (eB.low (HB.out.trans k2)))
     ·
      obtain ⟨p2,o2,ea2,eA⟩:=HEA.out hA1
      rw [ea] at ea2
      cases ea2
      have eA1:=eA.low HB.out
      have eB1:=eB.low HB.out
      refine (heap_Push1 (L0:=A) (L1:=B) (k0:=ca) (k1:=cb) r HB.out.size eA1.rd eB1.rd rfl rfl eA1.pos eB1.pos eA1.lt eB1.lt).mono ?_
      rintro e w2 ⟨rfl,⟨g,cap,hg,hc,t⟩,k2⟩
      exact ⟨rfl,made_two hg hc t (eA1.low k2) (eB1.low k2),k2⟩)
    clear hn HA HEA HEB
    go_wp2_with (fail)
    refine CP.out.mono ?_
    rintro e w2 ⟨rfl,r2,k2⟩
    have HR2:=hidIt r2
    have HB2:=hidIt (HB.out.trans k2)
    clear r2 k2
    go_wp2_with (fail)
    exact ⟨.inr (.inr ⟨rfl,HR2,HB2⟩),by simp [intOf]⟩
  ·
   go_wp2_with (fail)
   go_ret
   exact ⟨rfl,HM.out,HB.out⟩
end Go.Proofs.YtkeapmmochpcfaaGreat.En
namespace Go.Proofs.YtkeapmmochpcfaaGreat.En
open Go.ChangeShapes Go.WideShapes Go.ChangeAt Go.RowKit
open Rc (BelowBy BelowBy.one wp_region_below calls_below calls_same)
open Bk (Bytes okE newB okBk Ris IsJoin joinB lessE Mg putE)
theorem put_at {J : List Rw} {j : Nat} (h : J.length = j + 1) : (toB J).getLast? = some (toE (rat J j)):=by
 rw [List.getLast?_eq_getElem?,List.length_map,h,List.getElem?_map]
 simp only [Nat.add_sub_cancel]
 rw [rat_getElem? (by omega)]
 rfl
theorem put_same {J : List Rw} {j : Nat} {x : Rw} (h : J.length = j + 1) (e : bs (rat J j).1 = bs x.1) : putE (toB J) (toE x) = toB J:=by
 unfold putE
 rw [put_at h,if_pos (by simp [toE,e])]
theorem put_more {J : List Rw} {j : Nat} {x : Rw} (h : J.length = j + 1) (e : bs (rat J j).1 ≠ bs x.1) : putE (toB J) (toE x) = toB (J ++ [x]):=by
 unfold putE
 rw [put_at h,if_neg (by simp [toE,e])]
 simp [toB]
theorem put_first {x : Rw} : putE (toB []) (toE x) = toB ([] ++ [x]):=by
 unfold putE
 rw [if_neg (by simp)]
 rfl
def After (w : World) (base b g k : Nat) (A B J : List Bk.En) : Prop:=∃ X Y,Sta w base b g X Y ∧ Mg A B J (toB X) (toB Y) ∧ X.length + Y.length + 1 ≤ k
theorem After.kept {w w' : World} {base b g k : Nat} {A B J : List Bk.En} (h : After w base b g k A B J) (h' : Below w.heap.size w w') : After w' base b g k A B J:=by
 obtain ⟨X,Y,h1,h2,h3⟩:=h
 exact ⟨X,Y,h1.kept h',h2,h3⟩
theorem after_of {w w' : World} {base b g k : Nat} {A B J : List Bk.En} {x : Rw} {X Y : List Rw} (s : Sta w base b g (x :: X) Y) (m : Mg A B J (toB (x :: X)) (toB Y)) (rA : Ris A) (rB : Ris B) (hk : (x :: X).length + Y.length ≤ k) (s1 : Sta w' base b g X Y ∨ Sta w' base b g Y X) : After w' base b g k A B (putE J (toE x)):=by
 have m1:=Mg.step (X:=toB X) (Y:=toB Y) (x:=toE x) m rA rB s.top
 simp at hk
 rcases s1 with s1 | s1
 ·
  exact ⟨X,Y,s1,m1,by omega⟩
 ·
  exact ⟨Y,X,s1,m1.swap,by omega⟩
theorem Hp.low {w w' : World} {b g cap n B : Nat} {v0 v1 : Value} (h : Hp w b g cap n v0 v1) (k : Below B w w') (hb : b < B) (hg : g < B) : Hp w' b g cap n v0 v1 :=
 ⟨h.ne,Nat.lt_of_lt_of_le h.bl k.size,Nat.lt_of_lt_of_le h.gl k.size,h.le,by rw [k.cell (by simpa using hb)]; exact h.me,by rw [k.frozen (by simpa using hb)]; exact h.mf,
  fun i hi=>by rw [k.cell (by simpa using hg)]; exact h.row i hi,fun i=>by rw [k.frozen (by simpa using hg)]; exact h.rf i⟩
theorem Sta.low {w w' : World} {base b g B : Nat} {X Y : List Rw} (h : Sta w base b g X Y) (k : Below B w w') (hb : b < B) (hg : g < B) (hs : base ≤ B) : Sta w' base b g X Y:=by
 have low : ∀ {p o c : Nat} {Z : List Rw},El w base p o c Z → El w' base p o c Z:=fun e=>e.low (k.mono hs)
 cases h using Sta.elim with
 | zero a cap h=>exact .zero a cap (by rw [k.cell (by simpa using hb)]; exact h)
 | one cap p o c X u h hc hx=>exact .one cap p o c X u (h.low k hb hg) hc (low hx)
 | two cap p0 o0 k0 p1 o1 k1 X Y h hc hx hy ht=>exact .two cap p0 o0 k0 p1 o1 k1 X Y (h.low k hb hg) hc (low hx) (low hy) ht
theorem After.low {w w' : World} {base b g k B : Nat} {A B' J : List Bk.En} (h : After w base b g k A B' J) (h' : Below B w w') (hb : b < B) (hg : g < B) (hs : base ≤ B) : After w' base b g k A B' J:=by
 obtain ⟨X,Y,h1,h2,h3⟩:=h
 exact ⟨X,Y,h1.low h' hb hg hs,h2,h3⟩
def Now (w0 w : World) (base b g k : Nat) (A B : List Rw) (v : Value) : Prop:=∃ J X Y,Own w w0.heap.size v J ∧ Sta w base b g X Y ∧ Mg (toB A) (toB B) (toB J) (toB X) (toB Y) ∧ X.length + Y.length ≤ k ∧ Below base w0 w
theorem now_of {w0 w : World} {base b g k : Nat} {A B : List Rw} {J : List Rw} {PJ : List Bk.En} {v : Value} (o : Own w w0.heap.size v J) (a : After w base b g k (toB A) (toB B) PJ) (e : PJ = toB J) (hb : Below base w0 w) : Now w0 w base b g (k - 1) A B v:=by
 obtain ⟨X,Y,s,m,hk⟩:=a
 subst e
 exact ⟨J,X,Y,o,s,m,by omega,hb⟩
theorem impl_newest {w : World} {base b : Nat} {A B : List Rw} (h : Made w base b A B) (hb : base ≤ b) (hbl : b < w.heap.size) (hs : base ≤ w.heap.size) (rA : Ris (toB A)) (rB : Ris (toB B)) (lA : A.length ≤ 80) (lB : B.length ≤ 80) :
  Calls Tryz.prog 39 #[.pointer (some ⟨b,0,none⟩)] w fun e w'=>∃ v J,e = .returned v ∧ Own w' w.heap.size v J ∧ IsJoin (toB A) (toB B) (toB J) ∧ J.length ≤ 160 ∧ Below base w w':=by
 obtain ⟨i0,hi0,hz0,hz1,hz2⟩:=info_parts infoRw
 obtain ⟨g,X,Y,hg,st,hgl,hxy⟩:=h
 have CL:=hidIt (fun a n c W=>rests_Len a n c W)
 have HN0 : Hid (Now w (w.alloc (.cells #[] 60)) base b g (A.length + B.length) A B (.slice (some ⟨w.heap.size,0,none⟩) 0 0)):=hidIt (by
  have ka:=(Below.refl w.heap.size w).alloc (Nat.le_refl _) (.cells #[] 60)
  refine ⟨[],X,Y,Own.new w,st.kept ka,?_,?_,ka.mono hs⟩
  ·
   rcases hxy with ⟨rfl,rfl⟩ | ⟨rfl,rfl⟩
   ·
    exact Mg.start _ _
   ·
    exact (Mg.start _ _).swap
  ·
   rcases hxy with ⟨rfl,rfl⟩ | ⟨rfl,rfl⟩ <;> omega)
 have HRA:=hidIt rA
 have HRB:=hidIt rB
 clear st hxy rA rB
 go_enter Tryz.func39,Tryz.ntmps39
 go_wp2_with (fail)
 generalize w.alloc (.cells #[] 60) = w1 at HN0 ⊢
 go_loopg [3] (A.length + B.length) (fun kx s3 wx=>Hid (Now w wx base b g kx A B s3))
 case atStart=>exact HN0
 case round =>
  obtain ⟨J,X,Y,o1,s1,m1,hk,b1⟩:=hrel.out
  have HO:=hidIt o1
  have HS:=hidIt s1
  have HM:=hidIt m1
  have HB:=hidIt b1
  clear o1 s1 m1 b1 hrel HN0
  cases X with
  | nil =>
   obtain ⟨eY,a,cap,hc⟩:=HS.out.nil_right
   subst eY
   have HJ:=hidIt HM.out.join
   have HJL : Hid (J.length ≤ 160):=hidIt (by have:=HM.out.len; simp at this; omega)
   clear HM HS
   go_wp2_with (fail)
   refine (CL.out _ _ _ _).mono ?_
   rintro e w2 ⟨rfl,rfl⟩
   go_wp2_with (fail)
   go_ret
   exact ⟨_,J,rfl,HO.out,HJ.out,HJL.out,HB.out⟩
  | cons x X =>
   obtain ⟨a,n,cap,hc,hn,hn2⟩:=HS.out.len
   have CN:=hidIt (next_any HS.out hb hg)
   have hn' : (0 : Int) < (n : Int):=by omega
   have HA:=hidIt (fun W s1=>after_of (w':=W) HS.out HM.out HRA.out HRB.out hk s1)
   have HJL : Hid (J.length ≤ 159):=hidIt (by have:=HM.out.len; simp at this; omega)
   have HJK : Hid (gk ≠ 0):=hidIt (by simp at hk; omega)
   clear HS HM hk
   go_wp2_with (fail)
   refine (CL.out _ _ _ _).mono ?_
   rintro e w2 ⟨rfl,rfl⟩
   go_wp2_with (fail)
   refine CN.out.mono ?_
   rintro e w3 ⟨rfl,s3,f3⟩
   have HF3:=hidIt (HA.out _ s3)
   have HO3:=hidIt (HO.out.fr f3 hbl hgl)
   have HB3:=hidIt (HB.out.trans (f3.below hb hg (Nat.le_trans hs HB.out.size)))
   have HZ3:=hidIt (Nat.le_trans HB.out.size f3.size)
   clear s3 f3 HO HB HA CN hc
   have HPS:=hidIt (fun j h e=>put_same (J:=J) (j:=j) (x:=x) h e)
   have HPM:=hidIt (fun j h e=>put_more (J:=J) (j:=j) (x:=x) h e)
   have HPF:=hidIt (fun (e : J = [])=>show putE (toB J) (toE x) = toB (J ++ [x]) by rw [e]; exact put_first)
   generalize putE (toB J) (toE x) = PJ at HF3 HPS HPM HPF
   obtain ⟨xk,xv,xt,xn,xg⟩:=x
   simp only at HPS HPM
   obtain ⟨za,zc,ez,hle,hcm,hrd,_,hsome⟩:=HO3.out.form
   have HFM:=hidIt hrd
   clear hrd hsome
   subst ez
   generalize hjl : J.length = jl at *
   have HJLn:=hidIt hjl
   clear hjl
   go_wp2_with (fail)
   have BX:=hidIt (Bo.Box.new w3 #[.string xk,.string xv,.int .i64 xt,.int .i64 xn,.bool xg] 60)
   have HAl:=hidIt ((Below.refl w3.heap.size w3).alloc (Nat.le_refl _) (.cells #[.string xk,.string xv,.int .i64 xt,.int .i64 xn,.bool xg] 60))
   generalize hz : w3.alloc (.cells #[.string xk,.string xv,.int .i64 xt,.int .i64 xn,.bool xg] 60) = wz at BX HAl ⊢
   clear hz
   have HFz:=hidIt (HF3.out.kept HAl.out)
   have HOz:=hidIt (HO3.out.kept HAl.out)
   have HBz:=hidIt (HB3.out.trans (HAl.out.mono (Nat.le_trans hs HZ3.out)))
   have HZz:=hidIt (Nat.le_trans HZ3.out HAl.out.size)
   have HRz:=hidIt (HFM.out.kept HAl.out)
   clear HF3 HO3 HB3 HZ3 HAl HFM
   haveI:=BelowBy.one wz
   have g0:=fun p : BelowBy wz=>p.cell (BX.out.c 0 rfl)
   generalize hbk : w3.heap.size = bk at BX g0 ⊢
   clear hbk
   rcases Nat.eq_zero_or_pos jl with hj | hj
   ·
    subst hj
    refine wp_region_below (by kernel_rfl) (by kernel_rfl) ?_
    repeat (go_big_quiet_step (fail))
    refine wpQuiet_nil ?_
    intro _ hw'
    obtain ⟨pq,rfl⟩:=hw'
    have kq:=pq.h
    generalize pq.world = w4 at kq ⊢
    have HF4:=hidIt (HFz.out.kept kq)
    have HO4:=hidIt (HOz.out.kept kq)
    have HB4:=hidIt (HBz.out.trans (kq.mono (Nat.le_trans hs HZz.out)))
    have HZ4:=hidIt (Nat.le_trans HZz.out kq.size)
    have BX4:=hidIt (BX.out.kept kq)
    clear kq HFz HOz HBz HZz BX g0
    have t0:=BX4.out.c 0 rfl
    have t1:=BX4.out.c 1 rfl
    have t2:=BX4.out.c 2 rfl
    have t3:=BX4.out.c 3 rfl
    have t4:=BX4.out.c 4 rfl
    have HOw : Hid (w4.ownsRow w.heap.size 60 5 (.slice za 0 zc) 0 (rcells J)):=hidIt (by have:=HO4.out; unfold Own at this; rw [HJLn.out] at this; exact this)
    go_wp2_with (first | (at_builtin; refine wpList_append_own _ rfl _ _ 29 rfl w.heap.size 60 i0 (.agg #[.string ByteArray.empty,.string ByteArray.empty,.int .i64 0,.int .i64 0,.bool false]) 5 56 Tryz.underlying29 hi0 hz0 hz1 hz2 rfl (by decide) _ _ _ rfl (World.ownsRow.alloc HOw.out (.cells #[.string xk,.string xv,.int .i64 xt,.int .i64 xn,.bool xg] 60)) ⟨w4.heap.size,0,none⟩ 1 1 [.string xk,.string xv,.int .i64 xt,.int .i64 xn,.bool xg] rfl rfl (fresh w4 (xk,xv,xt,xn,xg) 60) (rcells_one [(xk,xv,xt,xn,xg)]) ?ca1 ?ca2 ?ca3 ?_))
    case ca1=>unfold maxLen; have:=HJL.out; omega
    case ca2=>have:=HJL.out; omega
    case ca3=>have:=HZ4.out; simp; omega
    intro v' w9 hown hgrow _
    have ka:=(Below.refl w4.heap.size w4).alloc (Nat.le_refl _) (.cells #[.string xk,.string xv,.int .i64 xt,.int .i64 xn,.bool xg] 60)
    have kk:=grown_below (HO4.out.kept ka) (by exact hgrow) (Nat.le_refl _) (Nat.le_trans HZ4.out ka.size)
    have k9:=(ka.mono HZ4.out).trans kk
    have HO9 : Hid (Own w9 w.heap.size v' (J ++ [(xk,xv,xt,xn,xg)])):=hidIt (Own.more (L:=J) (M:=[(xk,xv,xt,xn,xg)]) (by rw [HJLn.out]; exact hown))
    have HF9:=hidIt (HF4.out.low k9 hbl hgl hs)
    have HB9:=hidIt (HB4.out.trans (k9.mono hs))
    have HE9:=hidIt (HPF.out (List.length_eq_zero_iff.1 HJLn.out))
    clear hown hgrow ka kk k9
    go_wp2_with (fail)
    go_roundg (gk - 1)
    case measure=>have:=HJK.out; omega
    case rel=>exact hidIt (now_of HO9.out HF9.out HE9.out HB9.out)
   ·
    obtain ⟨j,rfl⟩ : ∃ j,jl = j + 1:=⟨jl - 1,by omega⟩
    obtain ⟨zb,zo,eza,l0,_⟩:=HRz.out.all (i:=j) (by rw [HJLn.out]; omega)
    subst eza
    obtain ⟨lk,elk⟩ : ∃ s,(rat J j).1 = s:=⟨_,rfl⟩
    have HPS1:=hidIt (fun e=>HPS.out j rfl e)
    have HPM1:=hidIt (fun e=>HPM.out j rfl e)
    rw [elk] at l0 HPS1 HPM1
    clear elk HPS HPM HPF HRz
    have k0:=fun p : BelowBy wz=>p.cell l0
    clear l0
    have heq:=eq_of lk xk
    have hjz : ((j : Int) + 1 == 0) = false:=by simp; omega
    have hj1 : (j : Int) < (j : Int) + 1:=by omega
    have hj2 : (j : Int) ≤ 200:=by have:=HJL.out; omega
    have hj3 : (0 : Int) ≤ (j : Int):=by omega
    by_cases hk : bs lk = bs xk
    ·
     have HE0:=hidIt (HPS1.out hk)
     rw [decide_eq_true hk] at heq
     clear hk HPS1 HPM1
     refine wp_region_below (by kernel_rfl) (by kernel_rfl) ?_
     repeat (go_big_quiet_step (fail))
     refine wpQuiet_nil ?_
     intro _ hw'
     obtain ⟨pq,rfl⟩:=hw'
     have kq:=pq.h
     generalize pq.world = w4 at kq ⊢
     have HF4:=hidIt (HFz.out.kept kq)
     have HO4:=hidIt (HOz.out.kept kq)
     have HB4:=hidIt (HBz.out.trans (kq.mono (Nat.le_trans hs HZz.out)))
     have HZ4:=hidIt (Nat.le_trans HZz.out kq.size)
     have BX4:=hidIt (BX.out.kept kq)
     clear kq HFz HOz HBz HZz BX g0 k0
     have t0:=BX4.out.c 0 rfl
     have t1:=BX4.out.c 1 rfl
     have t2:=BX4.out.c 2 rfl
     have t3:=BX4.out.c 3 rfl
     have t4:=BX4.out.c 4 rfl
     have HE9:=hidIt (HE0.out)
     go_wp2_with (fail)
     go_roundg (gk - 1)
     case measure=>have:=HJK.out; omega
     case rel=>exact hidIt (now_of HO4.out HF4.out HE9.out HB4.out)
    ·
     have HE0:=hidIt (HPM1.out hk)
     rw [decide_eq_false hk] at heq
     clear hk HPS1 HPM1
     refine wp_region_below (by kernel_rfl) (by kernel_rfl) ?_
     repeat (go_big_quiet_step (fail))
     refine wpQuiet_nil ?_
     intro _ hw'
     obtain ⟨pq,rfl⟩:=hw'
     have kq:=pq.h
     generalize pq.world = w4 at kq ⊢
     have HF4:=hidIt (HFz.out.kept kq)
     have HO4:=hidIt (HOz.out.kept kq)
     have HB4:=hidIt (HBz.out.trans (kq.mono (Nat.le_trans hs HZz.out)))
     have HZ4:=hidIt (Nat.le_trans HZz.out kq.size)
     have BX4:=hidIt (BX.out.kept kq)
     clear kq HFz HOz HBz HZz BX g0 k0
     have t0:=BX4.out.c 0 rfl
     have t1:=BX4.out.c 1 rfl
     have t2:=BX4.out.c 2 rfl
     have t3:=BX4.out.c 3 rfl
     have t4:=BX4.out.c 4 rfl
     have HOw : Hid (w4.ownsRow w.heap.size 60 5 (.slice (some ⟨zb,zo,none⟩) (j + 1) zc) (j + 1) (rcells J)):=hidIt (by have:=HO4.out; unfold Own at this; rw [HJLn.out] at this; exact this)
     go_wp2_with (first | (at_builtin; refine wpList_append_own _ rfl _ _ 29 rfl w.heap.size 60 i0 (.agg #[.string ByteArray.empty,.string ByteArray.empty,.int .i64 0,.int .i64 0,.bool false]) 5 56 Tryz.underlying29 hi0 hz0 hz1 hz2 rfl (by decide) _ _ _ rfl (World.ownsRow.alloc HOw.out (.cells #[.string xk,.string xv,.int .i64 xt,.int .i64 xn,.bool xg] 60)) ⟨w4.heap.size,0,none⟩ 1 1 [.string xk,.string xv,.int .i64 xt,.int .i64 xn,.bool xg] rfl rfl (fresh w4 (xk,xv,xt,xn,xg) 60) (rcells_one [(xk,xv,xt,xn,xg)]) ?cb1 ?cb2 ?cb3 ?_))
     case cb1=>unfold maxLen; have:=HJL.out; omega
     case cb2=>have:=HJL.out; omega
     case cb3=>have:=HZ4.out; simp; omega
     intro v' w9 hown hgrow _
     have ka:=(Below.refl w4.heap.size w4).alloc (Nat.le_refl _) (.cells #[.string xk,.string xv,.int .i64 xt,.int .i64 xn,.bool xg] 60)
     have kk:=grown_below (HO4.out.kept ka) (by exact hgrow) (Nat.le_refl _) (Nat.le_trans HZ4.out ka.size)
     have k9:=(ka.mono HZ4.out).trans kk
     have HO9 : Hid (Own w9 w.heap.size v' (J ++ [(xk,xv,xt,xn,xg)])):=hidIt (Own.more (L:=J) (M:=[(xk,xv,xt,xn,xg)]) (by rw [HJLn.out]; exact hown))
     have HF9:=hidIt (HF4.out.low k9 hbl hgl hs)
     have HB9:=hidIt (HB4.out.trans (k9.mono hs))
     have HE9:=hidIt (HE0.out)
     clear hown hgrow ka kk k9
     go_wp2_with (fail)
     go_roundg (gk - 1)
     case measure=>have:=HJK.out; omega
     case rel=>exact hidIt (now_of HO9.out HF9.out HE9.out HB9.out)
end Go.Proofs.YtkeapmmochpcfaaGreat.En
namespace Go.Proofs.YtkeapmmochpcfaaGreat.En
open Go.ChangeShapes Go.WideShapes Go.ChangeAt Go.RowKit
open Bk (Bytes okE newB okBk look Ris IsJoin joinB)
theorem impl_Joined (aA aB : Option Addr) (cA cB : Nat) (A B : List Rw) (w : World) (hA : Rd w aA A) (hB : Rd w aB B) (leA : A.length ≤ cA) (leB : B.length ≤ cB) (hlA : A.length ≤ 9223372036854775807) (hlB : B.length ≤ 9223372036854775807) (hsA : shortR A) (hsB : shortR B) :
  Calls Tryz.prog 15 #[.slice aA A.length cA,.slice aB B.length cB] w fun e w'=>∃ v J,e = .returned (.tuple #[v,.bool (joinB (toB A) (toB B)).2]) ∧ toB J = (joinB (toB A) (toB B)).1 ∧ Own w' w.heap.size v J ∧ Below w.heap.size w w':=by
 have CA:=hidIt (fun W (r : Rd W aA A)=>impl_BookOk aA cA A W r hlA hsA)
 have CB:=hidIt (fun W (r : Rd W aB B)=>impl_BookOk aB cB B W r hlB hsB)
 have HRA:=hidIt hA
 have HRB:=hidIt hB
 clear hA hB
 cases okA : okBk (toB A) with
 | false =>
  have e : joinB (toB A) (toB B) = ([],false):=by unfold joinB; rw [if_neg (by rw [okA]; simp)]
  rw [e]
  rw [okA] at CA
  clear e okA
  generalize A.length = la at *
  generalize B.length = lb at *
  go_enter Tryz.func15,Tryz.ntmps15
  go_wp2_with (fail)
  refine (CA.out _ HRA.out).mono ?_
  rintro e w1 ⟨rfl,k1⟩
  have HB1:=hidIt k1
  clear k1
  go_wp2_with (fail)
  refine bodyPost_ret (v:=.tuple #[.slice (some ⟨w1.heap.size,0,none⟩) 0 0,.bool false]) (by simp [results,Tryz.results15,go_sem]) rfl ⟨_,[],rfl,rfl,(Own.new w1).mono HB1.out.size,HB1.out.alloc HB1.out.size _⟩
 | true =>
  rw [okA] at CA
  cases okB : okBk (toB B) with
  | false =>
   have e : joinB (toB A) (toB B) = ([],false):=by unfold joinB; rw [if_neg (by rw [okB]; simp)]
   rw [e]
   rw [okB] at CB
   clear e okA okB
   generalize A.length = la at *
   generalize B.length = lb at *
   go_enter Tryz.func15,Tryz.ntmps15
   go_wp2_with (fail)
   refine (CA.out _ HRA.out).mono ?_
   rintro e w1 ⟨rfl,k1⟩
   have HB1:=hidIt k1
   clear k1
   go_wp2_with (fail)
   refine (CB.out _ (HRB.out.kept HB1.out)).mono ?_
   rintro e w2 ⟨rfl,k2⟩
   have HB2:=hidIt (HB1.out.trans (k2.mono HB1.out.size))
   clear k2
   go_wp2_with (fail)
   refine bodyPost_ret (v:=.tuple #[.slice (some ⟨w2.heap.size,0,none⟩) 0 0,.bool false]) (by simp [results,Tryz.results15,go_sem]) rfl ⟨_,[],rfl,rfl,(Own.new w2).mono HB2.out.size,HB2.out.alloc HB2.out.size _⟩
  | true =>
   rw [okB] at CB
   have l1:=Bk.ok_len okA
   have l2:=Bk.ok_len okB
   rw [toB_length] at l1 l2
   have CR:=hidIt (fun W q hq (r1 : Rd W aA A) (r2 : Rd W aB B)=>impl_restsOf (w:=W) (q:=q) (ca:=cA) (cb:=cB) hq r1 r2 leA leB)
   have CJ:=hidIt (fun W base b (m : Made W base b A B) h1 h2 h3=>impl_newest m h1 h2 h3 (Bk.ok_ris okA) (Bk.ok_ris okB) l1 l2)
   have HJ:=hidIt (fun J (h : IsJoin (toB A) (toB B) J)=>Bk.join_of okA okB h)
   clear okA okB hsA hsB
   generalize joinB (toB A) (toB B) = r at HJ ⊢
   generalize A.length = la at *
   generalize B.length = lb at *
   go_enter Tryz.func15,Tryz.ntmps15
   go_wp2_with (fail)
   refine (CA.out _ HRA.out).mono ?_
   rintro e w1 ⟨rfl,k1⟩
   have HB1:=hidIt k1
   clear k1
   go_wp2_with (fail)
   refine (CB.out _ (HRB.out.kept HB1.out)).mono ?_
   rintro e w2 ⟨rfl,k2⟩
   have HB2:=hidIt (HB1.out.trans (k2.mono HB1.out.size))
   clear k2
   have HQ : Hid ((w2.alloc (.cells #[.slice aA la cA,.slice aB lb cB] 29)).cell? ⟨w2.heap.size,0,none⟩ = some (.slice aA la cA) ∧ (w2.alloc (.cells #[.slice aA la cA,.slice aB lb cB] 29)).cell? ⟨w2.heap.size,1,none⟩ = some (.slice aB lb cB)):=hidIt ⟨by simp,by simp⟩
   have HBq:=hidIt (HB2.out.alloc HB2.out.size (.cells #[.slice aA la cA,.slice aB lb cB] 29))
   go_wp2_with (fail)
   refine (CR.out _ _ HQ.out (HRA.out.kept HBq.out) (HRB.out.kept HBq.out)).mono ?_
   generalize w2.alloc (.cells #[.slice aA la cA,.slice aB lb cB] 29) = w3 at HBq ⊢
   clear HQ
   rintro e w4 ⟨rfl,m4,k4⟩
   have HM:=hidIt m4
   have HB4:=hidIt k4
   have HBL : Hid (w3.heap.size + 1 < w4.heap.size):=hidIt (by
    obtain ⟨g,X,Y,hg,st,hgl,_⟩:=m4
    cases st using Sta.elim with
    | zero a cap h=>exact cell_block h
    | one cap p o c X u h hc hx=>exact h.bl
    | two cap p0 o0 k0 p1 o1 k1 X Y h hc hx hy ht=>exact h.bl)
   clear m4 k4
   go_wp2_with (fail)
   refine (CJ.out _ _ _ HM.out (by omega) HBL.out HB4.out.size).mono ?_
   rintro e w5 ⟨v,J,rfl,o5,j5,l5,k5⟩
   have HB5:=hidIt ((HBq.out.trans (HB4.out.mono HBq.out.size)).trans (k5.mono HBq.out.size))
   have HO5:=hidIt (o5.mono (Nat.le_trans HBq.out.size HB4.out.size))
   have HR:=hidIt (HJ.out _ j5)
   clear k5 o5 j5
   obtain ⟨b,cap,rfl,_⟩:=HO5.out.form
   generalize hjl : J.length = lj at *
   have HJL:=hidIt hjl
   clear hjl
   by_cases h80 : lj ≤ 80
   ·
    have h80' : ¬ (80 : Int) < (lj : Int):=by omega
    have er : Hid (r = (toB J,true)):=hidIt (by rw [HR.out,if_pos (by rw [toB_length,HJL.out]; exact h80)])
    go_wp2_with (fail)
    refine bodyPost_ret (v:=.tuple #[.slice b lj cap,.bool true]) (by simp [results,Tryz.results15,go_sem]) rfl ⟨_,J,by rw [er.out],by rw [er.out],HO5.out,HB5.out⟩
   ·
    have h80' : (80 : Int) < (lj : Int):=by omega
    have er : Hid (r = ([],false)):=hidIt (by rw [HR.out,if_neg (by rw [toB_length,HJL.out]; exact h80)])
    go_wp2_with (fail)
    refine bodyPost_ret (v:=.tuple #[.slice (some ⟨w5.heap.size,0,none⟩) 0 0,.bool false]) (by simp [results,Tryz.results15,go_sem]) rfl ⟨_,[],by rw [er.out],by rw [er.out]; rfl,(Own.new w5).mono HB5.out.size,HB5.out.alloc HB5.out.size _⟩
end Go.Proofs.YtkeapmmochpcfaaGreat.En
namespace Go.Proofs.YtkeapmmochpcfaaGreat.Mm
open Go.ChangeShapes Go.WideShapes Go.ChangeAt Go.RowKit
def over (l : List Value) (o : Nat) (cs : List Value) : List Value:=l.take o ++ cs ++ l.drop (o + cs.length)
theorem over_length (l cs : List Value) (o : Nat) (h : o + cs.length ≤ l.length) : (over l o cs).length = l.length:=by
 unfold over
 simp
 omega
theorem over_get (l cs : List Value) (o : Nat) (h : o + cs.length ≤ l.length) (j : Nat) : (over l o cs)[j]? = if o ≤ j ∧ j < o + cs.length then cs[j - o]? else l[j]?:=by
 unfold over
 by_cases h1 : j < o
 ·
  rw [if_neg (by omega),List.append_assoc,List.getElem?_append_left (by simp; omega),List.getElem?_take,if_pos h1]
 ·
  by_cases h2 : j < o + cs.length
  ·
   rw [if_pos ⟨by omega,h2⟩,List.append_assoc,List.getElem?_append_right (by simp; omega),List.length_take,Nat.min_eq_left (by omega),List.getElem?_append_left (by omega)]
  ·
   rw [if_neg (by omega),List.getElem?_append_right (by simp; omega),List.getElem?_drop]
   congr 1
   simp
   omega
theorem run_copy_rows {w : World} {g : Nat} {cur : Array Value} (hg : w.heap[g]? = some (.cells cur 62 (0,0))) (ty : TypeId) (o dl dc : Nat) (x : Addr) (sl sc n : Nat) (cs : List Value) (hn : sl.min dl = n) (hlen : cs.length = n * 3)
  (hsrc : ∀ j u,cs[j]? = some u → w.cell? (x.add j) = some u) (h1 : ∀ u ∈ cs,u.oneCell' = true) (hfit : o + n * 3 ≤ cur.size) :
  (Builtin.copy_ #[30,30] ty #[.slice (some ⟨g,o,none⟩) dl dc,.slice (some x) sl sc]).run Tryz.prog w = .ok (goInt n) (w.setRow g (over cur.toList o cs).toArray):=by
 obtain ⟨i0,hi,hz0,hz1,hz2⟩:=info_parts infoRw
 have hl:=run_firstCells_some (P:=Tryz.prog) w 3 n x sl sc cs hlen hsrc
 have hst:=run_storeCells_at Tryz.prog g o 62 cs 0 cur w hg (by rw [hlen]; omega) h1
 simp only [Nat.add_zero] at hst
 simp [Builtin.copy_,run_underlying Tryz.underlying30,Builtin.lenOf,sizeOf,typeInfo,hi,hz1,hn,hl,hst,over]
theorem take_eq_of {l m : List Value} {n : Nat} (hm : m.length = n) (h : ∀ j,j < n → l[j]? = m[j]?) : l.take n = m:=by
 apply List.ext_getElem?
 intro j
 rw [List.getElem?_take]
 by_cases hj : j < n
 ·
  rw [if_pos hj,h j hj]
 ·
  rw [if_neg hj,List.getElem?_eq_none (by omega)]
theorem ins_row {l : List Value} {M : List Rw} {i : Nat} {x : Rw} (hi : i ≤ M.length) (h1 : ∀ j,j < i * 3 → l[j]? = (rcells M)[j]?) (h2 : ∀ j,j < 3 → l[i * 3 + j]? = (rcells [x])[j]?) (h3 : ∀ j,j < (M.length - i) * 3 → l[(i + 1) * 3 + j]? = (rcells M)[i * 3 + j]?) :
  l.take ((M.length + 1) * 3) = rcells (M.take i ++ x :: M.drop i):=by
 refine take_eq_of (by rw [rcells_length]; simp; omega) (fun j hj=>?_)
 rw [rcells_append,show x :: M.drop i = [x] ++ M.drop i from rfl,rcells_append]
 by_cases c1 : j < i * 3
 ·
  rw [h1 j c1,List.getElem?_append_left (by rw [rcells_length,List.length_take]; omega),rcells_take M i hi,List.getElem?_take,if_pos c1]
 ·
  rw [List.getElem?_append_right (by rw [rcells_length,List.length_take]; omega),rcells_length,List.length_take,Nat.min_eq_left hi]
  by_cases c2 : j < i * 3 + 3
  ·
   have:=h2 (j - i * 3) (by omega)
   rw [show i * 3 + (j - i * 3) = j by omega] at this
   rw [this,List.getElem?_append_left (by rw [rcells_length]; simp; omega)]
  ·
   have:=h3 (j - i * 3 - 3) (by omega)
   rw [show (i + 1) * 3 + (j - i * 3 - 3) = j by omega] at this
   rw [this,List.getElem?_append_right (by rw [rcells_length]; simp; omega),rcells_length,rcells_drop M i hi,List.getElem?_drop]
   congr 1
theorem overlaps_apart (w : World) (vb g o lb cb : Nat) (hne : vb ≠ g) (cur : Array Value) (T : TypeId) (x : Rw) (hv : w.heap[vb]? = some (.cells (rc x) T (0,0))) (hg : w.heap[g]? = some (.cells cur T (0,0))) (hc : cur.size ≠ 0) :
  (callFunc 72 #[.slice (some ⟨vb,0,none⟩) 1 1,.slice (some ⟨g,o,none⟩) lb cb]).run Tryz.prog w = .ok (.value (.bool false)) w:=by
 rw [run_callFunc_extern Tryz.func72 (by kernel_rfl) (by kernel_rfl) (by kernel_rfl) (e:=Extern.SlicesOverlaps.overlaps #[30,30] #[4]) (by kernel_rfl),
  Go.Lib.run_overlaps_apart w 30 4 62 Tryz.underlying30 3 Tryz.sizeOf62 ⟨vb,0,none⟩ ⟨g,o,none⟩ 1 1 lb cb hne T T 3 cur.size (by simp [World.shape?,hv]) (by simp [World.shape?,hg]) hc (by simp [World.frozen?,hv]) (by simp [World.frozen?,hv])]
 rfl
theorem insert_end (base : Nat) (v : Value) (M : List Rw) (x : Rw) (w : World) (hO : Own w base v M) (hl : M.length ≤ 60) (hb : base ≤ w.heap.size) :
  Calls Tryz.prog 44 #[v,.int .i64 M.length,.slice (some ⟨w.heap.size,0,none⟩) 1 1] (w.alloc (.cells (rc x) 62)) fun e w'=>∃ v',e = .returned v' ∧ Own w' base v' (M ++ [x]) ∧ (w.alloc (.cells (rc x) 62)).grownBy w' v.ownBlock:=by
 obtain ⟨i0,hi0,hz0,hz1,hz2⟩:=info_parts infoRw
 have HO:=hidIt hO
 obtain ⟨a,cap,rfl,hcap,hcm,hR,hna,hsome⟩:=hO.form
 obtain ⟨x0,x1,x2⟩:=x
 generalize hn : M.length = n at *
 have HN:=hidIt hn
 have h1 : (n : Int) ≤ (cap : Int):=by omega
 clear hR hsome hO hn
 cases a with
 | none =>
  have e:=hna rfl
  subst e
  have e : n = 0:=by omega
  subst e
  go_enter Tryz.func44,Tryz.ntmps44
  go_wp2_with (at_builtin; refine wpList_append_own _ rfl _ _ 30 rfl base 62 i0 (.agg #[.int .i64 0,.int .i64 0,.int .i64 0]) 3 24 Tryz.underlying30 hi0 hz0 hz1 hz2 rfl (by decide) _ _ _ rfl (World.ownsRow.alloc HO.out _) ⟨w.heap.size,0,none⟩ 1 1 [.int .i64 x0,.int .i64 x1,.int .i64 x2] rfl rfl (fresh w (x0,x1,x2) 62) (rcells_one [(x0,x1,x2)]) ?c3 ?c4 ?c5 ?_)
  case c3=>rw [HN.out]; decide
  case c4=>rw [HN.out]; decide
  case c5=>exact Nat.le_trans hb (by first | exact Nat.le_refl _ | simp)
  intro v' w3 hown hgrow _
  have HO3:=hidIt (Own.more (M:=[(x0,x1,x2)]) hown)
  have HG:=hidIt hgrow
  clear hown hgrow
  go_wp2_with (fail)
  go_ret
  exact ⟨_,rfl,HO3.out,HG.out⟩
 | some y =>
  obtain ⟨yb,yo,ys⟩:=y
  clear hna
  go_enter Tryz.func44,Tryz.ntmps44
  go_wp2_with (at_builtin; refine wpList_append_own _ rfl _ _ 30 rfl base 62 i0 (.agg #[.int .i64 0,.int .i64 0,.int .i64 0]) 3 24 Tryz.underlying30 hi0 hz0 hz1 hz2 rfl (by decide) _ _ _ rfl (World.ownsRow.alloc HO.out _) ⟨w.heap.size,0,none⟩ 1 1 [.int .i64 x0,.int .i64 x1,.int .i64 x2] rfl rfl (fresh w (x0,x1,x2) 62) (rcells_one [(x0,x1,x2)]) ?c3 ?c4 ?c5 ?_)
  all_goals try (case c3=>rw [HN.out]; unfold maxLen; omega)
  all_goals try (case c4=>rw [HN.out]; omega)
  all_goals try (case c5=>exact Nat.le_trans hb (by first | exact Nat.le_refl _ | simp))
  all_goals
   intro v' w3 hown hgrow _
   have HO3:=hidIt (Own.more (M:=[(x0,x1,x2)]) hown)
   have HG:=hidIt hgrow
   clear hown hgrow
   go_wp2_with (fail)
   go_ret
   exact ⟨_,rfl,HO3.out,HG.out⟩
theorem insert_room (base g c i : Nat) (cur : Array Value) (M : List Rw) (x : Rw) (w : World) (hb : base ≤ g) (hg : w.heap[g]? = some (.cells cur 62 (0,0))) (hi : i < M.length) (hc : M.length + 1 ≤ c) (hcm : c ≤ maxLen) (hsz : cur.size = c * 3) (htk : cur.toList.take (M.length * 3) = rcells M) (hl : M.length ≤ 60) :
  Calls Tryz.prog 44 #[.slice (some ⟨g,0,none⟩) M.length c,.int .i64 i,.slice (some ⟨w.heap.size,0,none⟩) 1 1] (w.alloc (.cells (rc x) 62)) fun e w'=>∃ v',e = .returned v' ∧ Own w' base v' (M.take i ++ x :: M.drop i) ∧ (w.alloc (.cells (rc x) 62)).grownBy w' (some g):=by
 have hgw : g < w.heap.size:=(Array.getElem?_eq_some_iff.1 hg).1
 have hcm' : c ≤ 9223372036854775807:=hcm
 have hg1 : (w.alloc (.cells (rc x) 62)).heap[g]? = some (.cells cur 62 (0,0)):=by rw [Below.heap_alloc _ _ _ hgw]; exact hg
 have hv1 : (w.alloc (.cells (rc x) 62)).heap[w.heap.size]? = some (.cells (rc x) 62 (0,0)):=Array.getElem?_push_size ..
 have hS1 : (w.alloc (.cells (rc x) 62)).heap.size = w.heap.size + 1:=by simp
 have hX:=fresh w x 62
 have HGR : Hid (∀ W cs,(w.alloc (.cells (rc x) 62)).drew.setRow g cs = W → ∀ cs',(w.alloc (.cells (rc x) 62)).grownBy (W.setRow g cs') (some g)):=hidIt (fun W cs e cs'=>by
  subst e
  exact ⟨rfl,rfl,rfl,by simp [World.setRow,World.drew],fun k _ hk=>by
   rw [setRow_other _ _ _ _ (fun z=>hk (by rw [z])),setRow_other _ _ _ _ (fun z=>hk (by rw [z]))]; rfl⟩)
 generalize w.alloc (.cells (rc x) 62) = w1 at hg1 hv1 hX HGR hS1 ⊢
 generalize hn : M.length = n at *
 have hcur : ∀ j,j < n * 3 → cur[j]? = (rcells M)[j]?:=fun j hj=>by
  rw [← htk,List.getElem?_take,if_pos hj,Array.getElem?_toList]
 have hov:=fun lb cb=>overlaps_apart w1 w.heap.size g ((i + 1) * 3) lb cb (by omega) cur 62 x hv1 hg1 (by omega)
 have hdl : (rcells (M.drop i)).length = (n - i) * 3:=by rw [rcells_length,List.length_drop,hn]
 have hcp1 : ∀ ty dl dc sl sc,sl.min dl = n - i → (Builtin.copy_ #[30,30] ty #[.slice (some ⟨g,(i + 1) * 3,none⟩) dl dc,.slice (some ⟨g,i * 3,none⟩) sl sc]).run Tryz.prog w1.drew = .ok (goInt ((n - i : Nat) : Int)) (w1.drew.setRow g (over cur.toList ((i + 1) * 3) (rcells (M.drop i))).toArray):=fun ty dl dc sl sc hmin =>
  run_copy_rows (w:=w1.drew) hg1 ty ((i + 1) * 3) _ _ ⟨g,i * 3,none⟩ _ _ (n - i) _ hmin hdl (fun j u hj=>by
   rw [rcells_drop M i (by omega),List.getElem?_drop] at hj
   have hlt : i * 3 + j < n * 3:=by
    rcases Nat.lt_or_ge (i * 3 + j) (n * 3) with h | h
    ·
     exact h
    ·
     rw [List.getElem?_eq_none (by rw [rcells_length,hn]; exact h)] at hj; cases hj
   rw [Go.WideShapes.add_plain,show w1.drew.cell? ⟨g,i * 3 + j,none⟩ = w1.cell? ⟨g,i * 3 + j,none⟩ from rfl,row_cell hg1,hcur _ hlt]
   exact hj) (rcells_one _) (by rw [hsz]; omega)
 obtain ⟨w2,hw2⟩ : ∃ w2,w2 = w1.drew.setRow g (over cur.toList ((i + 1) * 3) (rcells (M.drop i))).toArray:=⟨_,rfl⟩
 rw [← hw2] at hcp1
 have hg2 : w2.heap[g]? = some (.cells (over cur.toList ((i + 1) * 3) (rcells (M.drop i))).toArray 62 (0,0)):=by
  rw [hw2]
  exact setRow_heap w1.drew g cur _ _ _ hg1
 have hol : (over cur.toList ((i + 1) * 3) (rcells (M.drop i))).length = c * 3:=by rw [over_length _ _ _ (by rw [hdl,Array.length_toList,hsz]; omega),Array.length_toList,hsz]
 have hcp2 : ∀ ty dl dc,(1 : Nat).min dl = 1 → (Builtin.copy_ #[30,30] ty #[.slice (some ⟨g,i * 3,none⟩) dl dc,.slice (some ⟨w.heap.size,0,none⟩) 1 1]).run Tryz.prog w2 = .ok (goInt ((1 : Nat) : Int)) (w2.setRow g (over (over cur.toList ((i + 1) * 3) (rcells (M.drop i))) (i * 3) (rcells [x])).toArray):=fun ty dl dc hmin=>by
  have:=run_copy_rows hg2 ty (i * 3) dl dc ⟨w.heap.size,0,none⟩ 1 1 1 (rcells [x]) hmin rfl (fun j u hj=>by
   have hx:=hX j u hj
   rw [Go.WideShapes.add_plain] at hx ⊢
   rw [hw2,cell_setRow_other _ _ _ _ (by simp; omega)]
   exact hx) (rcells_one _) (by simp only [List.size_toArray,hol]; omega)
  exact this
 have HW : Hid (Own (w2.setRow g (over (over cur.toList ((i + 1) * 3) (rcells (M.drop i))) (i * 3) (rcells [x])).toArray) base (.slice (some ⟨g,0,none⟩) (n + 1) c) (M.take i ++ x :: M.drop i)):=hidIt (by
  have e : (M.take i ++ x :: M.drop i).length = n + 1:=by simp; omega
  unfold Own
  rw [e]
  refine ⟨by rw [rcells_length,e],.inr ⟨g,c,_,rfl,hb,setRow_heap _ _ _ _ _ _ hg2,hc,hcm,?_,?_⟩⟩
  ·
   rw [List.size_toArray,over_length _ _ _ (by rw [hol]; simp [rcells]; omega),hol]
  ·
   rw [← hn]
   refine ins_row (by omega) (fun j hj=>?_) (fun j hj=>?_) (fun j hj=>?_)
   ·
    rw [over_get _ _ _ (by rw [hol]; simp [rcells]; omega),if_neg (by omega),over_get _ _ _ (by rw [hdl,Array.length_toList,hsz]; omega),if_neg (by omega),Array.getElem?_toList,hcur _ (by omega)]
   ·
    rw [over_get _ _ _ (by rw [hol]; simp [rcells]; omega),if_pos ⟨by omega,by simp [rcells]; omega⟩]
    congr 1
    omega
   ·
    rw [over_get _ _ _ (by rw [hol]; simp [rcells]; omega),if_neg (by simp [rcells]; omega),over_get _ _ _ (by rw [hdl,Array.length_toList,hsz]; omega),if_pos ⟨by omega,by rw [hdl]; omega⟩,rcells_drop M i (by omega),List.getElem?_drop]
    congr 1
    omega)
 have HGW:=hidIt (HGR.out w2 _ hw2.symm (over (over cur.toList ((i + 1) * 3) (rcells (M.drop i))) (i * 3) (rcells [x])).toArray)
 generalize w2.setRow g (over (over cur.toList ((i + 1) * 3) (rcells (M.drop i))) (i * 3) (rcells [x])).toArray = w3 at hcp2 HW HGW
 clear hcur hdl hol hg2 hw2 HGR htk hsz hX hg1 hv1 hg hS1
 have z1 : ((i : Int) == (n : Int)) = false:=by simp; omega
 have z2 : ¬ (c : Int) < (n : Int) + 1:=by omega
 have z3 : IntKind.i64.wrap ((i : Int) + 1) = (i : Int) + 1:=by rw [IntKind.wrap_i64]; omega
 have z4 : (0 : Int) ≤ (i : Int) + 1:=by omega
 have z5 : ((i : Int) + 1).toNat = i + 1:=by omega
 have z6 : (i : Int) + 1 ≤ (n : Int) + 1:=by omega
 have z7 : (i : Int) ≤ (n : Int) + 1:=by omega
 have z8 : (i : Int) ≤ (n : Int):=by omega
 have z9 : ¬ (c = i + 1):=by omega
 have z10 : ¬ (c = i):=by omega
 have z11 : (n : Int) + 1 ≤ (c : Int):=by omega
 go_enter Tryz.func44,Tryz.ntmps44
 go_wp2_with (simp only [hov])
 have hq1:=hcp1 3 (n - i) (c - (i + 1)) (n + 1 - i) (c - i) (by simp only [Nat.min_def]; split <;> omega)
 have hq2:=hcp2 3 (n + 1 - i) (c - i) (by simp only [Nat.min_def]; split <;> omega)
 clear hcp1 hcp2
 go_region
 go_wp2_with (fail)
 go_ret
 exact ⟨_,rfl,HW.out,HGW.out⟩
theorem zeros_length (k : Nat) : (Builtin.zeroCells (Value.agg #[.int .i64 0,.int .i64 0,.int .i64 0]).cells k).size = k * 3:=by
 simp [Builtin.zeroCells,Value.cells]
theorem insert_grow (base g c i : Nat) (cur : Array Value) (M : List Rw) (x : Rw) (w : World) (hb : base ≤ g) (hg : w.heap[g]? = some (.cells cur 62 (0,0))) (hi : i < M.length) (hc : M.length = c) (hsz : cur.size = c * 3) (htk : cur.toList.take (M.length * 3) = rcells M) (hl : M.length ≤ 60) :
  Calls Tryz.prog 44 #[.slice (some ⟨g,0,none⟩) M.length c,.int .i64 i,.slice (some ⟨w.heap.size,0,none⟩) 1 1] (w.alloc (.cells (rc x) 62)) fun e w'=>∃ v',e = .returned v' ∧ Own w' base v' (M.take i ++ x :: M.drop i) ∧ (w.alloc (.cells (rc x) 62)).grownBy w' (some g):=by
 obtain ⟨i0,hi0,hz0,hz1,hz2⟩:=info_parts infoRw
 have hgw : g < w.heap.size:=(Array.getElem?_eq_some_iff.1 hg).1
 have hg1 : (w.alloc (.cells (rc x) 62)).heap[g]? = some (.cells cur 62 (0,0)):=by rw [Below.heap_alloc _ _ _ hgw]; exact hg
 have hS1 : (w.alloc (.cells (rc x) 62)).heap.size = w.heap.size + 1:=by simp
 have hX:=fresh w x 62
 generalize w.alloc (.cells (rc x) 62) = w1 at hg1 hX hS1 ⊢
 generalize hn : M.length = n at *
 subst hc
 have hcur : ∀ j,j < n * 3 → cur[j]? = (rcells M)[j]?:=fun j hj=>by
  rw [← htk,List.getElem?_take,if_pos hj,Array.getElem?_toList]
 have hdl : (rcells (M.drop i)).length = (n - i) * 3:=by rw [rcells_length,List.length_drop,hn]
 have htl : (rcells (M.take i)).length = i * 3:=by rw [rcells_length,List.length_take,hn,Nat.min_eq_left (by omega)]
 have hik : i + (n + 1 - i) = n + 1:=by omega
 have hold : (Builtin.firstCells i0.size i (.slice (some ⟨g,0,none⟩) i n)).run Tryz.prog w1.drew = .ok (rcells (M.take i)).toArray w1.drew:=by
  rw [hz1]
  exact run_firstCells_some w1.drew 3 i ⟨g,0,none⟩ i n (rcells (M.take i)) htl (fun j u hj=>by
   have hlt : j < i * 3:=by
    rcases Nat.lt_or_ge j (i * 3) with h | h
    ·
     exact h
    ·
     rw [List.getElem?_eq_none (by rw [htl]; exact h)] at hj; cases hj
   rw [rcells_take M i (by omega),List.getElem?_take,if_pos hlt] at hj
   rw [Go.WideShapes.add_plain,show w1.drew.cell? ⟨g,0 + j,none⟩ = w1.cell? ⟨g,0 + j,none⟩ from rfl,Nat.zero_add,row_cell hg1,hcur _ (by omega)]
   exact hj)
 have hap : ∀ ty,(Builtin.append_ #[30,3] ty #[.slice (some ⟨g,0,none⟩) i n,.int .i64 ((n + 1 - i : Nat) : Int)]).run Tryz.prog w1 = .ok (.slice (some ⟨w1.heap.size,0,none⟩) (n + 1) (grownCap w1 (n + 1) n 62))
   (w1.drew.alloc (.cells ((rcells (M.take i)).toArray ++ Builtin.zeroCells (Value.agg #[.int .i64 0,.int .i64 0,.int .i64 0]).cells (n + 1 - i) ++ Builtin.zeroCells (Value.agg #[.int .i64 0,.int .i64 0,.int .i64 0]).cells (grownCap w1 (n + 1) n 62 - (n + 1))) 62)):=fun ty=>by
  have h:=Go.Lib.run_append_grow_zeros w1 30 3 ty 62 i0 _ .i64 .i64 Tryz.underlying30 Tryz.underlying3 hi0 hz0 (some ⟨g,0,none⟩) i n (rcells (M.take i)) hold (n + 1 - i) (by omega) (by omega) (by omega) (by omega) (by rw [hz2]; omega) (by rw [hz2,hik]; exact growslice_fits (by omega) (by omega))
  rw [hik] at h
  exact h
 have hGe:=grownCap_ge w1 (n + 1) n 62
 have hGm : grownCap w1 (n + 1) n 62 ≤ maxLen:=grownCap_le_maxLen w1 (n + 1) n 62 (by unfold maxLen; omega)
 generalize grownCap w1 (n + 1) n 62 = G at hap hGe hGm
 generalize hrow : (rcells (M.take i)).toArray ++ Builtin.zeroCells (Value.agg #[.int .i64 0,.int .i64 0,.int .i64 0]).cells (n + 1 - i) ++ Builtin.zeroCells (Value.agg #[.int .i64 0,.int .i64 0,.int .i64 0]).cells (G - (n + 1)) = row at hap
 have hrs : row.size = G * 3:=by
  rw [← hrow,Array.size_append,Array.size_append,zeros_length,zeros_length,List.size_toArray,htl]
  omega
 have hrl : row.toList.length = G * 3:=by rw [Array.length_toList,hrs]
 have hx4 : (rcells [x]).length = 3:=rfl
 have hrt : ∀ j,j < i * 3 → row.toList[j]? = (rcells M)[j]?:=fun j hj=>by
  rw [← hrow,Array.toList_append,Array.toList_append,List.append_assoc,List.getElem?_append_left (by rw [htl]; exact hj),rcells_take M i (by omega),List.getElem?_take,if_pos hj]
 have hb1 : base ≤ w1.heap.size:=by omega
 have hBel : Below w1.heap.size w1 (w1.drew.alloc (.cells row 62)):=(Below.refl _ w1).drew.alloc (Nat.le_refl _) _
 have hg2 : (w1.drew.alloc (.cells row 62)).heap[w1.heap.size]? = some (.cells row 62 (0,0)):=Array.getElem?_push_size ..
 generalize w1.drew.alloc (.cells row 62) = w2 at hap hBel hg2
 have hlt2 : w1.heap.size < w2.heap.size:=(Array.getElem?_eq_some_iff.1 hg2).1
 have hcp1 : ∀ ty dl dc,(1 : Nat).min dl = 1 → (Builtin.copy_ #[30,30] ty #[.slice (some ⟨w1.heap.size,i * 3,none⟩) dl dc,.slice (some ⟨w.heap.size,0,none⟩) 1 1]).run Tryz.prog w2 = .ok (goInt ((1 : Nat) : Int)) (w2.setRow w1.heap.size (over row.toList (i * 3) (rcells [x])).toArray):=fun ty dl dc hmin =>
  run_copy_rows hg2 ty (i * 3) dl dc ⟨w.heap.size,0,none⟩ 1 1 1 (rcells [x]) hmin rfl (fun j u hj=>by
   have hx:=hX j u hj
   rw [Go.WideShapes.add_plain] at hx ⊢
   rw [hBel.cell (by simp; omega)]
   exact hx) (rcells_one _) (by rw [hrs]; omega)
 have hol : (over row.toList (i * 3) (rcells [x])).length = G * 3:=by rw [over_length _ _ _ (by rw [hrl,hx4]; omega),hrl]
 obtain ⟨w3,hw3⟩ : ∃ w3,w3 = w2.setRow w1.heap.size (over row.toList (i * 3) (rcells [x])).toArray:=⟨_,rfl⟩
 rw [← hw3] at hcp1
 have hg3 : w3.heap[w1.heap.size]? = some (.cells (over row.toList (i * 3) (rcells [x])).toArray 62 (0,0)):=by
  rw [hw3]
  exact setRow_heap w2 _ row _ _ _ hg2
 have hcp2 : ∀ ty dl dc sl sc,sl.min dl = n - i → (Builtin.copy_ #[30,30] ty #[.slice (some ⟨w1.heap.size,(i + 1) * 3,none⟩) dl dc,.slice (some ⟨g,i * 3,none⟩) sl sc]).run Tryz.prog w3.drew = .ok (goInt ((n - i : Nat) : Int)) (w3.drew.setRow w1.heap.size (over (over row.toList (i * 3) (rcells [x])) ((i + 1) * 3) (rcells (M.drop i))).toArray):=fun ty dl dc sl sc hmin=>by
  have:=run_copy_rows (w:=w3.drew) hg3 ty ((i + 1) * 3) dl dc ⟨g,i * 3,none⟩ sl sc (n - i) _ hmin hdl (fun j u hj=>by
   rw [rcells_drop M i (by omega),List.getElem?_drop] at hj
   have hlt : i * 3 + j < n * 3:=by
    rcases Nat.lt_or_ge (i * 3 + j) (n * 3) with h | h
    ·
     exact h
    ·
     rw [List.getElem?_eq_none (by rw [rcells_length,hn]; exact h)] at hj; cases hj
   rw [Go.WideShapes.add_plain,show w3.drew.cell? ⟨g,i * 3 + j,none⟩ = w3.cell? ⟨g,i * 3 + j,none⟩ from rfl,hw3,cell_setRow_other _ _ _ _ (by simp; omega),hBel.cell (by simp; omega),row_cell hg1,hcur _ hlt]
   exact hj) (rcells_one _) (by simp only [List.size_toArray,hol]; omega)
  exact this
 have HW : Hid (Own (w3.drew.setRow w1.heap.size (over (over row.toList (i * 3) (rcells [x])) ((i + 1) * 3) (rcells (M.drop i))).toArray) base (.slice (some ⟨w1.heap.size,0,none⟩) (n + 1) G) (M.take i ++ x :: M.drop i)):=hidIt (by
  have e : (M.take i ++ x :: M.drop i).length = n + 1:=by simp; omega
  unfold Own
  rw [e]
  refine ⟨by rw [rcells_length,e],.inr ⟨w1.heap.size,G,_,rfl,hb1,setRow_heap w3.drew _ _ _ _ _ hg3,hGe,hGm,?_,?_⟩⟩
  ·
   rw [List.size_toArray,over_length _ _ _ (by rw [hol,hdl]; omega),hol]
  ·
   rw [← hn]
   refine ins_row (by omega) (fun j hj=>?_) (fun j hj=>?_) (fun j hj=>?_)
   ·
    rw [over_get _ _ _ (by rw [hol,hdl]; omega),if_neg (by omega),over_get _ _ _ (by rw [hrl,hx4]; omega),if_neg (by omega),hrt _ hj]
   ·
    rw [over_get _ _ _ (by rw [hol,hdl]; omega),if_neg (by omega),over_get _ _ _ (by rw [hrl,hx4]; omega),if_pos ⟨by omega,by simp [rcells]; omega⟩]
    congr 1
    omega
   ·
    rw [over_get _ _ _ (by rw [hol,hdl]; omega),if_pos ⟨by omega,by rw [hdl]; omega⟩,rcells_drop M i (by omega),List.getElem?_drop]
    congr 1
    omega)
 have HGW : Hid (w1.grownBy (w3.drew.setRow w1.heap.size (over (over row.toList (i * 3) (rcells [x])) ((i + 1) * 3) (rcells (M.drop i))).toArray) (some g)):=hidIt (by
  rw [hw3]
  exact ⟨hBel.os,hBel.tape,hBel.output,by simp [World.setRow,World.drew]; omega,fun k hk _=>by
   rw [setRow_other _ _ _ _ (by omega)]
   show (w2.setRow w1.heap.size _).heap[k]? = _
   rw [setRow_other _ _ _ _ (by omega)]
   exact hBel.block k hk⟩)
 generalize w3.drew.setRow w1.heap.size (over (over row.toList (i * 3) (rcells [x])) ((i + 1) * 3) (rcells (M.drop i))).toArray = w4 at hcp2 HW HGW
 have hG63 : G ≤ 9223372036854775807:=hGm
 clear hcur hdl htl hol hg2 hg3 hw3 htk hsz hX hg1 hg hS1 hold hrow hrs hrt hBel
 have z1 : ((i : Int) == (n : Int)) = false:=by simp; omega
 have z2 : (n : Int) < (n : Int) + 1:=by omega
 have z3 : IntKind.i64.wrap ((i : Int) + 1) = (i : Int) + 1:=by rw [IntKind.wrap_i64]; omega
 have z4 : (0 : Int) ≤ (i : Int) + 1:=by omega
 have z5 : ((i : Int) + 1).toNat = i + 1:=by omega
 have z6 : (i : Int) + 1 ≤ (n : Int) + 1:=by omega
 have z7 : (i : Int) ≤ (n : Int) + 1:=by omega
 have z8 : (i : Int) ≤ (n : Int):=by omega
 have z9 : ¬ (G = i + 1):=by omega
 have z10 : ¬ (G = i):=by omega
 have z11 : ¬ (n = i):=by omega
 have z12 : (i : Int) ≤ (n : Int):=by omega
 have z13 : (n : Int) + 1 - (i : Int) = ((n + 1 - i : Nat) : Int):=by omega
 have hq0:=hap 30
 have hq1:=hcp1 3 (n + 1 - i) (G - i) (by simp only [Nat.min_def]; split <;> omega)
 have hq2:=hcp2 3 (n - i) (G - (i + 1)) (n - i) (n - i) (by simp only [Nat.min_def]; split <;> omega)
 rw [← z13] at hq0
 clear hcp1 hcp2 hap z13
 go_enter Tryz.func44,Tryz.ntmps44
 go_wp2_with (at_builtin; refine Go.Lib.wpList_append_run _ rfl _ _ _ _ rfl _ _ rfl rfl _ _ hq0 ?_)
 go_region
 go_wp2_with (fail)
 go_ret
 exact ⟨_,rfl,HW.out,HGW.out⟩
theorem insert_any (base : Nat) (v : Value) (M : List Rw) (i : Nat) (x : Rw) (w : World) (hO : Own w base v M) (hi : i ≤ M.length) (hl : M.length ≤ 60) (hb : base ≤ w.heap.size) :
  Calls Tryz.prog 44 #[v,.int .i64 i,.slice (some ⟨w.heap.size,0,none⟩) 1 1] (w.alloc (.cells (rc x) 62)) fun e w'=>∃ v',e = .returned v' ∧ Own w' base v' (M.take i ++ x :: M.drop i) ∧ (w.alloc (.cells (rc x) 62)).grownBy w' v.ownBlock:=by
 rcases Nat.lt_or_ge i M.length with h | h
 ·
  rcases hO.2 with ⟨e,h0⟩ | ⟨g,cap,cur,rfl,hbg,hg,hn,hm,hsz,htk⟩
  ·
   omega
  ·
   by_cases hr : M.length + 1 ≤ cap
   ·
    exact insert_room base g cap i cur M x w hbg hg h hr hm hsz htk hl
   ·
    exact insert_grow base g cap i cur M x w hbg hg h (by omega) hsz htk hl
 ·
  obtain rfl : i = M.length:=by omega
  rw [List.take_length,List.drop_length]
  exact insert_end base v M x w hO hl hb
end Go.Proofs.YtkeapmmochpcfaaGreat.Mm
