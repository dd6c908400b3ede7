/- Marks written into a list of Entrys of the call's own, and looked for again. (Written by wip/mkrow.py.) -/
import Derived.Test.YtkeapmmochpcfaaGreatBun1
import Derived.Test.YtkeapmmochpcfaaGreatNameQ
import Derived.Test.YtkeapmmochpcfaaGreatBokH
import Derived.Deep.RegionWith
import Derived.WideLaws
import Derived.Lib.Builder
import Derived.Deep.RegionLaw
set_option maxRecDepth 100000
set_option maxHeartbeats 32000000
set_option linter.unusedVariables false
namespace Go.Proofs.YtkeapmmochpcfaaGreat.En
open Go.ChangeShapes Go.WideShapes Go.ChangeAt Go.RowKit
open Rc (BelowBy BelowBy.one BelowBy.cell wp_region_below calls_below calls_same)
set_option linter.unusedSimpArgs false
end Go.Proofs.YtkeapmmochpcfaaGreat.En
namespace Go.Proofs.YtkeapmmochpcfaaGreat.En
open Go.ChangeShapes Go.WideShapes Go.ChangeAt Go.RowKit
structure Fr (b g:Nat) (w w':World):Prop where
 os:w'.os=w.os
 tape:w'.tape=w.tape
 output:w'.output=w.output
 size:w.heap.size<=w'.heap.size
 block:∀ k,k<w.heap.size->k≠b->k≠g->w'.heap[k]?=w.heap[k]?
theorem Fr.refl (b g:Nat) (w:World):Fr b g w w:=⟨rfl,rfl,rfl,Nat.le_refl _,fun _ _ _ _=>rfl⟩
theorem Fr.trans {b g:Nat} {x y z:World} (h:Fr b g x y) (k:Fr b g y z):Fr b g x z :=
 ⟨k.os.trans h.os,k.tape.trans h.tape,k.output.trans h.output,Nat.le_trans h.size k.size,fun i hi h1 h2=>(k.block i (Nat.lt_of_lt_of_le hi h.size) h1 h2).trans (h.block i hi h1 h2)⟩
theorem Fr.of_below {b g:Nat} {w w':World} (h:Below w.heap.size w w'):Fr b g w w':=⟨h.os,h.tape,h.output,h.size,fun k hk _ _=>h.block k hk⟩
theorem Fr.drew {b g:Nat} {a w:World} (h:Fr b g a w):Fr b g a w.drew:=⟨h.os,h.tape,h.output,h.size,h.block⟩
theorem Fr.setB {b g:Nat} {a w:World} (h:Fr b g a w) (i:Nat) (v:Value):Fr b g a (w.setCell ⟨b,i,none⟩ v) :=
 h.trans ⟨rfl,rfl,rfl,by simp[World.setCell],fun k _ hb _=>Below.heap_setCell _ _ _ _ hb⟩
theorem Fr.setG {b g:Nat} {a w:World} (h:Fr b g a w) (i:Nat) (v:Value):Fr b g a (w.setCell ⟨g,i,none⟩ v) :=
 h.trans ⟨rfl,rfl,rfl,by simp[World.setCell],fun k _ _ hg=>Below.heap_setCell _ _ _ _ hg⟩
theorem Fr.below {b g base:Nat} {w w':World} (h:Fr b g w w') (hb:base<=b) (hg:base<=g) (hs:base<=w.heap.size):Below base w w' :=
 ⟨h.os,h.tape,h.output,h.size,fun k hk=>h.block k (by omega) (by omega) (by omega)⟩
theorem Rd.fr {w w':World} {b g p o:Nat} {L:List Rw} (h:Rd w (some ⟨p,o,none⟩) L) (k:Fr b g w w') (hb:p≠b) (hg:p≠g):Rd w' (some ⟨p,o,none⟩) L :=
 ⟨fun i hi=>by
  obtain⟨b',off,e,c⟩:=h.cell i hi
  cases e
  exact⟨p,o,rfl,fun j hj=>by
   have hl:=cell_block (c j hj)
   rw[World.cell?_of_block (w:=w) (k.block p hl hb hg)]
   exact c j hj⟩⟩
theorem Rd.kept' {w w':World} {base p o:Nat} {L:List Rw} (h:Rd w (some ⟨p,o,none⟩) L) (k:Below base w w') (hp:p<base):Rd w' (some ⟨p,o,none⟩) L :=
 ⟨fun i hi=>by
  obtain⟨b',off,e,c⟩:=h.cell i hi
  cases e
  exact⟨p,o,rfl,fun j hj=>by rw[k.cell (by simpa using hp)];exact c j hj⟩⟩
theorem Own.fr {w w':World} {base b g:Nat} {v:Value} {L:List Rw} (h:Own w base v L) (k:Fr b g w w') (hb:b<base) (hg:g<base):Own w' base v L:=by
 rcases h with ⟨h1,h2⟩
 refine⟨h1,?_⟩
 rcases h2 with h2 | ⟨q,cap,cur,e,hq,hw,r⟩
 ·
  exact .inl h2
 ·
  exact .inr ⟨q,cap,cur,e,hq,(k.block q (Array.getElem?_eq_some_iff.1 hw).1 (by omega) (by omega)).trans hw,r⟩
structure Hp (w:World) (b g cap n:Nat) (v0 v1:Value):Prop where
 ne:b≠g
 bl:b<w.heap.size
 gl:g<w.heap.size
 le:n<=cap
 me:w.cell? ⟨b,0,none⟩=some (.slice (some ⟨g,0,none⟩) n cap)
 mf:w.frozen? ⟨b,0,none⟩=false
 row:∀ i,i<n->w.cell? ⟨g,i,none⟩=some (if i=0 then v0 else v1)
 rf:∀ i,w.frozen? ⟨g,i,none⟩=false
theorem Hp.c0 {w:World} {b g cap n:Nat} {v0 v1:Value} (h:Hp w b g cap n v0 v1) (hn:0<n):w.cell? ⟨g,0,none⟩=some v0:=by rw[h.row 0 hn,if_pos rfl]
theorem Hp.c1 {w:World} {b g cap n:Nat} {v0 v1:Value} (h:Hp w b g cap n v0 v1) (hn:1<n):w.cell? ⟨g,1,none⟩=some v1:=by rw[h.row 1 hn,if_neg (by decide)]
theorem Hp.kept {w w':World} {b g cap n:Nat} {v0 v1:Value} (h:Hp w b g cap n v0 v1) (k:Below w.heap.size w w'):Hp w' b g cap n v0 v1 :=
 ⟨h.ne,Nat.lt_of_lt_of_le h.bl k.size,Nat.lt_of_lt_of_le h.gl k.size,h.le,by rw[k.cell (by simpa using h.bl)];exact h.me,by rw[k.frozen (by simpa using h.bl)];exact h.mf,
  fun i hi=>by rw[k.cell (by simpa using h.gl)];exact h.row i hi,fun i=>by rw[k.frozen (by simpa using h.gl)];exact h.rf i⟩
theorem Hp.drew {w:World} {b g cap n:Nat} {v0 v1:Value} (h:Hp w b g cap n v0 v1):Hp w.drew b g cap n v0 v1:=⟨h.ne,h.bl,h.gl,h.le,h.me,h.mf,h.row,h.rf⟩
theorem Hp.put0 {w:World} {b g cap n:Nat} {v0 v1:Value} (h:Hp w b g cap n v0 v1) (hn:0<n) (v:Value):Hp (w.setCell ⟨g,0,none⟩ v) b g cap n v v1 :=
 ⟨h.ne,by simpa using h.bl,by simpa using h.gl,h.le,by rw[World.cell?_setCell_other _ _ _ _ (fun x=>h.ne (Addr.mk.inj x).1.symm)];exact h.me,by simpa using h.mf,
  fun i hi=>by
   by_cases e:i=0
   ·
    subst e
    rw[World.cell?_setCell_same w ⟨g,0,none⟩ v (h.c0 hn),if_pos rfl]
   ·
    rw[World.cell?_setCell_other _ _ _ _ (fun x=>e (Addr.mk.inj x).2.1.symm),h.row i hi,if_neg e,if_neg e],
  fun i=>by simpa using h.rf i⟩
theorem Hp.put1 {w:World} {b g cap:Nat} {v0 v1:Value} (h:Hp w b g cap 2 v0 v1) (v:Value):Hp (w.setCell ⟨g,1,none⟩ v) b g cap 2 v0 v :=
 ⟨h.ne,by simpa using h.bl,by simpa using h.gl,h.le,by rw[World.cell?_setCell_other _ _ _ _ (fun x=>h.ne (Addr.mk.inj x).1.symm)];exact h.me,by simpa using h.mf,
  fun i hi=>by
   by_cases e:i=0
   ·
    subst e
    rw[World.cell?_setCell_other _ _ _ _ (fun x=>absurd (Addr.mk.inj x).2.1 (by decide)),h.row 0 hi,if_pos rfl,if_pos rfl]
   ·
    have e1:i=1:=by omega
    subst e1
    rw[World.cell?_setCell_same w ⟨g,1,none⟩ v (h.c1 (by omega)),if_neg e],
  fun i=>by simpa using h.rf i⟩
theorem Hp.cut {w:World} {b g cap n:Nat} {v0 v1:Value} (h:Hp w b g cap n v0 v1) {m:Nat} (hm:m<=n):Hp (w.setCell ⟨b,0,none⟩ (.slice (some ⟨g,0,none⟩) m cap)) b g cap m v0 v1 :=
 ⟨h.ne,by simpa using h.bl,by simpa using h.gl,Nat.le_trans hm h.le,World.cell?_setCell_same w ⟨b,0,none⟩ _ h.me,by simpa using h.mf,
  fun i hi=>by rw[World.cell?_setCell_other _ _ _ _ (fun x=>h.ne (Addr.mk.inj x).1)];exact h.row i (by omega),
  fun i=>by simpa using h.rf i⟩
theorem Fr.setNew {b g:Nat} {a w:World} (h:Fr b g a w) {d:Nat} (hd:a.heap.size<=d) (i:Nat) (v:Value):Fr b g a (w.setCell ⟨d,i,none⟩ v) :=
 ⟨h.os,h.tape,h.output,by have:=h.size;simpa [World.setCell] using this,fun k hk hb hg=>by rw[Below.heap_setCell _ _ _ _ (by simp;omega)];exact h.block k hk hb hg⟩
theorem Hp.other {w:World} {b g cap n:Nat} {v0 v1:Value} (h:Hp w b g cap n v0 v1) {d:Nat} (hb:d≠b) (hg:d≠g) (i:Nat) (v:Value):Hp (w.setCell ⟨d,i,none⟩ v) b g cap n v0 v1 :=
 ⟨h.ne,by simpa using h.bl,by simpa using h.gl,h.le,by rw[World.cell?_setCell_other _ _ _ _ (fun x=>hb (Addr.mk.inj x).1)];exact h.me,by simpa using h.mf,
  fun j hj=>by rw[World.cell?_setCell_other _ _ _ _ (fun x=>hg (Addr.mk.inj x).1)];exact h.row j hj,fun j=>by simpa using h.rf j⟩
theorem box_fr {w w':World} {b g d:Nat} {c:Array Value} (h:Bo.Box w d c) (k:Fr b g w w') (hb:d≠b) (hg:d≠g):Bo.Box w' d c :=
 ⟨Nat.lt_of_lt_of_le h.lt k.size,fun i=>by rw[World.cell?_of_block (w:=w) (k.block d h.lt hb hg)];exact h.at' i,fun i=>by rw[World.frozen?_of_block (w:=w) (k.block d h.lt hb hg)];exact h.fr i⟩
theorem Rd.tail {w:World} {p o:Nat} {x:Rw} {L:List Rw} (h:Rd w (some ⟨p,o,none⟩) (x::L)):Rd w (some ⟨p,o+5,none⟩) L :=
 ⟨fun i hi=>by
  obtain⟨b',off,e,c⟩:=h.cell (i+1) (by simp;omega)
  cases e
  refine⟨p,o+5,rfl,fun j hj=>?_⟩
  have:=c j hj
  rw[show o+5+(i*5+j)=o+((i+1)*5+j) by omega]
  exact this⟩
abbrev hI (b:Nat):Value:=.iface 57 (.pointer (some ⟨b,0,none⟩))
end Go.Proofs.YtkeapmmochpcfaaGreat.En
namespace Go.Proofs.YtkeapmmochpcfaaGreat.En
open Go.ChangeShapes Go.WideShapes Go.ChangeAt Go.RowKit
open Bk (Bytes okE newB okBk Ris IsJoin joinB lessE)
attribute [local go_sem] str_gtr str_leq str_geq
theorem m_Len {b : Nat} {v : Value} {w : World} (h : w.cell? ⟨b, 0, none⟩ = some v) : (Go.method 259 57 (.pointer (some ⟨b, 0, none⟩)) "Len").run Tryz.prog w = .ok (65, v) w := by
 have e : (Go.method 259 57 (.pointer (some ⟨b, 0, none⟩)) "Len").run Tryz.prog w = (loadVar 97 ⟨b, 0, none⟩ >>= fun v => pure (65, v)).run Tryz.prog w := by kernel_rfl
 rw[e]
 simp[go_sem,h]
theorem m_Less {b : Nat} {v : Value} {w : World} (h : w.cell? ⟨b, 0, none⟩ = some v) : (Go.method 259 57 (.pointer (some ⟨b, 0, none⟩)) "Less").run Tryz.prog w = .ok (133, v) w := by
 have e : (Go.method 259 57 (.pointer (some ⟨b, 0, none⟩)) "Less").run Tryz.prog w = (loadVar 97 ⟨b, 0, none⟩ >>= fun v => pure (133, v)).run Tryz.prog w := by kernel_rfl
 rw[e]
 simp[go_sem,h]
theorem m_Swap {b : Nat} {v : Value} {w : World} (h : w.cell? ⟨b, 0, none⟩ = some v) : (Go.method 259 57 (.pointer (some ⟨b, 0, none⟩)) "Swap").run Tryz.prog w = .ok (136, v) w := by
 have e : (Go.method 259 57 (.pointer (some ⟨b, 0, none⟩)) "Swap").run Tryz.prog w = (loadVar 97 ⟨b, 0, none⟩ >>= fun v => pure (136, v)).run Tryz.prog w := by kernel_rfl
 rw[e]
 simp[go_sem,h]
theorem m_Push {p : Value} {w : World} : (Go.method 259 57 p "Push").run Tryz.prog w = .ok (135, p) w := by kernel_rfl
theorem m_Pop {p : Value} {w : World} : (Go.method 259 57 p "Pop").run Tryz.prog w = .ok (134, p) w := by kernel_rfl
theorem as_book (v:Value) (w:World):(Instr.typeAssert (.iface 29 v) 20 29 false).run Tryz.prog w=.ok v w:=by kernel_rfl
attribute [local go_sem] as_book
theorem rests_Len (a:Option Addr) (n cap:Nat) (w:World):Calls Tryz.prog 65 #[.slice a n cap] w fun e w'=>e=.returned (.int .i64 (n:Int))∧w'=w:=by
 go_enter Tryz.func65,Tryz.ntmps65
 go_wp2
 go_ret
 exact⟨rfl,rfl⟩
theorem rests_Pop {w:World} {b g cap n:Nat} {v0 v1:Value} (h:Hp w b g cap (n+1) v0 v1) (hn:n<=1) (hc:cap<=9223372036854775807) :
  Calls Tryz.prog 134 #[.pointer (some ⟨b,0,none⟩)] w fun e w'=>(∃ v,e=.returned v)∧Hp w' b g cap n v0 v1∧Fr b g w w':=by
 have HH:=hidIt h
 have c0:=h.me
 have f0:=h.mf
 have le:=h.le
 have HC:=hidIt (h.cut (m:=n) (by omega))
 have HF:=hidIt ((Fr.refl b g w).setB 0 (.slice (some ⟨g,0,none⟩) n cap))
 have cc:=h.row n (by omega)
 generalize (if n=0 then v0 else v1)=vn at cc
 clear h
 have hn1:(n:Int)<=1:=by omega
 go_enter Tryz.func134,Tryz.ntmps134
 go_wp2_with (fail)
 go_ret
 exact⟨⟨_,rfl⟩,HC.out,HF.out⟩
abbrev sv (p o n c:Nat):Value:=.slice (some ⟨p,o,none⟩) n c
theorem rests_Swap00 {w:World} {b g cap p0 o0 n0 k0:Nat} {v1:Value} (h:Hp w b g cap 1 (sv p0 o0 n0 k0) v1) :
  Calls Tryz.prog 136 #[.slice (some ⟨g,0,none⟩) 1 cap,.int .i64 0,.int .i64 0] w fun e w'=>e=.returned (.tuple #[])∧Hp w' b g cap 1 (sv p0 o0 n0 k0) v1∧Fr b g w w':=by
 have c0:=h.c0 (by omega)
 have f0:=h.rf 0
 have HH:=hidIt h
 clear h
 go_enter Tryz.func136,Tryz.ntmps136
 go_wp2_with (fail)
 go_big_region
 exact bodyPost_end (v:=.tuple #[]) (by simp[results,Tryz.results136,go_sem]) rfl ⟨rfl,((HH.out.put0 (by omega) (sv p0 o0 n0 k0)).put0 (by omega) (sv p0 o0 n0 k0)).drew,(((Fr.refl b g w).setG 0 (sv p0 o0 n0 k0)).setG 0 (sv p0 o0 n0 k0)).drew⟩
theorem rests_Swap01 {w:World} {b g cap p0 o0 n0 k0 p1 o1 n1 k1:Nat} (h:Hp w b g cap 2 (sv p0 o0 n0 k0) (sv p1 o1 n1 k1)) :
  Calls Tryz.prog 136 #[.slice (some ⟨g,0,none⟩) 2 cap,.int .i64 0,.int .i64 1] w fun e w'=>e=.returned (.tuple #[])∧Hp w' b g cap 2 (sv p1 o1 n1 k1) (sv p0 o0 n0 k0)∧Fr b g w w':=by
 have c0:=h.c0 (by omega)
 have c1:=h.c1 (by omega)
 have f0:=h.rf 0
 have f1:=h.rf 1
 have HH:=hidIt h
 clear h
 go_enter Tryz.func136,Tryz.ntmps136
 go_wp2_with (fail)
 go_big_region
 exact bodyPost_end (v:=.tuple #[]) (by simp[results,Tryz.results136,go_sem]) rfl ⟨rfl,((HH.out.put0 (by omega) (sv p1 o1 n1 k1)).put1 (sv p0 o0 n0 k0)).drew,(((Fr.refl b g w).setG 0 (sv p1 o1 n1 k1)).setG 1 (sv p0 o0 n0 k0)).drew⟩
theorem cells_one {w:World} {p o:Nat} {L:List Rw} (h:Rd w (some ⟨p,o,none⟩) L) (hl:0<L.length):w.cell? ⟨p,o,none⟩=some (.string (rat L 0).1)∧w.cell? ⟨p,o+1,none⟩=some (.string (rat L 0).2.1)∧w.cell? ⟨p,o+2,none⟩=some (.int .i64 (rat L 0).2.2.1)∧w.cell? ⟨p,o+3,none⟩=some (.int .i64 (rat L 0).2.2.2.1)∧w.cell? ⟨p,o+4,none⟩=some (.bool (rat L 0).2.2.2.2):=by
 obtain⟨b',off,e,h⟩:=h.all hl
 cases e
 simpa using h
theorem rests_Less {w:World} {b g cap p0 o0 n0 k0 p1 o1 n1 k1:Nat} {L0 L1:List Rw} (h:Hp w b g cap 2 (sv p0 o0 n0 k0) (sv p1 o1 n1 k1)) (h0:Rd w (some ⟨p0,o0,none⟩) L0) (h1:Rd w (some ⟨p1,o1,none⟩) L1) (e0:L0.length=n0) (e1:L1.length=n1) (z0:0<n0) (z1:0<n1) :
  Calls Tryz.prog 133 #[.slice (some ⟨g,0,none⟩) 2 cap,.int .i64 1,.int .i64 0] w fun e w'=>e=.returned (.bool (lessE (toE (rat L1 0)) (toE (rat L0 0))))∧Below w.heap.size w w':=by
 have r0:=h.c0 (by omega)
 have r1:=h.c1 (by omega)
 obtain⟨c0,c1,c2,c3,c4⟩:=cells_one h0 (by omega)
 obtain⟨d0,d1,d2,d3,d4⟩:=cells_one h1 (by omega)
 have CN:=hidIt (fun W=>impl_Newer (rat L1 0) (rat L0 0) W)
 have l0:=h.gl
 have l1:=cell_block c0
 have l2:=cell_block d0
 clear h h0 h1 e0 e1
 generalize rat L0 0=x at c0 c1 c2 c3 c4 CN ⊢
 generalize rat L1 0=y at d0 d1 d2 d3 d4 CN ⊢
 obtain⟨xk,xv,xt,xn,xg⟩:=x
 obtain⟨yk,yv,yt,yn,yg⟩:=y
 simp only[rv] at CN c0 c1 c2 c3 c4 d0 d1 d2 d3 d4
 have z0':(0:Int)<(n0:Int):=by omega
 have z1':(0:Int)<(n1:Int):=by omega
 have hl:=less_of yk xk
 have he:=eq_of yk xk
 have HW1:=hidIt (Below.drew (((Below.refl w.heap.size w).alloc (Nat.le_refl _) (.cells #[.string yk,.string yv,.int .i64 yt,.int .i64 yn,.bool yg] 60)).alloc (by simp) (.cells #[.string xk,.string xv,.int .i64 xt,.int .i64 xn,.bool xg] 60)))
 have HW2:=hidIt (Below.drew (((Below.refl w.heap.size w).alloc (Nat.le_refl _) (.cells #[.string xk,.string xv,.int .i64 xt,.int .i64 xn,.bool xg] 60)).alloc (by simp) (.cells #[.string yk,.string yv,.int .i64 yt,.int .i64 yn,.bool yg] 60)))
 by_cases hlt:bs yk<bs xk
 ·
  rw[decide_eq_true hlt] at hl
  have er:lessE (toE (yk,yv,yt,yn,yg)) (toE (xk,xv,xt,xn,xg))=true:=Bk.lessE_lt hlt
  rw[er]
  clear he hlt er
  go_enter Tryz.func133,Tryz.ntmps133
  go_wp2_with (fail)
  go_big_region
  all_goals (go_wp2_with (fail);go_ret;first | exact⟨rfl,HW1.out⟩ | exact⟨rfl,HW2.out⟩)
 ·
  rw[decide_eq_false hlt] at hl
  by_cases heq:bs yk=bs xk
  ·
   rw[decide_eq_true heq] at he
   have er:lessE (toE (yk,yv,yt,yn,yg)) (toE (xk,xv,xt,xn,xg))=newB (toE (yk,yv,yt,yn,yg)) (toE (xk,xv,xt,xn,xg)):=Bk.lessE_eq hlt heq
   rw[er]
   generalize newB (toE (yk,yv,yt,yn,yg)) (toE (xk,xv,xt,xn,xg))=r at CN ⊢
   clear heq hlt er
   go_enter Tryz.func133,Tryz.ntmps133
   go_wp2_with (fail)
   go_big_region
   all_goals (go_wp2_with (fail);refine (CN.out _).mono ?_;rintro e w1 ⟨rfl,k1⟩;have HK:=hidIt k1;clear k1;go_wp2_with (fail);go_ret;first | exact⟨rfl,HW1.out.trans (HK.out.mono HW1.out.size)⟩ | exact⟨rfl,HW2.out.trans (HK.out.mono HW2.out.size)⟩)
  ·
   rw[decide_eq_false heq] at he
   have er:lessE (toE (yk,yv,yt,yn,yg)) (toE (xk,xv,xt,xn,xg))=false:=Bk.lessE_gt hlt heq
   rw[er]
   clear heq hlt er
   go_enter Tryz.func133,Tryz.ntmps133
   go_wp2_with (fail)
   go_big_region
   all_goals (go_wp2_with (fail);go_ret;first | exact⟨rfl,HW1.out⟩ | exact⟨rfl,HW2.out⟩)
end Go.Proofs.YtkeapmmochpcfaaGreat.En
namespace Go.Proofs.YtkeapmmochpcfaaGreat.En
open Go.ChangeShapes Go.WideShapes Go.ChangeAt Go.RowKit
open Bk (Bytes okE newB okBk Ris IsJoin joinB lessE)
attribute [local go_sem] m_Len m_Less m_Swap m_Push m_Pop as_book
theorem infoSl:(Tryz.prog.info? 29).map (fun i=>(i.zero,i.size,i.bytes))=some (some (.slice none 0 0),1,24):=by kernel_rfl
theorem step_append_run {ops:Array Oper} {o:Oper} {a:Act} {w w':World} {K:Act->World->Prop} {Q:Exit->Act->World->Prop} {E:Prop} {v u v':Value} {t ty:TypeId}
  (hrun:Hid ((Builtin.append_ #[t,t] ty #[v,u]).run Tryz.prog w=.ok v' w')) (hg:o.guard=none) (s x:Operand) (hop:o.op=Op.call { callee:=Callee.builtin Builtin.append,args:=#[s,x],argTypes:=#[t,t] }) (hty:o.type=ty)
  (hs:a.eval s=v) (hx:a.eval x=u) (hK:K (a.put o.dst v') w'):if Region.wanted o (yielded ops a.tmps)=true then Oper.wp Tryz.prog o a w K Q else E:=by
 have hw:Region.wanted o (yielded ops a.tmps)=true:=by simp[Region.wanted,hg]
 rw[if_pos hw]
 have hr:=hrun.out
 unfold Oper.wp
 simp[execOp,hop,resolve,invoke,builtin,hs,hx,hty,hr,Result.andThen]
 exact hK
structure Rs (w:World) (base b:Nat) (xs:List Value):Prop where
 le:base<=b
 all:∃ v,w.heap[b]?=some (.cells #[v] 97 (0,0))∧w.ownsRow base 29 1 v xs.length xs
structure Two (w:World) (b g cap:Nat) (r:Bool) (v0 v1:Value):Prop where
 no:r=false->Hp w b g cap 2 v0 v1
 yes:r=true->Hp w b g cap 2 v1 v0
theorem rs_ne {w:World} {base b n:Nat} {v u:Value} {xs:List Value} (h:w.heap[b]?=some (.cells #[u] 97 (0,0))) (o:w.ownsRow base 29 1 v n xs):v.ownBlock≠some b:=by
 intro e
 rcases o.2 with ⟨rfl,_⟩ | ⟨g,cap,cur,rfl,_,hg,_⟩
 ·
  cases e
 ·
  cases e
  rw[h] at hg
  simp at hg
theorem Rs.hp {w:World} {base b:Nat} {x:Value} {xs:List Value} (h:Rs w base b (x::xs)) (hl:xs.length<=1):∃ g cap,base<=g∧cap<=maxLen∧Hp w b g cap (xs.length+1) x (xs.headD x):=by
 obtain⟨le,v,hb,ho⟩:=h
 have ho':=ho
 rcases ho.2 with ⟨_,h0⟩ | ⟨g,cap,cur,rfl,hg,hw,hn,hm,_⟩
 ·
  simp at h0
 ·
  refine⟨g,cap,hg,hm,⟨fun e=>rs_ne hb ho' (by rw[e];rfl),(Array.getElem?_eq_some_iff.1 hb).1,(Array.getElem?_eq_some_iff.1 hw).1,by simpa using hn,by rw[Go.Lib.cell_of_heap hb];rfl,by simp[World.frozen?,hb],fun i hi=>?_,fun i=>World.ownsRow.frozenAt ho' i⟩⟩
  rw[World.ownsRow.cellAt ho' i (by simp;omega)]
  clear ho ho' hw
  rcases Nat.eq_zero_or_pos i with rfl | hp
  ·
   rfl
  ·
   have e1:i=1:=by omega
   subst e1
   cases xs with
   | nil=>simp at hi
   | cons y ys=>rfl
theorem rests_Push {w:World} {base b p o n c:Nat} {xs:List Value} (h:Rs w base b xs) (hl:xs.length<=1000) (hbs:base<=w.heap.size) :
  Calls Tryz.prog 135 #[.pointer (some ⟨b,0,none⟩),.iface 29 (sv p o n c)] w fun e w'=>e=.returned (.tuple #[])∧Rs w' base b (xs++[sv p o n c])∧Below base w w':=by
 obtain⟨i0,hi0,hz0,hz1,hz2⟩:=info_parts infoSl
 obtain⟨le,v,hb,ho⟩:=h
 obtain⟨v',w',hrun,r1,r2,r3⟩:=run_append_own (P:=Tryz.prog) (w.alloc (.cells #[sv p o n c] 29)).drew base 97 97 29 i0 (.slice none 0 0) 1 24 Tryz.underlying97 hi0 hz0 hz1 hz2 rfl (by decide) v xs.length xs (World.ownsRow.alloc ho _) ⟨w.heap.size,0,none⟩ 1 1 [sv p o n c] rfl (fun j u hj=>by
  match j,hj with
  | 0,hj=>simp at hj;subst hj;simp[Addr.add]) (fun u hu=>by simp at hu;subst hu;rfl) (by unfold maxLen;omega) (by omega) (by simp;omega)
 have hbl:=(Array.getElem?_eq_some_iff.1 hb).1
 have hb1:w'.heap[b]?=some (.cells #[v] 97 (0,0)):=(r2.block b (by simp;omega) (fun e=>rs_ne hb ho e.symm)).trans ((Below.heap_alloc _ _ _ hbl).trans hb)
 have c0:w.cell? ⟨b,0,none⟩=some v:=by rw[Go.Lib.cell_of_heap hb];rfl
 have c1:w'.cell? ⟨b,0,none⟩=some v:=by rw[Go.Lib.cell_of_heap hb1];rfl
 have f1:w'.frozen? ⟨b,0,none⟩=false:=by simp[World.frozen?,hb1]
 have hne:v'≠.slice none 0 0:=fun e=>by have:=(r3.1 e).2;omega
 have HF:Hid (Rs (w'.setCell ⟨b,0,none⟩ v') base b (xs++[sv p o n c])∧Below base w (w'.setCell ⟨b,0,none⟩ v')):=hidIt ⟨⟨le,v',by simp[World.setCell,Array.getElem?_modify,hb1],by
   rw[List.length_append]
   refine World.ownsRow.kept r1 (row:=some b) ⟨rfl,rfl,rfl,by simp[World.setCell],fun i hi hx=>Below.heap_setCell _ _ _ _ (fun e=>hx (by rw[e]))⟩ ?_
   exact .inr (fun e=>rs_ne hb1 r1 e)⟩,(((Below.refl base w).alloc hbs _).drew.grown r2 (by simp;omega) (fun k hk=>(World.ownsRow.lt ho k hk).1)).setCell (p:=⟨b,0,none⟩) le _⟩
 obtain⟨g,cap,ev⟩:∃ g cap,v'=.slice (some ⟨g,0,none⟩) (xs.length+1) cap:=by
  rcases r1.2 with ⟨e,_⟩ | ⟨g,cap,cur,e,_⟩
  ·
   exact absurd e hne
  ·
   exact⟨g,cap,e⟩
 subst ev
 obtain⟨va,vn,vc,evv⟩:∃ a m c,v=.slice a m c:=by
  rcases ho.2 with ⟨e,_⟩ | ⟨g,cap,cur,e,_⟩
  ·
   exact⟨_,_,_,e⟩
  ·
   exact⟨_,_,_,e⟩
 subst evv
 have HRun:=hidIt hrun
 clear r1 r2 r3 hb1 hb ho hne hi0 hz0 hz1 hz2 hrun
 go_enter Tryz.func135,Tryz.ntmps135
 go_wp2_with (fail)
 go_region_law (refine step_append_run HRun rfl (.tmp 7) (.tmp 10) rfl rfl (by simp[Act.eval]) (by simp[Act.eval]) ?_)
 all_goals exact bodyPost_end (v:=.tuple #[]) (by simp[results,Tryz.results135,go_sem]) rfl ⟨rfl,HF.out⟩
theorem up_none (b:Nat) (w:World):Calls Tryz.prog 105 #[hI b,.int .i64 0] w fun e w'=>e=.returned (.tuple #[])∧w'=w:=by
 go_enter Tryz.func105,Tryz.ntmps105
 go_wp2_with (fail)
 go_loopw [1] (fun y wx=>y=.int .i64 0∧Hid (wx=w)) (fun y _=>0)
 case atStart=>exact⟨rfl,hidIt rfl⟩
 case round =>
  obtain⟨rfl,HW⟩:=hrel
  go_wp2_with (fail)
  exact bodyPost_end (v:=.tuple #[]) (by simp[results,Tryz.results105,go_sem]) rfl ⟨rfl,HW.out⟩
theorem up_one {w:World} {b g cap p0 o0 n0 k0 p1 o1 n1 k1:Nat} {L0 L1:List Rw} (h:Hp w b g cap 2 (sv p0 o0 n0 k0) (sv p1 o1 n1 k1)) (h0:Rd w (some ⟨p0,o0,none⟩) L0) (h1:Rd w (some ⟨p1,o1,none⟩) L1) (e0:L0.length=n0) (e1:L1.length=n1) (z0:0<n0) (z1:0<n1) :
  Calls Tryz.prog 105 #[hI b,.int .i64 1] w fun e w'=>e=.returned (.tuple #[])∧Two w' b g cap (lessE (toE (rat L1 0)) (toE (rat L0 0))) (sv p0 o0 n0 k0) (sv p1 o1 n1 k1)∧Fr b g w w':=by
 have CL:=hidIt (rests_Less h h0 h1 e0 e1 z0 z1)
 have CS:=hidIt (fun W (h:Hp W b g cap 2 (sv p0 o0 n0 k0) (sv p1 o1 n1 k1))=>rests_Swap01 h)
 have HH:=hidIt h
 have me:=h.me
 clear h h0 h1 e0 e1 z0 z1
 generalize lessE (toE (rat L1 0)) (toE (rat L0 0))=r at CL ⊢
 go_enter Tryz.func105,Tryz.ntmps105
 go_wp2_with (fail)
 go_loopw [1] (fun y wx=>(y=.int .i64 1∧Hid (wx=w))∨(y=.int .i64 0∧Hid (r=true)∧Hid (Hp wx b g cap 2 (sv p1 o1 n1 k1) (sv p0 o0 n0 k0))∧Hid (Fr b g w wx))) (fun y _=>(intOf y).toNat)
 case atStart=>exact .inl ⟨rfl,hidIt rfl⟩
 case round =>
  rcases hrel with ⟨rfl,HW⟩ | ⟨rfl,HR,HP,HF⟩
  ·
   have ew:=HW.out
   subst ew
   go_wp2_with (fail)
   refine CL.out.mono ?_
   rintro e w1 ⟨rfl,k1⟩
   have HP1:=hidIt (HH.out.kept k1)
   have HF1:=hidIt (Fr.of_below (b:=b) (g:=g) k1)
   have me1:=HP1.out.me
   clear k1
   cases r with
   | false =>
    go_wp2_with (fail)
    exact bodyPost_end (v:=.tuple #[]) (by simp[results,Tryz.results105,go_sem]) rfl ⟨rfl,⟨fun _=>HP1.out,fun h=>by cases h⟩,HF1.out⟩
   | true =>
    go_wp2_with (fail)
    refine (CS.out _ HP1.out).mono ?_
    rintro e w2 ⟨rfl,p2,f2⟩
    have HP2:=hidIt p2
    have HF2:=hidIt (HF1.out.trans f2)
    clear p2 f2
    go_wp2_with (fail)
    exact⟨.inr ⟨rfl,by first | exact hidIt rfl | exact hidIt trivial,HP2,HF2⟩,by simp[intOf]⟩
  ·
   go_wp2_with (fail)
   exact bodyPost_end (v:=.tuple #[]) (by simp[results,Tryz.results105,go_sem]) rfl ⟨rfl,⟨fun h=>absurd (HR.out.symm.trans h) (by decide),fun _=>HP.out⟩,HF.out⟩
theorem down_none (b n:Nat) (w:World) (hn:n<=1):Calls Tryz.prog 115 #[hI b,.int .i64 0,.int .i64 n] w fun e w'=>e=.returned (.bool false)∧w'=w:=by
 have h1:(n:Int)<=1:=by omega
 go_enter Tryz.func115,Tryz.ntmps115
 go_wp2_with (fail)
 go_loopw [7] (fun y wx=>y=.int .i64 0∧Hid (wx=w)) (fun y _=>0)
 case atStart=>exact⟨rfl,hidIt rfl⟩
 case round =>
  obtain⟨rfl,HW⟩:=hrel
  go_wp2_with (fail)
  go_ret
  exact⟨rfl,HW.out⟩
theorem down_two {w:World} {b g cap p0 o0 n0 k0 p1 o1 n1 k1:Nat} {L0 L1:List Rw} (h:Hp w b g cap 2 (sv p0 o0 n0 k0) (sv p1 o1 n1 k1)) (h0:Rd w (some ⟨p0,o0,none⟩) L0) (h1:Rd w (some ⟨p1,o1,none⟩) L1) (e0:L0.length=n0) (e1:L1.length=n1) (z0:0<n0) (z1:0<n1) :
  Calls Tryz.prog 115 #[hI b,.int .i64 0,.int .i64 2] w fun e w'=>e=.returned (.bool (lessE (toE (rat L1 0)) (toE (rat L0 0))))∧Two w' b g cap (lessE (toE (rat L1 0)) (toE (rat L0 0))) (sv p0 o0 n0 k0) (sv p1 o1 n1 k1)∧Fr b g w w':=by
 have CL:=hidIt (rests_Less h h0 h1 e0 e1 z0 z1)
 have CS:=hidIt (fun W (h:Hp W b g cap 2 (sv p0 o0 n0 k0) (sv p1 o1 n1 k1))=>rests_Swap01 h)
 have HH:=hidIt h
 have me:=h.me
 clear h h0 h1 e0 e1 z0 z1
 generalize lessE (toE (rat L1 0)) (toE (rat L0 0))=r at CL ⊢
 go_enter Tryz.func115,Tryz.ntmps115
 go_wp2_with (fail)
 go_loopw [7] (fun y wx=>(y=.int .i64 0∧Hid (wx=w))∨(y=.int .i64 1∧Hid (r=true)∧Hid (Hp wx b g cap 2 (sv p1 o1 n1 k1) (sv p0 o0 n0 k0))∧Hid (Fr b g w wx))) (fun y _=>(1 - intOf y).toNat)
 case atStart=>exact .inl ⟨rfl,hidIt rfl⟩
 case round =>
  rcases hrel with ⟨rfl,HW⟩ | ⟨rfl,HR,HP,HF⟩
  ·
   have ew:=HW.out
   subst ew
   go_wp2_with (fail)
   refine CL.out.mono ?_
   rintro e w1 ⟨rfl,k1⟩
   have HP1:=hidIt (HH.out.kept k1)
   have HF1:=hidIt (Fr.of_below (b:=b) (g:=g) k1)
   have me1:=HP1.out.me
   clear k1
   cases r with
   | false =>
    go_wp2_with (fail)
    go_ret
    exact⟨rfl,⟨fun _=>HP1.out,fun h=>by cases h⟩,HF1.out⟩
   | true =>
    go_wp2_with (fail)
    refine (CS.out _ HP1.out).mono ?_
    rintro e w2 ⟨rfl,p2,f2⟩
    have HP2:=hidIt p2
    have HF2:=hidIt (HF1.out.trans f2)
    clear p2 f2
    go_wp2_with (fail)
    exact⟨.inr ⟨rfl,by first | exact hidIt rfl | exact hidIt trivial,HP2,HF2⟩,by simp[intOf]⟩
  ·
   have er:=HR.out
   subst er
   go_wp2_with (fail)
   go_ret
   exact⟨rfl,⟨fun h=>(by cases h),fun _=>HP.out⟩,HF.out⟩
end Go.Proofs.YtkeapmmochpcfaaGreat.En
namespace Go.Proofs.YtkeapmmochpcfaaGreat.En
open Go.ChangeShapes Go.WideShapes Go.ChangeAt Go.RowKit
open Bk (Bytes okE newB okBk Ris IsJoin joinB lessE)
attribute [local go_sem] m_Len m_Less m_Swap m_Push m_Pop as_book
theorem heap_Push0 {w:World} {base b p o n c:Nat} (h:Rs w base b []) (hbs:base<=w.heap.size) :
  Calls Tryz.prog 67 #[hI b,.iface 29 (sv p o n c)] w fun e w'=>e=.returned (.tuple #[])∧Rs w' base b [sv p o n c]∧Below base w w':=by
 have CP:=hidIt (rests_Push (p:=p) (o:=o) (n:=n) (c:=c) h (by simp) hbs)
 have CL:=hidIt (fun a n c W=>rests_Len a n c W)
 have CU:=hidIt (fun W=>up_none b W)
 clear h
 go_enter Tryz.func67,Tryz.ntmps67
 go_wp2_with (fail)
 refine CP.out.mono ?_
 rintro e w1 ⟨rfl,r1,k1⟩
 obtain⟨g,cap,hg,hcm,hp⟩:=r1.hp (by simp)
 have me:=hp.me
 have HR1:=hidIt r1
 have HK1:=hidIt k1
 clear r1 k1 hp hcm
 simp only[List.length_nil,Nat.zero_add] at me
 go_wp2_with (fail)
 refine (CL.out _ _ _ _).mono ?_
 rintro e w2 ⟨rfl,rfl⟩
 go_wp2_with (fail)
 refine (CU.out _).mono ?_
 rintro e w3 ⟨rfl,rfl⟩
 go_wp2_with (fail)
 exact bodyPost_end (v:=.tuple #[]) (by simp[results,Tryz.results67,go_sem]) rfl ⟨rfl,HR1.out,HK1.out⟩
theorem heap_Push1 {w:World} {base b p0 o0 n0 k0 p1 o1 n1 k1:Nat} {L0 L1:List Rw} (h:Rs w base b [sv p0 o0 n0 k0]) (hbs:base<=w.heap.size) (h0:Rd w (some ⟨p0,o0,none⟩) L0) (h1:Rd w (some ⟨p1,o1,none⟩) L1) (e0:L0.length=n0) (e1:L1.length=n1) (z0:0<n0) (z1:0<n1) (q0:p0<base) (q1:p1<base) :
  Calls Tryz.prog 67 #[hI b,.iface 29 (sv p1 o1 n1 k1)] w fun e w'=>e=.returned (.tuple #[])∧(∃ g cap,base<=g∧cap<=maxLen∧Two w' b g cap (lessE (toE (rat L1 0)) (toE (rat L0 0))) (sv p0 o0 n0 k0) (sv p1 o1 n1 k1))∧Below base w w':=by
 have CP:=hidIt (rests_Push (p:=p1) (o:=o1) (n:=n1) (c:=k1) h (by simp) hbs)
 have CL:=hidIt (fun a n c W=>rests_Len a n c W)
 have HB:=hidIt h.le
 have H0:=hidIt (fun W (k:Below base w W)=>h0.kept' k q0)
 have H1:=hidIt (fun W (k:Below base w W)=>h1.kept' k q1)
 have CU:=hidIt (fun W g cap (h:Hp W b g cap 2 (sv p0 o0 n0 k0) (sv p1 o1 n1 k1)) h0 h1=>up_one (L0:=L0) (L1:=L1) h h0 h1 e0 e1 z0 z1)
 clear h h0 h1 e0 e1 z0 z1
 generalize lessE (toE (rat L1 0)) (toE (rat L0 0))=r at CU ⊢
 go_enter Tryz.func67,Tryz.ntmps67
 go_wp2_with (fail)
 refine CP.out.mono ?_
 rintro e w1 ⟨rfl,r1,kk1⟩
 obtain⟨g,cap,hg,hcm,hp⟩:=r1.hp (by simp)
 have HP:Hid (Hp w1 b g cap 2 (sv p0 o0 n0 k0) (sv p1 o1 n1 k1)):=hidIt hp
 have me:=HP.out.me
 have HK1:=hidIt kk1
 have HG:=hidIt (And.intro hg hcm)
 clear r1 kk1 hp hcm hg
 go_wp2_with (fail)
 refine (CL.out _ _ _ _).mono ?_
 rintro e w2 ⟨rfl,rfl⟩
 go_wp2_with (fail)
 refine (CU.out _ _ _ HP.out (H0.out _ HK1.out) (H1.out _ HK1.out)).mono ?_
 rintro e w3 ⟨rfl,t3,f3⟩
 have HT:=hidIt t3
 have HK3:=hidIt (HK1.out.trans (f3.below HB.out HG.out.1 (Nat.le_trans hbs HK1.out.size)))
 clear t3 f3
 go_wp2_with (fail)
 exact bodyPost_end (v:=.tuple #[]) (by simp[results,Tryz.results67,go_sem]) rfl ⟨rfl,⟨g,cap,HG.out.1,HG.out.2,HT.out⟩,HK3.out⟩
theorem heap_Pop1 {w:World} {b g cap p0 o0 n0 k0:Nat} {v1:Value} (h:Hp w b g cap 1 (sv p0 o0 n0 k0) v1) (hc:cap<=maxLen) :
  Calls Tryz.prog 103 #[hI b] w fun e w'=>(∃ v,e=.returned v)∧Hp w' b g cap 0 (sv p0 o0 n0 k0) v1∧Fr b g w w':=by
 have CL:=hidIt (fun a n c W=>rests_Len a n c W)
 have CS:=hidIt (fun W (h:Hp W b g cap 1 (sv p0 o0 n0 k0) v1)=>rests_Swap00 h)
 have CD:=hidIt (fun W=>down_none b 0 W (by omega))
 have CP:=hidIt (fun W (h:Hp W b g cap 1 (sv p0 o0 n0 k0) v1)=>rests_Pop (n:=0) h (by omega) hc)
 have me:=h.me
 have HH:=hidIt h
 clear h
 go_enter Tryz.func103,Tryz.ntmps103
 go_wp2_with (fail)
 refine (CL.out _ _ _ _).mono ?_
 rintro e w2 ⟨rfl,rfl⟩
 go_wp2_with (fail)
 refine (CS.out _ HH.out).mono ?_
 rintro e w3 ⟨rfl,h3,f3⟩
 have HH3:=hidIt h3
 have HF3:=hidIt f3
 have me3:=h3.me
 clear h3 f3
 go_wp2_with (fail)
 refine (CD.out _).mono ?_
 rintro e w4 ⟨rfl,rfl⟩
 go_wp2_with (fail)
 refine (CP.out _ HH3.out).mono ?_
 rintro e w5 ⟨⟨v,rfl⟩,h5,f5⟩
 have HH5:=hidIt h5
 have HF5:=hidIt (HF3.out.trans f5)
 clear h5 f5
 go_wp2_with (fail)
 go_ret
 exact⟨⟨_,rfl⟩,HH5.out,HF5.out⟩
theorem heap_Pop2 {w:World} {b g cap p0 o0 n0 k0 p1 o1 n1 k1:Nat} (h:Hp w b g cap 2 (sv p0 o0 n0 k0) (sv p1 o1 n1 k1)) (hc:cap<=maxLen) :
  Calls Tryz.prog 103 #[hI b] w fun e w'=>(∃ v,e=.returned v)∧Hp w' b g cap 1 (sv p1 o1 n1 k1) (sv p0 o0 n0 k0)∧Fr b g w w':=by
 have CL:=hidIt (fun a n c W=>rests_Len a n c W)
 have CS:=hidIt (rests_Swap01 h)
 have CD:=hidIt (fun W=>down_none b 1 W (by omega))
 have CP:=hidIt (fun W (h:Hp W b g cap 2 (sv p1 o1 n1 k1) (sv p0 o0 n0 k0))=>rests_Pop (n:=1) h (by omega) hc)
 have me:=h.me
 clear h
 go_enter Tryz.func103,Tryz.ntmps103
 go_wp2_with (fail)
 refine (CL.out _ _ _ _).mono ?_
 rintro e w2 ⟨rfl,rfl⟩
 go_wp2_with (fail)
 refine CS.out.mono ?_
 rintro e w3 ⟨rfl,h3,f3⟩
 have HH3:=hidIt h3
 have HF3:=hidIt f3
 have me3:=h3.me
 clear h3 f3
 go_wp2_with (fail)
 refine (CD.out _).mono ?_
 rintro e w4 ⟨rfl,rfl⟩
 go_wp2_with (fail)
 refine (CP.out _ HH3.out).mono ?_
 rintro e w5 ⟨⟨v,rfl⟩,h5,f5⟩
 have HH5:=hidIt h5
 have HF5:=hidIt (HF3.out.trans f5)
 clear h5 f5
 go_wp2_with (fail)
 go_ret
 exact⟨⟨_,rfl⟩,HH5.out,HF5.out⟩
theorem heap_Fix1 {w:World} {b g cap:Nat} {v0 v1:Value} (h:Hp w b g cap 1 v0 v1) :
  Calls Tryz.prog 104 #[hI b,.int .i64 0] w fun e w'=>e=.returned (.tuple #[])∧w'=w:=by
 have CL:=hidIt (fun a n c W=>rests_Len a n c W)
 have CD:=hidIt (fun W=>down_none b 1 W (by omega))
 have CU:=hidIt (fun W=>up_none b W)
 have me:=h.me
 clear h
 go_enter Tryz.func104,Tryz.ntmps104
 go_wp2_with (fail)
 refine (CL.out _ _ _ _).mono ?_
 rintro e w2 ⟨rfl,rfl⟩
 go_wp2_with (fail)
 refine (CD.out _).mono ?_
 rintro e w4 ⟨rfl,rfl⟩
 go_wp2_with (fail)
 refine (CU.out _).mono ?_
 rintro e w5 ⟨rfl,rfl⟩
 go_wp2_with (fail)
 exact bodyPost_end (v:=.tuple #[]) (by simp[results,Tryz.results104,go_sem]) rfl ⟨rfl,rfl⟩
theorem heap_Fix2 {w:World} {b g cap p0 o0 n0 k0 p1 o1 n1 k1:Nat} {L0 L1:List Rw} (h:Hp w b g cap 2 (sv p0 o0 n0 k0) (sv p1 o1 n1 k1)) (h0:Rd w (some ⟨p0,o0,none⟩) L0) (h1:Rd w (some ⟨p1,o1,none⟩) L1) (e0:L0.length=n0) (e1:L1.length=n1) (z0:0<n0) (z1:0<n1) :
  Calls Tryz.prog 104 #[hI b,.int .i64 0] w fun e w'=>e=.returned (.tuple #[])∧Two w' b g cap (lessE (toE (rat L1 0)) (toE (rat L0 0))) (sv p0 o0 n0 k0) (sv p1 o1 n1 k1)∧Fr b g w w':=by
 have CL:=hidIt (fun a n c W=>rests_Len a n c W)
 have CD:=hidIt (down_two h h0 h1 e0 e1 z0 z1)
 have CU:=hidIt (fun W=>up_none b W)
 have me:=h.me
 clear h h0 h1 e0 e1 z0 z1
 generalize lessE (toE (rat L1 0)) (toE (rat L0 0))=r at CD ⊢
 cases r with
 | false =>
  go_enter Tryz.func104,Tryz.ntmps104
  go_wp2_with (fail)
  refine (CL.out _ _ _ _).mono ?_
  rintro e w2 ⟨rfl,rfl⟩
  go_wp2_with (fail)
  refine CD.out.mono ?_
  rintro e w4 ⟨rfl,t4,f4⟩
  have HT:=hidIt t4
  have HF:=hidIt f4
  clear t4 f4
  go_wp2_with (fail)
  refine (CU.out _).mono ?_
  rintro e w5 ⟨rfl,rfl⟩
  go_wp2_with (fail)
  exact bodyPost_end (v:=.tuple #[]) (by simp[results,Tryz.results104,go_sem]) rfl ⟨rfl,HT.out,HF.out⟩
 | true =>
  go_enter Tryz.func104,Tryz.ntmps104
  go_wp2_with (fail)
  refine (CL.out _ _ _ _).mono ?_
  rintro e w2 ⟨rfl,rfl⟩
  go_wp2_with (fail)
  refine CD.out.mono ?_
  rintro e w4 ⟨rfl,t4,f4⟩
  have HT:=hidIt t4
  have HF:=hidIt f4
  clear t4 f4
  go_wp2_with (fail)
  exact bodyPost_end (v:=.tuple #[]) (by simp[results,Tryz.results104,go_sem]) rfl ⟨rfl,HT.out,HF.out⟩
end Go.Proofs.YtkeapmmochpcfaaGreat.En
