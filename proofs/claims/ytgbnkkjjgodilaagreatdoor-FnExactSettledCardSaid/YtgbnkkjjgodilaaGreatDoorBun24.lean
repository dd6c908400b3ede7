/- l17Copy and l18Copy of the specification: a Node and a Cluster copied. (Written by wip/mkCp.py.) -/
import Derived.Test.YtgbnkkjjgodilaaGreatDoorBun20
import Derived.Test.YtgbnkkjjgodilaaGreatDoorBun23
import Derived.Test.YtgbnkkjjgodilaaGreatDoorBun3
import Derived.Test.YtgbnkkjjgodilaaGreatDoorBun19
import Derived.Test.YtgbnkkjjgodilaaGreatDoorBun22
import Derived.Test.YtgbnkkjjgodilaaGreatDoorBun13
import Derived.Test.YtgbnkkjjgodilaaGreatDoorBun12
import Derived.Test.YtgbnkkjjgodilaaGreatDoorBoxM
import Derived.Laws.AppendOwnNone
set_option maxRecDepth 100000
set_option maxHeartbeats 32000000
set_option linter.unusedVariables false
namespace Go.Proofs.YtgbnkkjjgodilaaGreatDoor.Kc
open Go.ChangeShapes Go.WideShapes Go.ChangeAt Go.RowKit
open Vv (Sl sv hidIt)
open Nd (Nw RdN OwnN ShortN SmallN)
open Ns (nod Nx Fx)
open Rp (OnlyIn own_apart row_in row_other)
open Rg (upd waits wp_region_inv op_at no1 step_row step_copy One Mt Ty box_grown box_only below_grown below_only row_grown row_only box_cells)
def Cp1 (lo : Nat) (bk : List En.Rw) (mm : List Mm.Rw) (u : Value) (W : World) : Prop:=∃ p q : Sl,Vv.Own W lo u [(p,q)] ∧ En.Own W lo (sv p) bk ∧ Mm.Own W lo (sv q) mm
def Cp2 (lo : Nat) (bk : List En.Rw) (mm : List Mm.Rw) (u : Value) (W : World) : Prop:=∃ p q : Sl,u = .agg #[sv p,sv q] ∧ En.Own W lo (sv p) bk ∧ Mm.Own W lo (sv q) mm
theorem Cp1.kept {lo : Nat} {bk : List En.Rw} {mm : List Mm.Rw} {u : Value} {W W' : World} (h : Cp1 lo bk mm u W) (k : Below W.heap.size W W') : Cp1 lo bk mm u W':=by
 obtain ⟨p,q,a,b,c⟩:=h
 exact ⟨p,q,a.kept k,b.kept k,c.kept k⟩
theorem Cp2.kept {lo : Nat} {bk : List En.Rw} {mm : List Mm.Rw} {u : Value} {W W' : World} (h : Cp2 lo bk mm u W) (k : Below W.heap.size W W') : Cp2 lo bk mm u W':=by
 obtain ⟨p,q,a,b,c⟩:=h
 exact ⟨p,q,a,b.kept k,c.kept k⟩
theorem Cp1.grown {lo b T s n : Nat} {bk : List En.Rw} {mm : List Mm.Rw} {u v : Value} {xs : List Value} {W W' : World} (h : Cp1 lo bk mm u W) (o : W.ownsRow b T s v n xs) (h1 : 43 ≠ T) (h2 : 98 ≠ T) (h3 : 100 ≠ T) (k : W.grownBy W' v.ownBlock) : Cp1 lo bk mm u W':=by
 obtain ⟨p,q,x,y,z⟩:=h
 exact ⟨p,q,row_grown x k (own_apart x o h1),row_grown y k (own_apart y o h2),row_grown z k (own_apart z o h3)⟩
theorem Cp2.grown {lo b T s n : Nat} {bk : List En.Rw} {mm : List Mm.Rw} {u v : Value} {xs : List Value} {W W' : World} (h : Cp2 lo bk mm u W) (o : W.ownsRow b T s v n xs) (h1 : 43 ≠ T) (h2 : 98 ≠ T) (h3 : 100 ≠ T) (k : W.grownBy W' v.ownBlock) : Cp2 lo bk mm u W':=by
 obtain ⟨p,q,x,y,z⟩:=h
 exact ⟨p,q,x,row_grown y k (own_apart y o h2),row_grown z k (own_apart z o h3)⟩
theorem Cp1.form {lo : Nat} {bk : List En.Rw} {mm : List Mm.Rw} {u : Value} {W : World} (h : Cp1 lo bk mm u W) : ∃ g c,u = .slice (some ⟨g,0,none⟩) 1 c:=by
 obtain ⟨p,q,a,_,_⟩:=h
 rcases a.2 with ⟨_,e⟩ | ⟨g,cap,cur,e,_⟩
 ·
  simp at e
 ·
  exact ⟨g,cap,e⟩
theorem Cp1.cells {lo g c : Nat} {bk : List En.Rw} {mm : List Mm.Rw} {W : World} (h : Cp1 lo bk mm (.slice (some ⟨g,0,none⟩) 1 c) W) : ∃ p q : Sl,W.cell? ⟨g,0,none⟩ = some (sv p) ∧ W.cell? ⟨g,1,none⟩ = some (sv q) ∧ En.Own W lo (sv p) bk ∧ Mm.Own W lo (sv q) mm:=by
 obtain ⟨p,q,a,b,d⟩:=h
 have c0:=a.at (i:=0) (j:=0) (by simp) (by omega)
 have c1:=a.at (i:=0) (j:=1) (by simp) (by omega)
 exact ⟨p,q,c0,c1,b,d⟩
theorem Cp1.of {W W' : World} {lo : Nat} {bk : List En.Rw} {mm : List Mm.Rw} {v : Value} (h : Rp.Own W' W.heap.size W'.heap.size v [(bk,mm)]) (hl : lo ≤ W.heap.size) : Cp1 lo bk mm v W':=by
 obtain ⟨C,c⟩:=h
 have hl1 : C.length = 1:=c.len
 match C,c,hl1 with
 | [(p,q)],c,_=>exact ⟨p,q,c.row.mono hl,(c.bk 0 (by simp)).mono hl,(c.mb 0 (by simp)).mono hl⟩
theorem own_low {w w' : World} {lo c : Nat} {x : Nw} {e m b g : Sl} (h : OwnN w lo x e m b g) (k : Only c w w') (hc : c < lo) : OwnN w' lo x e m b g :=
 have f : ∀ {u : Value} {T s n : Nat} {xs : List Value},w.ownsRow lo T s u n xs → w'.ownsRow lo T s u n xs:=fun o=>row_only o k (fun y hy e=>by have:=(World.ownsRow.lt o y hy).1; omega)
 ⟨f h.e,f h.m,f h.b,f h.g⟩
theorem okN_parts {x : Nw} (h : Nd.okN x = true) : Rp.Tame [(x.book,x.mem)] ∧ x.book.length ≤ 80 ∧ x.mem.length ≤ 8 ∧ x.buc.length ≤ 20 ∧ x.log.length ≤ 300:=by
 unfold Nd.okN at h
 simp only [Bool.and_eq_true] at h
 obtain ⟨h1,h2,_,h4,h5,_⟩:=h
 have t : Rp.Tame [(x.book,x.mem)]:=Rp.tame_of (by simp) (fun i hi=>by
  have : i = 0:=by simp at hi; exact hi
  subst this
  show Rp.okR (x.book,x.mem) = true
  unfold Rp.okR
  rw [Bool.and_eq_true]
  exact ⟨h1,h2⟩)
 exact ⟨t,t.bl 0 (by simp),t.ml 0 (by simp),Bu.okB_len h4,(Lg.of_okL h5).1⟩
structure RC (gp gr : Nat) (bk : List En.Rw) (mm : List Mm.Rw) (ph mn ol nw tm : Int) (bu : List Bu.Rw) (lg : List Lg.Ln) (ap : ByteArray) (e0 : Option Addr) (e1 e2 : Nat) (t0 : Option Addr) (t1 t2 : Nat) (b0 : Option Addr) (b1 b2 : Nat) (g0 : Option Addr) (g1 g2 : Nat) (w w0 : World) (L : Nat → Bool) (u3 u4 u5 u6 u7 u8 u9 u10 u11 u12 u13 u14 u15 u16 u17 u18 u19 u20 u21 : Value) (W : World) : Prop where
 k0 : L 0 = true → u3 = .pointer (some ⟨gp,0,none⟩)
 k1 : L 1 = true → u4 = .agg #[.slice e0 e1 e2,.slice t0 t1 t2]
 k6 : L 6 = true → u9 = .pointer (some ⟨gp,2,none⟩)
 k7 : L 7 = true → u10 = .agg #[.int .i64 ph,.int .i64 mn,.int .i64 ol,.int .i64 nw,.int .i64 tm]
 k9 : L 9 = true → u12 = .pointer (some ⟨gp,7,none⟩)
 k10 : L 10 = true → u13 = .slice b0 b1 b2
 k13 : L 13 = true → u16 = .pointer (some ⟨gp,8,none⟩)
 k14 : L 14 = true → u17 = .slice g0 g1 g2
 k16 : L 16 = true → u19 = .pointer (some ⟨gp,9,none⟩)
 k17 : L 17 = true → u20 = .string ap
 kb : L 19 = false → Below w0.heap.size w0 W
 f2 : L 2 = true → L 3 = false → L 19 = false → ∃ bl,u5 = .slice (some ⟨bl,0,none⟩) 1 1 ∧ Vv.Own W w0.heap.size u5 [((e0,e1,e2),(t0,t1,t2))]
 f3 : L 3 = true → L 19 = false → Cp1 w0.heap.size bk mm u6 W
 f4 : L 4 = true → ∃ g c,u6 = .slice (some ⟨g,0,none⟩) 1 c ∧ u7 = .pointer (some ⟨g,0,none⟩)
 f5 : L 5 = true → L 19 = false → Cp2 w0.heap.size bk mm u8 W
 f8 : L 8 = true → L 11 = false → L 19 = false → Mt w0.heap.size 102 3 u11 W
 f11 : L 11 = true → L 19 = false → Bu.Own W w0.heap.size u14 bu
 f12 : L 12 = true → L 15 = false → L 19 = false → Mt w0.heap.size 104 2 u15 W
 f15 : L 15 = true → L 19 = false → Lg.Own W w0.heap.size u18 lg
 f18 : L 18 = true → L 19 = false → Nx w0.heap.size ⟨bk,mm,ph,mn,ol,nw,tm,bu,lg,ap⟩ u21 W
 fin : L 19 = true → ∃ e m b g : Sl,Bo.Box W gr (Nd.nc ⟨bk,mm,ph,mn,ol,nw,tm,bu,lg,ap⟩ e m b g) ∧ OwnN W w0.heap.size ⟨bk,mm,ph,mn,ol,nw,tm,bu,lg,ap⟩ e m b g ∧ Below w.heap.size w W
 p19_1 : L 19 = true → L 1 = true
 p19_2 : L 19 = true → L 2 = true
 p19_3 : L 19 = true → L 3 = true
 p19_4 : L 19 = true → L 4 = true
 p19_5 : L 19 = true → L 5 = true
 p19_7 : L 19 = true → L 7 = true
 p19_8 : L 19 = true → L 8 = true
 p19_10 : L 19 = true → L 10 = true
 p19_11 : L 19 = true → L 11 = true
 p19_12 : L 19 = true → L 12 = true
 p19_14 : L 19 = true → L 14 = true
 p19_15 : L 19 = true → L 15 = true
 p19_17 : L 19 = true → L 17 = true
 p19_18 : L 19 = true → L 18 = true
 p11_3 : L 11 = true → L 3 = true
 p5_4 : L 5 = true → L 4 = true
 p4_3 : L 4 = true → L 3 = true
 p18_11 : L 18 = true → L 11 = true
 p18_15 : L 18 = true → L 15 = true
def KC (gp gr : Nat) (bk : List En.Rw) (mm : List Mm.Rw) (ph mn ol nw tm : Int) (bu : List Bu.Rw) (lg : List Lg.Ln) (ap : ByteArray) (e0 : Option Addr) (e1 e2 : Nat) (t0 : Option Addr) (t1 t2 : Nat) (b0 : Option Addr) (b1 b2 : Nat) (g0 : Option Addr) (g1 g2 : Nat) (w w0 : World) (y0 y1 y2 : Value) (L : Nat → Bool) (a : Act) (W : World) : Prop:=∃ u3 u4 u5 u6 u7 u8 u9 u10 u11 u12 u13 u14 u15 u16 u17 u18 u19 u20 u21 : Value,a = ⟨(y0 :: y1 :: y2 :: u3 :: u4 :: u5 :: u6 :: u7 :: u8 :: u9 :: u10 :: u11 :: u12 :: u13 :: u14 :: u15 :: u16 :: u17 :: u18 :: u19 :: u20 :: u21 :: []).toArray,[]⟩ ∧ RC gp gr bk mm ph mn ol nw tm bu lg ap e0 e1 e2 t0 t1 t2 b0 b1 b2 g0 g1 g2 w w0 L u3 u4 u5 u6 u7 u8 u9 u10 u11 u12 u13 u14 u15 u16 u17 u18 u19 u20 u21 W
theorem spec_l17Copy (x : Nw) (e m b g : Sl) (lo : Nat) (w : World) (h : OwnN w lo x e m b g) (ok : Nd.okN x = true) : Calls Tryz.prog 49 #[Nd.nv x e m b g] w fun en w'=>Nd.NodP w x en w':=by
 obtain ⟨i0,hi0,hz0,hz1,hz2⟩:=info_parts Bu.infoRw
 obtain ⟨j0,hj0,hy0,hy1,hy2⟩:=info_parts Lg.infoLn
 have OWN:=h
 obtain ⟨bk,mm,ph,mn,ol,nw,tm,bu,lg,ap⟩:=x
 obtain ⟨e0,e1,e2⟩:=e
 obtain ⟨t0,t1,t2⟩:=m
 obtain ⟨b0,b1,b2⟩:=b
 obtain ⟨g0,g1,g2⟩:=g
 obtain ⟨hT,hbk,hmm,hbu,hlg⟩:=okN_parts ok
 simp only at hT hbk hmm hbu hlg OWN
 have kA : Below w.heap.size w ((w.alloc (.cells #[.slice e0 e1 e2,.slice t0 t1 t2,.int .i64 ph,.int .i64 mn,.int .i64 ol,.int .i64 nw,.int .i64 tm,.slice b0 b1 b2,.slice g0 g1 g2,.string ap] 49)).alloc (.cells #[.slice none 0 0,.slice none 0 0,.int .i64 0,.int .i64 0,.int .i64 0,.int .i64 0,.int .i64 0,.slice none 0 0,.slice none 0 0,.string ⟨#[]⟩] 49)):=((Below.refl w.heap.size w).alloc (Nat.le_refl _) _).alloc (by simp) _
 have O0:=OWN.kept kA
 have hsz0 : ((w.alloc (.cells #[.slice e0 e1 e2,.slice t0 t1 t2,.int .i64 ph,.int .i64 mn,.int .i64 ol,.int .i64 nw,.int .i64 tm,.slice b0 b1 b2,.slice g0 g1 g2,.string ap] 49)).alloc (.cells #[.slice none 0 0,.slice none 0 0,.int .i64 0,.int .i64 0,.int .i64 0,.int .i64 0,.int .i64 0,.slice none 0 0,.slice none 0 0,.string ⟨#[]⟩] 49)).heap.size = w.heap.size + 1 + 1:=by simp
 have BP : Bo.Box ((w.alloc (.cells #[.slice e0 e1 e2,.slice t0 t1 t2,.int .i64 ph,.int .i64 mn,.int .i64 ol,.int .i64 nw,.int .i64 tm,.slice b0 b1 b2,.slice g0 g1 g2,.string ap] 49)).alloc (.cells #[.slice none 0 0,.slice none 0 0,.int .i64 0,.int .i64 0,.int .i64 0,.int .i64 0,.int .i64 0,.slice none 0 0,.slice none 0 0,.string ⟨#[]⟩] 49)) w.heap.size #[.slice e0 e1 e2,.slice t0 t1 t2,.int .i64 ph,.int .i64 mn,.int .i64 ol,.int .i64 nw,.int .i64 tm,.slice b0 b1 b2,.slice g0 g1 g2,.string ap]:=(Bo.Box.new w _ _).alloc _
 have BQ : Bo.Box ((w.alloc (.cells #[.slice e0 e1 e2,.slice t0 t1 t2,.int .i64 ph,.int .i64 mn,.int .i64 ol,.int .i64 nw,.int .i64 tm,.slice b0 b1 b2,.slice g0 g1 g2,.string ap] 49)).alloc (.cells #[.slice none 0 0,.slice none 0 0,.int .i64 0,.int .i64 0,.int .i64 0,.int .i64 0,.int .i64 0,.slice none 0 0,.slice none 0 0,.string ⟨#[]⟩] 49)) (w.heap.size + 1) #[.slice none 0 0,.slice none 0 0,.int .i64 0,.int .i64 0,.int .i64 0,.int .i64 0,.int .i64 0,.slice none 0 0,.slice none 0 0,.string ⟨#[]⟩]:=Bo.Box.newAt (by simp)
 have HT:=hidIt hT
 have hE:=Rp.rdE_of O0.e
 have hM:=Rp.rdM_of O0.m
 obtain ⟨ba,bc,eb,_,_,rB,nB,fB⟩:=O0.b.form
 obtain ⟨ga,gc,eg,_,_,rG,nG,fG⟩:=O0.g.form
 simp only [sv,Value.slice.injEq] at eb eg
 obtain ⟨rfl,hb1,rfl⟩:=eb
 obtain ⟨rfl,hg1,rfl⟩:=eg
 have HBl : Hid (bu.length = b1):=hidIt hb1.symm
 have HGl : Hid (lg.length = g1):=hidIt hg1.symm
 have HBs : Hid (b1 ≤ 20):=hidIt (by omega)
 have HGs : Hid (g1 ≤ 300):=hidIt (by omega)
 have HBn : Hid (b0 = none → b1 = 0 ∧ b2 = 0):=hidIt (fun z=>by
  refine ⟨?_,nB z⟩
  subst z
  have hn : bu = []:=rB.none_nil
  rw [hb1,hn]
  rfl)
 have HGn : Hid (g0 = none → g1 = 0 ∧ g2 = 0):=hidIt (fun z=>by
  refine ⟨?_,nG z⟩
  rcases O0.g.2 with ⟨e,_⟩ | ⟨gg,cc,cur,e,_⟩
  ·
   simp only [sv,Value.slice.injEq] at e
   exact e.2.1
  ·
   simp only [sv,Value.slice.injEq] at e
   rw [e.1] at z
   cases z)
 generalize hW0 : ((w.alloc (.cells #[.slice e0 e1 e2,.slice t0 t1 t2,.int .i64 ph,.int .i64 mn,.int .i64 ol,.int .i64 nw,.int .i64 tm,.slice b0 b1 b2,.slice g0 g1 g2,.string ap] 49)).alloc (.cells #[.slice none 0 0,.slice none 0 0,.int .i64 0,.int .i64 0,.int .i64 0,.int .i64 0,.int .i64 0,.slice none 0 0,.slice none 0 0,.string ⟨#[]⟩] 49)) = W0 at kA hsz0 BP BQ hE hM rB rG O0 fB fG
 have HBc : Hid (∀ W,Below W0.heap.size W0 W → ∀ ad,b0 = some ad → ∀ j u,(Bu.rcells bu)[j]? = some u → W.cell? (ad.add j) = some u):=hidIt (fun W k ad ha j u hj=>by
  obtain ⟨gx,ex,_⟩:=fB ad ha
  subst ex
  have r2:=rB.kept k
  rw [ha] at r2
  exact r2.cells j u hj)
 have HGc : Hid (∀ W,Below W0.heap.size W0 W → ∀ ad,g0 = some ad → ∀ j u,(Lg.lcells lg)[j]? = some u → W.cell? (ad.add j) = some u):=hidIt (fun W k ad ha j u hj=>by
  have r2:=rG.kept k
  rw [ha] at r2
  exact r2.cells j u hj)
 have HBX : Hid (∀ W,Below W0.heap.size W0 W → Bo.Box W w.heap.size #[.slice e0 e1 e2,.slice t0 t1 t2,.int .i64 ph,.int .i64 mn,.int .i64 ol,.int .i64 nw,.int .i64 tm,.slice b0 b1 b2,.slice g0 g1 g2,.string ap]):=hidIt (fun W k=>BP.kept k)
 have HBZ : Hid (∀ W,Below W0.heap.size W0 W → Bo.Box W (w.heap.size + 1) #[.slice none 0 0,.slice none 0 0,.int .i64 0,.int .i64 0,.int .i64 0,.int .i64 0,.int .i64 0,.slice none 0 0,.slice none 0 0,.string ⟨#[]⟩]):=hidIt (fun W k=>BQ.kept k)
 have HLW:=hidIt kA
 have HL0 : Hid (w.heap.size ≤ W0.heap.size):=hidIt (by omega)
 have HGR : Hid (w.heap.size + 1 < W0.heap.size):=hidIt (by omega)
 have HGL : Hid (w.heap.size ≤ w.heap.size + 1):=hidIt (by omega)
 have CC : Hid (∀ W bl,Vv.Own W W0.heap.size (.slice (some ⟨bl,0,none⟩) 1 1) [((e0,e1,e2),(t0,t1,t2))] → Below W0.heap.size W0 W → Calls Tryz.prog 50 #[.slice (some ⟨bl,0,none⟩) 1 1] W fun en w'=>Rp.LstP W [(bk,mm)] en w'):=hidIt (fun W bl o k=>by
  obtain ⟨a',c',e',_,_,r,_⟩:=o.form
  simp only [Value.slice.injEq] at e'
  obtain ⟨rfl,_,_⟩:=e'
  exact Rp.spec_l13Copy _ 1 [(bk,mm)] W ⟨[((e0,e1,e2),(t0,t1,t2))],rfl,r,fun i hi=>by
   have : i = 0:=by simp at hi; exact hi
   subst this
   exact hE.kept k,fun i hi=>by
   have : i = 0:=by simp at hi; exact hi
   subst this
   exact hM.kept k⟩ hT)
 clear kA BP BQ hE hM rB rG O0 hT hbk hmm hbu hlg hsz0 fB fG nB nG OWN h ok hb1 hg1
 simp only [Nd.nv,Nd.nc,sv]
 go_enter Tryz.func49,Tryz.ntmps49
 go_wp2_with (fail)
 clear hW0
 refine wp_region_inv (by kernel_rfl) (by kernel_rfl) (KC w.heap.size (w.heap.size + 1) bk mm ph mn ol nw tm bu lg ap e0 e1 e2 t0 t1 t2 b0 b1 b2 g0 g1 g2 w W0 _ _ _) ⟨_,_,_,_,_,_,_,_,_,_,_,_,_,_,_,_,_,_,_,rfl,⟨(fun q0=>by cases q0),(fun q0=>by cases q0),(fun q0=>by cases q0),(fun q0=>by cases q0),(fun q0=>by cases q0),(fun q0=>by cases q0),(fun q0=>by cases q0),(fun q0=>by cases q0),(fun q0=>by cases q0),(fun q0=>by cases q0),(fun _=>(Below.refl _ _).drew),(fun q0 q1 q2=>by cases q0),(fun q0 q1=>by cases q0),(fun q0=>by cases q0),(fun q0 q1=>by cases q0),(fun q0 q1 q2=>by cases q0),(fun q0 q1=>by cases q0),(fun q0 q1 q2=>by cases q0),(fun q0 q1=>by cases q0),(fun q0 q1=>by cases q0),(fun q0=>by cases q0),(fun q0=>by cases q0),(fun q0=>by cases q0),(fun q0=>by cases q0),(fun q0=>by cases q0),(fun q0=>by cases q0),(fun q0=>by cases q0),(fun q0=>by cases q0),(fun q0=>by cases q0),(fun q0=>by cases q0),(fun q0=>by cases q0),(fun q0=>by cases q0),(fun q0=>by cases q0),(fun q0=>by cases q0),(fun q0=>by cases q0),(fun q0=>by cases q0),(fun q0=>by cases q0),(fun q0=>by cases q0),(fun q0=>by cases q0),(fun q0=>by cases q0)⟩⟩ ?_ ?_
 case refine_1 =>
  intro Lb a' W j hj hI hL hD
  have hcases : j = 0 ∨ j = 1 ∨ j = 2 ∨ j = 3 ∨ j = 4 ∨ j = 5 ∨ j = 6 ∨ j = 7 ∨ j = 8 ∨ j = 9 ∨ j = 10 ∨ j = 11 ∨ j = 12 ∨ j = 13 ∨ j = 14 ∨ j = 15 ∨ j = 16 ∨ j = 17 ∨ j = 18 ∨ j = 19:=by simp at hj; omega
  clear hj
  obtain ⟨u3,u4,u5,u6,u7,u8,u9,u10,u11,u12,u13,u14,u15,u16,u17,u18,u19,u20,u21,rfl,R⟩:=hI
  rcases hcases with rfl | rfl | rfl | rfl | rfl | rfl | rfl | rfl | rfl | rfl | rfl | rfl | rfl | rfl | rfl | rfl | rfl | rfl | rfl | rfl
  ·
   skip
   refine op_at rfl (fun K hK=>?_)
   go_simp
   refine hK _ _ ?_
   exact ⟨_,_,_,_,_,_,_,_,_,_,_,_,_,_,_,_,_,_,_,rfl,{ R with k0:=(fun _=>rfl) }⟩
  ·
   skip
   have e0:=R.k0 (hD 0 (by kernel_rfl))
   subst e0
   have n19 : Lb 19 = false:=by
    cases q : Lb 19 with
    | false=>rfl
    | true=>have z:=R.p19_1 (q); rw [hL] at z; cases z
   have kb:=R.kb n19
   have d0:=(HBX.out W kb).c 0 (v:=.slice e0 e1 e2) rfl
   have d1:=(HBX.out W kb).c 1 (v:=.slice t0 t1 t2) rfl
   refine op_at rfl (fun K hK=>?_)
   go_simp
   refine hK _ _ ?_
   exact ⟨_,_,_,_,_,_,_,_,_,_,_,_,_,_,_,_,_,_,_,rfl,{ R with k1:=(fun _=>rfl),p19_1:=(fun _=>rfl) }⟩
  ·
   skip
   have e1:=R.k1 (hD 1 (by kernel_rfl))
   subst e1
   have n19 : Lb 19 = false:=by
    cases q : Lb 19 with
    | false=>rfl
    | true=>have z:=R.p19_2 (q); rw [hL] at z; cases z
   have kb:=R.kb n19
   have kA:=(Below.refl W.heap.size W).alloc (Nat.le_refl _) (.cells #[.slice e0 e1 e2,.slice t0 t1 t2] 43)
   refine op_at rfl (fun K hK=>?_)
   go_simp
   refine hK _ _ ?_
   exact ⟨_,_,_,_,_,_,_,_,_,_,_,_,_,_,_,_,_,_,_,rfl,⟨R.k0,R.k1,R.k6,R.k7,R.k9,R.k10,R.k13,R.k14,R.k16,R.k17,(fun q0=>(R.kb q0).trans (kA.mono (R.kb q0).size)),(fun _ _ _=>⟨_,rfl,(Vv.Own.one W ((e0,e1,e2),(t0,t1,t2)) rfl).mono kb.size⟩),(fun q0 q1=>(R.f3 q0 q1).kept kA),R.f4,(fun q0 q1=>(R.f5 q0 q1).kept kA),(fun q0 q1 q2=>(R.f8 q0 q1 q2).kept kA),(fun q0 q1=>(R.f11 q0 q1).kept kA),(fun q0 q1 q2=>(R.f12 q0 q1 q2).kept kA),(fun q0 q1=>(R.f15 q0 q1).kept kA),(fun q0 q1=>(R.f18 q0 q1).kept kA),(fun q0=>no1 n19 q0),(fun q0=>no1 n19 q0),(fun _=>rfl),(fun q0=>no1 n19 q0),(fun q0=>no1 n19 q0),(fun q0=>no1 n19 q0),(fun q0=>no1 n19 q0),(fun q0=>no1 n19 q0),(fun q0=>no1 n19 q0),(fun q0=>no1 n19 q0),(fun q0=>no1 n19 q0),(fun q0=>no1 n19 q0),(fun q0=>no1 n19 q0),(fun q0=>no1 n19 q0),(fun q0=>no1 n19 q0),R.p11_3,R.p5_4,R.p4_3,R.p18_11,R.p18_15⟩⟩
  ·
   skip
   have n19 : Lb 19 = false:=by
    cases q : Lb 19 with
    | false=>rfl
    | true=>have z:=R.p19_3 (q); rw [hL] at z; cases z
   have n18 : Lb 18 = false:=by
    cases q : Lb 18 with
    | false=>rfl
    | true=>have z:=R.p11_3 (R.p18_11 (q)); rw [hL] at z; cases z
   have n5 : Lb 5 = false:=by
    cases q : Lb 5 with
    | false=>rfl
    | true=>have z:=R.p4_3 (R.p5_4 (q)); rw [hL] at z; cases z
   have n4 : Lb 4 = false:=by
    cases q : Lb 4 with
    | false=>rfl
    | true=>have z:=R.p4_3 (q); rw [hL] at z; cases z
   have kb:=R.kb n19
   obtain ⟨bl,e2,o2⟩:=R.f2 (hD 2 (by kernel_rfl)) hL n19
   subst e2
   refine op_at rfl (fun K hK=>?_)
   go_simp
   refine (CC.out W bl o2 kb).mono ?_
   intro en W' hz
   obtain ⟨v,rfl,oC,k1⟩:=hz.out
   have cp:=Cp1.of oC kb.size
   go_simp
   refine hK _ _ ?_
   exact ⟨_,_,_,_,_,_,_,_,_,_,_,_,_,_,_,_,_,_,_,rfl,⟨R.k0,R.k1,R.k6,R.k7,R.k9,R.k10,R.k13,R.k14,R.k16,R.k17,(fun q0=>(R.kb q0).trans (k1.mono (R.kb q0).size)),(fun q0 q1 q2=>by cases q1),(fun _ _=>cp),(fun q=>by rw [show upd Lb 3 4 = Lb 4 from rfl,n4] at q; cases q),(fun q _=>by rw [show upd Lb 3 5 = Lb 5 from rfl,n5] at q; cases q),(fun q0 q1 q2=>(R.f8 q0 q1 q2).kept k1),(fun q0 q1=>(R.f11 q0 q1).kept k1),(fun q0 q1 q2=>(R.f12 q0 q1 q2).kept k1),(fun q0 q1=>(R.f15 q0 q1).kept k1),(fun q0 q1=>no1 n18 q0),(fun q0=>no1 n19 q0),(fun q0=>no1 n19 q0),(fun q0=>no1 n19 q0),(fun _=>rfl),(fun q0=>no1 n19 q0),(fun q0=>no1 n19 q0),(fun q0=>no1 n19 q0),(fun q0=>no1 n19 q0),(fun q0=>no1 n19 q0),(fun q0=>no1 n19 q0),(fun q0=>no1 n19 q0),(fun q0=>no1 n19 q0),(fun q0=>no1 n19 q0),(fun q0=>no1 n19 q0),(fun q0=>no1 n19 q0),(fun _=>rfl),(fun q0=>no1 n5 q0),(fun _=>rfl),(fun q0=>no1 n18 q0),(fun q0=>no1 n18 q0)⟩⟩
  ·
   skip
   have n19 : Lb 19 = false:=by
    cases q : Lb 19 with
    | false=>rfl
    | true=>have z:=R.p19_4 (q); rw [hL] at z; cases z
   obtain ⟨g6,c6,e6⟩:=(R.f3 (hD 3 (by kernel_rfl)) n19).form
   subst e6
   refine op_at rfl (fun K hK=>?_)
   go_simp
   refine hK _ _ ?_
   exact ⟨_,_,_,_,_,_,_,_,_,_,_,_,_,_,_,_,_,_,_,rfl,{ R with f4:=(fun _=>⟨_,_,rfl,rfl⟩),p19_4:=(fun _=>rfl),p5_4:=(fun _=>rfl),p4_3:=(fun _=>hD 3 (by kernel_rfl)) }⟩
  ·
   skip
   have n19 : Lb 19 = false:=by
    cases q : Lb 19 with
    | false=>rfl
    | true=>have z:=R.p19_5 (q); rw [hL] at z; cases z
   obtain ⟨g6,c6,e6,e7⟩:=R.f4 (hD 4 (by kernel_rfl))
   subst e6 e7
   obtain ⟨⟨x0,x1,x2⟩,⟨y0,y1,y2⟩,d0,d1,oE,oM⟩:=(R.f3 (R.p4_3 (hD 4 (by kernel_rfl))) n19).cells
   simp only [sv] at d0 d1
   refine op_at rfl (fun K hK=>?_)
   go_simp
   refine hK _ _ ?_
   exact ⟨_,_,_,_,_,_,_,_,_,_,_,_,_,_,_,_,_,_,_,rfl,{ R with f5:=(fun _ _=>⟨_,_,rfl,oE,oM⟩),p19_5:=(fun _=>rfl),p5_4:=(fun _=>hD 4 (by kernel_rfl)) }⟩
  ·
   skip
   refine op_at rfl (fun K hK=>?_)
   go_simp
   refine hK _ _ ?_
   exact ⟨_,_,_,_,_,_,_,_,_,_,_,_,_,_,_,_,_,_,_,rfl,{ R with k6:=(fun _=>rfl) }⟩
  ·
   skip
   have e6:=R.k6 (hD 6 (by kernel_rfl))
   subst e6
   have n19 : Lb 19 = false:=by
    cases q : Lb 19 with
    | false=>rfl
    | true=>have z:=R.p19_7 (q); rw [hL] at z; cases z
   have kb:=R.kb n19
   have d2:=(HBX.out W kb).c 2 (v:=.int .i64 ph) rfl
   have d3:=(HBX.out W kb).c 3 (v:=.int .i64 mn) rfl
   have d4:=(HBX.out W kb).c 4 (v:=.int .i64 ol) rfl
   have d5:=(HBX.out W kb).c 5 (v:=.int .i64 nw) rfl
   have d6:=(HBX.out W kb).c 6 (v:=.int .i64 tm) rfl
   refine op_at rfl (fun K hK=>?_)
   go_simp
   refine hK _ _ ?_
   exact ⟨_,_,_,_,_,_,_,_,_,_,_,_,_,_,_,_,_,_,_,rfl,{ R with k7:=(fun _=>rfl),p19_7:=(fun _=>rfl) }⟩
  ·
   skip
   have n19 : Lb 19 = false:=by
    cases q : Lb 19 with
    | false=>rfl
    | true=>have z:=R.p19_8 (q); rw [hL] at z; cases z
   have kb:=R.kb n19
   have kA:=(Below.refl W.heap.size W).alloc (Nat.le_refl _) (.cells #[] 102)
   refine op_at rfl (fun K hK=>?_)
   go_simp
   refine hK _ _ ?_
   exact ⟨_,_,_,_,_,_,_,_,_,_,_,_,_,_,_,_,_,_,_,rfl,⟨R.k0,R.k1,R.k6,R.k7,R.k9,R.k10,R.k13,R.k14,R.k16,R.k17,(fun q0=>(R.kb q0).trans (kA.mono (R.kb q0).size)),(fun q0 q1 q2=>by obtain ⟨bl,e,o⟩:=(R.f2 q0 q1 q2); exact ⟨bl,e,o.kept kA⟩),(fun q0 q1=>(R.f3 q0 q1).kept kA),R.f4,(fun q0 q1=>(R.f5 q0 q1).kept kA),(fun _ _ _=>Mt.new 102 3 kb.size),(fun q0 q1=>(R.f11 q0 q1).kept kA),(fun q0 q1 q2=>(R.f12 q0 q1 q2).kept kA),(fun q0 q1=>(R.f15 q0 q1).kept kA),(fun q0 q1=>(R.f18 q0 q1).kept kA),(fun q0=>no1 n19 q0),(fun q0=>no1 n19 q0),(fun q0=>no1 n19 q0),(fun q0=>no1 n19 q0),(fun q0=>no1 n19 q0),(fun q0=>no1 n19 q0),(fun q0=>no1 n19 q0),(fun _=>rfl),(fun q0=>no1 n19 q0),(fun q0=>no1 n19 q0),(fun q0=>no1 n19 q0),(fun q0=>no1 n19 q0),(fun q0=>no1 n19 q0),(fun q0=>no1 n19 q0),(fun q0=>no1 n19 q0),R.p11_3,R.p5_4,R.p4_3,R.p18_11,R.p18_15⟩⟩
  ·
   skip
   refine op_at rfl (fun K hK=>?_)
   go_simp
   refine hK _ _ ?_
   exact ⟨_,_,_,_,_,_,_,_,_,_,_,_,_,_,_,_,_,_,_,rfl,{ R with k9:=(fun _=>rfl) }⟩
  ·
   skip
   have e9:=R.k9 (hD 9 (by kernel_rfl))
   subst e9
   have n19 : Lb 19 = false:=by
    cases q : Lb 19 with
    | false=>rfl
    | true=>have z:=R.p19_10 (q); rw [hL] at z; cases z
   have kb:=R.kb n19
   have d7:=(HBX.out W kb).c 7 (v:=.slice b0 b1 b2) rfl
   refine op_at rfl (fun K hK=>?_)
   go_simp
   refine hK _ _ ?_
   exact ⟨_,_,_,_,_,_,_,_,_,_,_,_,_,_,_,_,_,_,_,rfl,{ R with k10:=(fun _=>rfl),p19_10:=(fun _=>rfl) }⟩
  ·
   skip
   have e10:=R.k10 (hD 10 (by kernel_rfl))
   subst e10
   have n19 : Lb 19 = false:=by
    cases q : Lb 19 with
    | false=>rfl
    | true=>have z:=R.p19_11 (q); rw [hL] at z; cases z
   have n18 : Lb 18 = false:=by
    cases q : Lb 18 with
    | false=>rfl
    | true=>have z:=R.p18_11 (q); rw [hL] at z; cases z
   have kb:=R.kb n19
   obtain ⟨g8,e8,ow⟩:=R.f8 (hD 8 (by kernel_rfl)) hL n19
   subst e8
   refine op_at rfl (fun K hK=>?_)
   refine step_copy (by rfl) (.tmp 11) (.tmp 13) 46 (by rfl) 102 i0 (.agg #[.int .i64 0,.int .i64 0,.int .i64 0]) 3 24 Tryz.underlying46 hi0 hz0 hz1 hz2 rfl (by decide) W0.heap.size g8 (by simp [Act.eval]) ow b0 b1 b2 (Bu.rcells bu) (by simp [Act.eval]) HBn.out (by rw [Bu.rcells_length,HBl.out]) (HBc.out W kb) (Bu.rcells_one _) (by unfold maxLen; have:=HBs.out; omega) (by have:=HBs.out; omega) kb.size ?_
   intro v' W' hown hgrow hnil
   have oB : Bu.Own W' W0.heap.size v' bu:=by unfold Bu.Own; rw [HBl.out]; exact hown
   refine hK _ _ ?_
   exact ⟨_,_,_,_,_,_,_,_,_,_,_,_,_,_,_,_,_,_,_,rfl,⟨R.k0,R.k1,R.k6,R.k7,R.k9,R.k10,R.k13,R.k14,R.k16,R.k17,(fun q0=>below_grown (R.kb q0) hgrow (R.kb q0).size (fun g hg=>(World.ownsRow.lt ow g hg).1)),(fun q0 q1 q2=>no1 q1 (hD 3 (by kernel_rfl))),(fun q0 q1=>(R.f3 q0 q1).grown ow (by decide) (by decide) (by decide) hgrow),R.f4,(fun q0 q1=>(R.f5 q0 q1).grown ow (by decide) (by decide) (by decide) hgrow),(fun q0 q1 q2=>by cases q1),(fun _ _=>oB),(fun q0 q1 q2=>(R.f12 q0 q1 q2).grown hgrow (by obtain ⟨g9,e9,o9⟩:=(R.f12 q0 q1 q2); exact own_apart o9 ow (by decide))),(fun q0 q1=>row_grown (R.f15 q0 q1) hgrow (own_apart (R.f15 q0 q1) ow (by decide))),(fun q0 q1=>no1 n18 q0),(fun q0=>no1 n19 q0),(fun q0=>no1 n19 q0),(fun q0=>no1 n19 q0),(fun q0=>no1 n19 q0),(fun q0=>no1 n19 q0),(fun q0=>no1 n19 q0),(fun q0=>no1 n19 q0),(fun q0=>no1 n19 q0),(fun q0=>no1 n19 q0),(fun _=>rfl),(fun q0=>no1 n19 q0),(fun q0=>no1 n19 q0),(fun q0=>no1 n19 q0),(fun q0=>no1 n19 q0),(fun q0=>no1 n19 q0),(fun _=>hD 3 (by kernel_rfl)),R.p5_4,R.p4_3,(fun _=>rfl),(fun q0=>no1 n18 q0)⟩⟩
  ·
   skip
   have n19 : Lb 19 = false:=by
    cases q : Lb 19 with
    | false=>rfl
    | true=>have z:=R.p19_12 (q); rw [hL] at z; cases z
   have kb:=R.kb n19
   have kA:=(Below.refl W.heap.size W).alloc (Nat.le_refl _) (.cells #[] 104)
   refine op_at rfl (fun K hK=>?_)
   go_simp
   refine hK _ _ ?_
   exact ⟨_,_,_,_,_,_,_,_,_,_,_,_,_,_,_,_,_,_,_,rfl,⟨R.k0,R.k1,R.k6,R.k7,R.k9,R.k10,R.k13,R.k14,R.k16,R.k17,(fun q0=>(R.kb q0).trans (kA.mono (R.kb q0).size)),(fun q0 q1 q2=>by obtain ⟨bl,e,o⟩:=(R.f2 q0 q1 q2); exact ⟨bl,e,o.kept kA⟩),(fun q0 q1=>(R.f3 q0 q1).kept kA),R.f4,(fun q0 q1=>(R.f5 q0 q1).kept kA),(fun q0 q1 q2=>(R.f8 q0 q1 q2).kept kA),(fun q0 q1=>(R.f11 q0 q1).kept kA),(fun _ _ _=>Mt.new 104 2 kb.size),(fun q0 q1=>(R.f15 q0 q1).kept kA),(fun q0 q1=>(R.f18 q0 q1).kept kA),(fun q0=>no1 n19 q0),(fun q0=>no1 n19 q0),(fun q0=>no1 n19 q0),(fun q0=>no1 n19 q0),(fun q0=>no1 n19 q0),(fun q0=>no1 n19 q0),(fun q0=>no1 n19 q0),(fun q0=>no1 n19 q0),(fun q0=>no1 n19 q0),(fun q0=>no1 n19 q0),(fun _=>rfl),(fun q0=>no1 n19 q0),(fun q0=>no1 n19 q0),(fun q0=>no1 n19 q0),(fun q0=>no1 n19 q0),R.p11_3,R.p5_4,R.p4_3,R.p18_11,R.p18_15⟩⟩
  ·
   skip
   refine op_at rfl (fun K hK=>?_)
   go_simp
   refine hK _ _ ?_
   exact ⟨_,_,_,_,_,_,_,_,_,_,_,_,_,_,_,_,_,_,_,rfl,{ R with k13:=(fun _=>rfl) }⟩
  ·
   skip
   have e13:=R.k13 (hD 13 (by kernel_rfl))
   subst e13
   have n19 : Lb 19 = false:=by
    cases q : Lb 19 with
    | false=>rfl
    | true=>have z:=R.p19_14 (q); rw [hL] at z; cases z
   have kb:=R.kb n19
   have d8:=(HBX.out W kb).c 8 (v:=.slice g0 g1 g2) rfl
   refine op_at rfl (fun K hK=>?_)
   go_simp
   refine hK _ _ ?_
   exact ⟨_,_,_,_,_,_,_,_,_,_,_,_,_,_,_,_,_,_,_,rfl,{ R with k14:=(fun _=>rfl),p19_14:=(fun _=>rfl) }⟩
  ·
   skip
   have e14:=R.k14 (hD 14 (by kernel_rfl))
   subst e14
   have n19 : Lb 19 = false:=by
    cases q : Lb 19 with
    | false=>rfl
    | true=>have z:=R.p19_15 (q); rw [hL] at z; cases z
   have n18 : Lb 18 = false:=by
    cases q : Lb 18 with
    | false=>rfl
    | true=>have z:=R.p18_15 (q); rw [hL] at z; cases z
   have kb:=R.kb n19
   obtain ⟨g12,e12,ow⟩:=R.f12 (hD 12 (by kernel_rfl)) hL n19
   subst e12
   refine op_at rfl (fun K hK=>?_)
   refine step_copy (by rfl) (.tmp 15) (.tmp 17) 47 (by rfl) 104 j0 (.agg #[.string ByteArray.empty,.int .i64 0]) 2 24 Tryz.underlying47 hj0 hy0 hy1 hy2 rfl (by decide) W0.heap.size g12 (by simp [Act.eval]) ow g0 g1 g2 (Lg.lcells lg) (by simp [Act.eval]) HGn.out (by rw [Lg.lcells_length,HGl.out]) (HGc.out W kb) (Lg.lcells_one _) (by unfold maxLen; have:=HGs.out; omega) (by have:=HGs.out; omega) kb.size ?_
   intro v' W' hown hgrow hnil
   have oG : Lg.Own W' W0.heap.size v' lg:=by unfold Lg.Own; rw [HGl.out]; exact hown
   refine hK _ _ ?_
   exact ⟨_,_,_,_,_,_,_,_,_,_,_,_,_,_,_,_,_,_,_,rfl,⟨R.k0,R.k1,R.k6,R.k7,R.k9,R.k10,R.k13,R.k14,R.k16,R.k17,(fun q0=>below_grown (R.kb q0) hgrow (R.kb q0).size (fun g hg=>(World.ownsRow.lt ow g hg).1)),(fun q0 q1 q2=>no1 q1 (R.p11_3 (hD 11 (by kernel_rfl)))),(fun q0 q1=>(R.f3 q0 q1).grown ow (by decide) (by decide) (by decide) hgrow),R.f4,(fun q0 q1=>(R.f5 q0 q1).grown ow (by decide) (by decide) (by decide) hgrow),(fun q0 q1 q2=>by rw [show upd Lb 15 11 = Lb 11 from rfl,hD 11 (by kernel_rfl)] at q1; cases q1),(fun q0 q1=>row_grown (R.f11 q0 q1) hgrow (own_apart (R.f11 q0 q1) ow (by decide))),(fun q0 q1 q2=>by cases q1),(fun _ _=>oG),(fun q0 q1=>no1 n18 q0),(fun q0=>no1 n19 q0),(fun q0=>no1 n19 q0),(fun q0=>no1 n19 q0),(fun q0=>no1 n19 q0),(fun q0=>no1 n19 q0),(fun q0=>no1 n19 q0),(fun q0=>no1 n19 q0),(fun q0=>no1 n19 q0),(fun q0=>no1 n19 q0),(fun q0=>no1 n19 q0),(fun q0=>no1 n19 q0),(fun q0=>no1 n19 q0),(fun _=>rfl),(fun q0=>no1 n19 q0),(fun q0=>no1 n19 q0),R.p11_3,R.p5_4,R.p4_3,(fun q0=>no1 n18 q0),(fun _=>rfl)⟩⟩
  ·
   skip
   refine op_at rfl (fun K hK=>?_)
   go_simp
   refine hK _ _ ?_
   exact ⟨_,_,_,_,_,_,_,_,_,_,_,_,_,_,_,_,_,_,_,rfl,{ R with k16:=(fun _=>rfl) }⟩
  ·
   skip
   have e16:=R.k16 (hD 16 (by kernel_rfl))
   subst e16
   have n19 : Lb 19 = false:=by
    cases q : Lb 19 with
    | false=>rfl
    | true=>have z:=R.p19_17 (q); rw [hL] at z; cases z
   have kb:=R.kb n19
   have d9:=(HBX.out W kb).c 9 (v:=.string ap) rfl
   refine op_at rfl (fun K hK=>?_)
   go_simp
   refine hK _ _ ?_
   exact ⟨_,_,_,_,_,_,_,_,_,_,_,_,_,_,_,_,_,_,_,rfl,{ R with k17:=(fun _=>rfl),p19_17:=(fun _=>rfl) }⟩
  ·
   skip
   have e7:=R.k7 (hD 7 (by kernel_rfl))
   subst e7
   have e17:=R.k17 (hD 17 (by kernel_rfl))
   subst e17
   have n19 : Lb 19 = false:=by
    cases q : Lb 19 with
    | false=>rfl
    | true=>have z:=R.p19_18 (q); rw [hL] at z; cases z
   obtain ⟨⟨x0,x1,x2⟩,⟨y0,y1,y2⟩,e8,oE,oM⟩:=R.f5 (hD 5 (by kernel_rfl)) n19
   have oB:=R.f11 (hD 11 (by kernel_rfl)) n19
   have oG:=R.f15 (hD 15 (by kernel_rfl)) n19
   obtain ⟨z0,z2,e14,_⟩:=oB.form
   obtain ⟨v0,v2,e18,_⟩:=oG.form
   simp only [sv] at e8
   subst e8 e14 e18
   refine op_at rfl (fun K hK=>?_)
   go_simp
   refine hK _ _ ?_
   exact ⟨_,_,_,_,_,_,_,_,_,_,_,_,_,_,_,_,_,_,_,rfl,{ R with f18:=(fun _ _=>⟨(x0,x1,x2),(y0,y1,y2),(z0,bu.length,z2),(v0,lg.length,v2),rfl,⟨oE,oM,oB,oG⟩⟩),p19_18:=(fun _=>rfl),p18_11:=(fun _=>hD 11 (by kernel_rfl)),p18_15:=(fun _=>hD 15 (by kernel_rfl)) }⟩
  ·
   skip
   have kb:=R.kb hL
   obtain ⟨⟨x0,x1,x2⟩,⟨y0,y1,y2⟩,⟨z0,z1,z2⟩,⟨v0,v1,v2⟩,e21,oN⟩:=R.f18 (hD 18 (by kernel_rfl)) hL
   simp only [Nd.nv,Nd.nc,sv] at e21
   subst e21
   have bz:=HBZ.out W kb
   have d0:=bz.c 0 (v:=.slice none 0 0) rfl
   have d1:=bz.c 1 (v:=.slice none 0 0) rfl
   have d2:=bz.c 2 (v:=.int .i64 0) rfl
   have d3:=bz.c 3 (v:=.int .i64 0) rfl
   have d4:=bz.c 4 (v:=.int .i64 0) rfl
   have d5:=bz.c 5 (v:=.int .i64 0) rfl
   have d6:=bz.c 6 (v:=.int .i64 0) rfl
   have d7:=bz.c 7 (v:=.slice none 0 0) rfl
   have d8:=bz.c 8 (v:=.slice none 0 0) rfl
   have d9:=bz.c 9 (v:=.string ⟨#[]⟩) rfl
   have r0:=bz.fr 0
   have r1:=bz.fr 1
   have r2:=bz.fr 2
   have r3:=bz.fr 3
   have r4:=bz.fr 4
   have r5:=bz.fr 5
   have r6:=bz.fr 6
   have r7:=bz.fr 7
   have r8:=bz.fr 8
   have r9:=bz.fr 9
   have BZ:=((((((((((bz).put (c':=#[.slice x0 x1 x2,.slice none 0 0,.int .i64 0,.int .i64 0,.int .i64 0,.int .i64 0,.int .i64 0,.slice none 0 0,.slice none 0 0,.string ⟨#[]⟩]) 0 (.slice x0 x1 x2) (by simp) rfl).put (c':=#[.slice x0 x1 x2,.slice y0 y1 y2,.int .i64 0,.int .i64 0,.int .i64 0,.int .i64 0,.int .i64 0,.slice none 0 0,.slice none 0 0,.string ⟨#[]⟩]) 1 (.slice y0 y1 y2) (by simp) rfl).put (c':=#[.slice x0 x1 x2,.slice y0 y1 y2,.int .i64 ph,.int .i64 0,.int .i64 0,.int .i64 0,.int .i64 0,.slice none 0 0,.slice none 0 0,.string ⟨#[]⟩]) 2 (.int .i64 ph) (by simp) rfl).put (c':=#[.slice x0 x1 x2,.slice y0 y1 y2,.int .i64 ph,.int .i64 mn,.int .i64 0,.int .i64 0,.int .i64 0,.slice none 0 0,.slice none 0 0,.string ⟨#[]⟩]) 3 (.int .i64 mn) (by simp) rfl).put (c':=#[.slice x0 x1 x2,.slice y0 y1 y2,.int .i64 ph,.int .i64 mn,.int .i64 ol,.int .i64 0,.int .i64 0,.slice none 0 0,.slice none 0 0,.string ⟨#[]⟩]) 4 (.int .i64 ol) (by simp) rfl).put (c':=#[.slice x0 x1 x2,.slice y0 y1 y2,.int .i64 ph,.int .i64 mn,.int .i64 ol,.int .i64 nw,.int .i64 0,.slice none 0 0,.slice none 0 0,.string ⟨#[]⟩]) 5 (.int .i64 nw) (by simp) rfl).put (c':=#[.slice x0 x1 x2,.slice y0 y1 y2,.int .i64 ph,.int .i64 mn,.int .i64 ol,.int .i64 nw,.int .i64 tm,.slice none 0 0,.slice none 0 0,.string ⟨#[]⟩]) 6 (.int .i64 tm) (by simp) rfl).put (c':=#[.slice x0 x1 x2,.slice y0 y1 y2,.int .i64 ph,.int .i64 mn,.int .i64 ol,.int .i64 nw,.int .i64 tm,.slice z0 z1 z2,.slice none 0 0,.string ⟨#[]⟩]) 7 (.slice z0 z1 z2) (by simp) rfl).put (c':=#[.slice x0 x1 x2,.slice y0 y1 y2,.int .i64 ph,.int .i64 mn,.int .i64 ol,.int .i64 nw,.int .i64 tm,.slice z0 z1 z2,.slice v0 v1 v2,.string ⟨#[]⟩]) 8 (.slice v0 v1 v2) (by simp) rfl).put (c':=#[.slice x0 x1 x2,.slice y0 y1 y2,.int .i64 ph,.int .i64 mn,.int .i64 ol,.int .i64 nw,.int .i64 tm,.slice z0 z1 z2,.slice v0 v1 v2,.string ap]) 9 (.string ap) (by simp) rfl
   have YZ:=((((((((((Only.refl (w.heap.size + 1) W).setCell 0 (.slice x0 x1 x2)).setCell 1 (.slice y0 y1 y2)).setCell 2 (.int .i64 ph)).setCell 3 (.int .i64 mn)).setCell 4 (.int .i64 ol)).setCell 5 (.int .i64 nw)).setCell 6 (.int .i64 tm)).setCell 7 (.slice z0 z1 z2)).setCell 8 (.slice v0 v1 v2)).setCell 9 (.string ap)
   have oN2:=own_low oN YZ HGR.out
   have kZ:=below_only (HLW.out.trans (kb.mono HL0.out)) YZ (Nat.le_trans HL0.out kb.size) HGL.out
   refine op_at rfl (fun K hK=>?_)
   go_simp
   refine hK _ _ ?_
   exact ⟨_,_,_,_,_,_,_,_,_,_,_,_,_,_,_,_,_,_,_,rfl,{ R with kb:=(fun q0=>by cases q0),f2:=(fun q0 q1 q2=>by cases q2),f3:=(fun q0 q1=>by cases q1),f5:=(fun q0 q1=>by cases q1),f8:=(fun q0 q1 q2=>by cases q2),f11:=(fun q0 q1=>by cases q1),f12:=(fun q0 q1 q2=>by cases q2),f15:=(fun q0 q1=>by cases q1),f18:=(fun q0 q1=>by cases q1),fin:=(fun _=>⟨(x0,x1,x2),(y0,y1,y2),(z0,z1,z2),(v0,v1,v2),BZ,oN2,kZ⟩),p19_1:=(fun _=>hD 1 (by kernel_rfl)),p19_2:=(fun _=>hD 2 (by kernel_rfl)),p19_3:=(fun _=>hD 3 (by kernel_rfl)),p19_4:=(fun _=>hD 4 (by kernel_rfl)),p19_5:=(fun _=>hD 5 (by kernel_rfl)),p19_7:=(fun _=>hD 7 (by kernel_rfl)),p19_8:=(fun _=>hD 8 (by kernel_rfl)),p19_10:=(fun _=>hD 10 (by kernel_rfl)),p19_11:=(fun _=>hD 11 (by kernel_rfl)),p19_12:=(fun _=>hD 12 (by kernel_rfl)),p19_14:=(fun _=>hD 14 (by kernel_rfl)),p19_15:=(fun _=>hD 15 (by kernel_rfl)),p19_17:=(fun _=>hD 17 (by kernel_rfl)),p19_18:=(fun _=>hD 18 (by kernel_rfl)) }⟩
 case refine_2 =>
  intro Lb a' W hI hall
  obtain ⟨u3,u4,u5,u6,u7,u8,u9,u10,u11,u12,u13,u14,u15,u16,u17,u18,u19,u20,u21,rfl,R⟩:=hI
  obtain ⟨⟨x0,x1,x2⟩,⟨y0,y1,y2⟩,⟨z0,z1,z2⟩,⟨v0,v1,v2⟩,BZ,oN,kZ⟩:=R.fin (hall 19)
  have RZ:=hidIt BZ
  have ON:=hidIt oN
  have KZ:=hidIt kZ
  clear R hall BZ oN kZ
  go_wp2_with (fail)
  have q0c:=RZ.out.c 0 (v:=.slice x0 x1 x2) rfl
  have q1c:=RZ.out.c 1 (v:=.slice y0 y1 y2) rfl
  have q2c:=RZ.out.c 2 (v:=.int .i64 ph) rfl
  have q3c:=RZ.out.c 3 (v:=.int .i64 mn) rfl
  have q4c:=RZ.out.c 4 (v:=.int .i64 ol) rfl
  have q5c:=RZ.out.c 5 (v:=.int .i64 nw) rfl
  have q6c:=RZ.out.c 6 (v:=.int .i64 tm) rfl
  have q7c:=RZ.out.c 7 (v:=.slice z0 z1 z2) rfl
  have q8c:=RZ.out.c 8 (v:=.slice v0 v1 v2) rfl
  have q9c:=RZ.out.c 9 (v:=.string ap) rfl
  refine bodyPost_ret (v:=.agg #[.slice x0 x1 x2,.slice y0 y1 y2,.int .i64 ph,.int .i64 mn,.int .i64 ol,.int .i64 nw,.int .i64 tm,.slice z0 z1 z2,.slice v0 v1 v2,.string ap]) (by simp [results,Tryz.results49,go_sem,q0c,q1c,q2c,q3c,q4c,q5c,q6c,q7c,q8c,q9c]) rfl ?_
  exact Nd.NodP.of (e:=(x0,x1,x2)) (m:=(y0,y1,y2)) (b:=(z0,z1,z2)) (g:=(v0,v1,v2)) rfl ⟨ON.out.e.mono HL0.out,ON.out.m.mono HL0.out,ON.out.b.mono HL0.out,ON.out.g.mono HL0.out⟩ KZ.out
theorem OwnX.box {w w' : World} {lo g : Nat} {v : Value} {L : List Nw} (h : OwnX w lo v L) (t : Ty 30 g w) (k : Only g w w') : OwnX w' lo v L:=by
 obtain ⟨hi,C,h⟩:=h.out
 exact ⟨hi,C,h.box t k⟩
theorem OwnX.ofMt {W : World} {lo : Nat} {u : Value} (h : Mt lo 49 10 u W) : OwnX W lo u []:=by
 obtain ⟨g,e,o⟩:=h
 have hl:=World.ownsRow.lt o g (by rw [e]; rfl)
 exact ⟨W.heap.size,[],rfl,o,fun y hy=>(World.ownsRow.lt o y hy).2,fun i hi=>absurd hi (Nat.not_lt_zero _),fun i hi=>absurd hi (Nat.not_lt_zero _),fun i hi=>absurd hi (Nat.not_lt_zero _),fun i j hi=>absurd hi (Nat.not_lt_zero _),Nat.le_refl _,by omega⟩
def Bz (lo : Nat) (c : Array Value) (u : Value) (W : World) : Prop:=∃ g,u = .pointer (some ⟨g,0,none⟩) ∧ lo ≤ g ∧ Bo.Box W g c ∧ Ty 30 g W
theorem Bz.kept {lo : Nat} {c : Array Value} {u : Value} {W W' : World} (h : Bz lo c u W) (k : Below W.heap.size W W') : Bz lo c u W':=by
 obtain ⟨g,e,hg,b,t⟩:=h
 exact ⟨g,e,hg,b.kept k,t.kept k⟩
theorem Bz.grown {lo b T s n : Nat} {c : Array Value} {u v : Value} {xs : List Value} {W W' : World} (h : Bz lo c u W) (o : W.ownsRow b T s v n xs) (hT : 30 ≠ T) (k : W.grownBy W' v.ownBlock) : Bz lo c u W':=by
 obtain ⟨g,e,hg,x,t⟩:=h
 exact ⟨g,e,hg,box_grown x k (t.apart o hT),t.grown k (t.apart o hT)⟩
theorem Mt.box {lo size g : Nat} {T : TypeId} {u : Value} {W W' : World} (h : Mt lo T size u W) (t : Ty 30 g W) (hT : 30 ≠ T) (k : Only g W W') : Mt lo T size u W':=by
 obtain ⟨x,e,o⟩:=h
 exact ⟨x,e,t.row o hT k⟩
structure RFS (gp : Nat) (no : Int) (n0 : Option Addr) (n1 n2 : Nat) (s0 : Option Addr) (s1 s2 : Nat) (ck : List Int) (w0 : World) (L : Nat → Bool) (u3 u5 u6 u7 u8 u9 u10 u11 : Value) (W : World) : Prop where
 k0 : L 0 = true → u5 = .pointer (some ⟨gp,0,none⟩)
 k1 : L 1 = true → u6 = .int .i64 no
 k3 : L 3 = true → u8 = .pointer (some ⟨gp,2,none⟩)
 k4 : L 4 = true → u9 = .slice s0 s1 s2
 kb : Below w0.heap.size w0 W
 fe : L 2 = true → L 5 = false → Mt w0.heap.size 2 1 u7 W
 fk : L 5 = true → Iv.Own W w0.heap.size u10 ck
 fv : L 6 = true → ∃ a c,u10 = .slice a s1 c ∧ u11 = .agg #[.int .i64 no,.slice none 0 0,.slice a s1 c]
 bA : L 7 = true → L 8 = false → Bz w0.heap.size #[.int .i64 0,.slice none 0 0,.slice none 0 0] u3 W
 bB : L 8 = true → ∃ a c,u10 = .slice a s1 c ∧ Bz w0.heap.size #[.int .i64 no,.slice none 0 0,.slice a s1 c] u3 W
 p6_5 : L 6 = true → L 5 = true
 p8_7 : L 8 = true → L 7 = true
 p8_5 : L 8 = true → L 5 = true
 p5_2 : L 5 = true → L 2 = true
def KFS (gp : Nat) (no : Int) (n0 : Option Addr) (n1 n2 : Nat) (s0 : Option Addr) (s1 s2 : Nat) (ck : List Int) (w0 : World) (y0 y1 y2 y4 y12 y13 y14 y15 y16 y17 y18 y19 y20 y21 y22 y23 y24 y25 y26 y27 y28 y29 y30 : Value) (L : Nat → Bool) (a : Act) (W : World) : Prop:=∃ u3 u5 u6 u7 u8 u9 u10 u11 : Value,a = ⟨(y0 :: y1 :: y2 :: u3 :: y4 :: u5 :: u6 :: u7 :: u8 :: u9 :: u10 :: u11 :: y12 :: y13 :: y14 :: y15 :: y16 :: y17 :: y18 :: y19 :: y20 :: y21 :: y22 :: y23 :: y24 :: y25 :: y26 :: y27 :: y28 :: y29 :: y30 :: []).toArray,[]⟩ ∧ RFS gp no n0 n1 n2 s0 s1 s2 ck w0 L u3 u5 u6 u7 u8 u9 u10 u11 W
structure RMS (gp gr gb gn lo hi : Nat) (no : Int) (n0 : Option Addr) (n1 n2 : Nat) (s0 : Option Addr) (s1 s2 : Nat) (va : Option Addr) (vn vc : Nat) (ka : Option Addr) (kc : Nat) (ck : List Int) (q : Nat) (C : List Nv.Rw) (M : List Nw) (bk : List En.Rw) (mm : List Mm.Rw) (ph mn ol nw tm : Int) (bu : List Bu.Rw) (lg : List Lg.Ln) (ap : ByteArray) (e0 : Option Addr) (e1 e2 : Nat) (t0 : Option Addr) (t1 t2 : Nat) (b0 : Option Addr) (b1 b2 : Nat) (g0 : Option Addr) (g1 g2 : Nat) (w w0 : World) (L : Nat → Bool) (u19 u20 u21 u22 u23 u24 u25 u26 u27 u28 u29 : Value) (W : World) : Prop where
 k0 : L 0 = true → u19 = .pointer (some ⟨gb,1,none⟩)
 k1 : L 1 = true → u20 = .slice va vn vc
 k2 : L 2 = true → u21 = .pointer (some ⟨gp,1,none⟩)
 k3 : L 3 = true → u22 = .slice (some ⟨q,0,none⟩) n1 n2
 k4 : L 4 = true → u23 = .int .i64 vn
 k5 : L 5 = true → u24 = .pointer (some ⟨q,vn * 10,none⟩)
 k6 : L 6 = true → u25 = .agg #[.slice e0 e1 e2,.slice t0 t1 t2,.int .i64 ph,.int .i64 mn,.int .i64 ol,.int .i64 nw,.int .i64 tm,.slice b0 b1 b2,.slice g0 g1 g2,.string ap]
 k10 : L 10 = true → u29 = .pointer (some ⟨gb,1,none⟩)
 kb : Below w.heap.size w W
 sz : w0.heap.size ≤ W.heap.size
 bp : Bo.Box W gp #[.int .i64 no,.slice n0 n1 n2,.slice s0 s1 s2]
 br : Bo.Box W gr #[.int .i64 0,.slice none 0 0,.slice none 0 0]
 bb : L 11 = false → Bo.Box W gb #[.int .i64 no,.slice va vn vc,.slice ka s1 kc]
 bS : L 11 = true → Bo.Box W gb #[.int .i64 no,u28,.slice ka s1 kc]
 ty : Ty 30 gb W
 on : L 9 = false → Ns.OwnC W lo hi (.slice va vn vc) C M
 oN : L 9 = true → OwnX W lo u28 (M ++ [(⟨bk,mm,ph,mn,ol,nw,tm,bu,lg,ap⟩ : Nw)])
 ok : Iv.Own W lo (.slice ka s1 kc) ck
 f7 : L 7 = true → L 8 = false → Nx w0.heap.size ⟨bk,mm,ph,mn,ol,nw,tm,bu,lg,ap⟩ u26 W
 f8 : L 8 = true → L 9 = false → Fx w0.heap.size ⟨bk,mm,ph,mn,ol,nw,tm,bu,lg,ap⟩ u27 W
 p8_7 : L 8 = true → L 7 = true
 p9_8 : L 9 = true → L 8 = true
 p9_1 : L 9 = true → L 1 = true
 p11_9 : L 11 = true → L 9 = true
def KMS (gp gr gb gn lo hi : Nat) (no : Int) (n0 : Option Addr) (n1 n2 : Nat) (s0 : Option Addr) (s1 s2 : Nat) (va : Option Addr) (vn vc : Nat) (ka : Option Addr) (kc : Nat) (ck : List Int) (q : Nat) (C : List Nv.Rw) (M : List Nw) (bk : List En.Rw) (mm : List Mm.Rw) (ph mn ol nw tm : Int) (bu : List Bu.Rw) (lg : List Lg.Ln) (ap : ByteArray) (e0 : Option Addr) (e1 e2 : Nat) (t0 : Option Addr) (t1 t2 : Nat) (b0 : Option Addr) (b1 b2 : Nat) (g0 : Option Addr) (g1 g2 : Nat) (w w0 : World) (y0 y1 y2 y3 y4 y5 y6 y7 y8 y9 y10 y11 y12 y13 y14 y15 y16 y17 y18 y30 : Value) (L : Nat → Bool) (a : Act) (W : World) : Prop:=∃ u19 u20 u21 u22 u23 u24 u25 u26 u27 u28 u29 : Value,a = ⟨(y0 :: y1 :: y2 :: y3 :: y4 :: y5 :: y6 :: y7 :: y8 :: y9 :: y10 :: y11 :: y12 :: y13 :: y14 :: y15 :: y16 :: y17 :: y18 :: u19 :: u20 :: u21 :: u22 :: u23 :: u24 :: u25 :: u26 :: u27 :: u28 :: u29 :: y30 :: []).toArray,[]⟩ ∧ RMS gp gr gb gn lo hi no n0 n1 n2 s0 s1 s2 va vn vc ka kc ck q C M bk mm ph mn ol nw tm bu lg ap e0 e1 e2 t0 t1 t2 b0 b1 b2 g0 g1 g2 w w0 L u19 u20 u21 u22 u23 u24 u25 u26 u27 u28 u29 W
theorem spec_copy (c : Cw) (n k : Sl) (lo hh : Nat) (w : World) (h : OwnK w lo hh c n k) (ok : okK c = true) : Calls Tryz.prog 27 #[kv c n k] w fun en w'=>KluP w c en w':=by
 obtain ⟨i0,hi0,hz0,hz1,hz2⟩:=info_parts Nv.infoRw
 obtain ⟨j0,hj0,hy0,hy1,hy2⟩:=info_parts infoK
 obtain ⟨_,hN1,hN4,hCk,hE,_⟩:=okK_out ok
 obtain ⟨no,ns,ck⟩:=c
 obtain ⟨n0,n1,n2⟩:=n
 obtain ⟨s0,s1,s2⟩:=k
 simp only at hN1 hN4 hCk
 have HOkN : Hid (∀ i,i < ns.length → Nd.okN (nod ns i) = true):=hidIt (fun i hi=>by have:=hE i hi; unfold eachB at this; rw [Bool.and_eq_true] at this; exact this.1)
 have hR:=h.rd
 have hn1 : n1 = ns.length:=hR.nl
 have hs1 : s1 = ck.length:=hR.kl
 obtain ⟨a9,c9,e9,_,_,rK,nK,fK⟩:=h.ok.form
 simp only [sv,Value.slice.injEq] at e9
 obtain ⟨rfl,e91,rfl⟩:=e9
 clear e91
 have HKl : Hid (ck.length = s1):=hidIt hs1.symm
 have HKs : Hid (s1 ≤ 4):=hidIt (by omega)
 have HKn : Hid (s0 = none → s1 = 0 ∧ s2 = 0):=hidIt (fun z=>by
  refine ⟨?_,nK z⟩
  rcases h.ok.2 with ⟨e,_⟩ | ⟨gg,cc,cur,e,_⟩
  ·
   simp only [sv,Value.slice.injEq] at e
   exact e.2.1
  ·
   simp only [sv,Value.slice.injEq] at e
   rw [e.1] at z
   cases z)
 have kA : Below w.heap.size w ((w.alloc (.cells #[.int .i64 no,.slice n0 n1 n2,.slice s0 s1 s2] 30)).alloc (.cells #[.int .i64 0,.slice none 0 0,.slice none 0 0] 30)):=((Below.refl w.heap.size w).alloc (Nat.le_refl _) _).alloc (by simp) _
 have BP : Hid (Bo.Box ((w.alloc (.cells #[.int .i64 no,.slice n0 n1 n2,.slice s0 s1 s2] 30)).alloc (.cells #[.int .i64 0,.slice none 0 0,.slice none 0 0] 30)) w.heap.size #[.int .i64 no,.slice n0 n1 n2,.slice s0 s1 s2]):=hidIt ((Bo.Box.new w _ _).alloc _)
 have BQ : Hid (Bo.Box ((w.alloc (.cells #[.int .i64 no,.slice n0 n1 n2,.slice s0 s1 s2] 30)).alloc (.cells #[.int .i64 0,.slice none 0 0,.slice none 0 0] 30)) (w.heap.size + 1) #[.int .i64 0,.slice none 0 0,.slice none 0 0]):=hidIt (Bo.Box.newAt (by simp))
 have hsz0 : ((w.alloc (.cells #[.int .i64 no,.slice n0 n1 n2,.slice s0 s1 s2] 30)).alloc (.cells #[.int .i64 0,.slice none 0 0,.slice none 0 0] 30)).heap.size = w.heap.size + 1 + 1:=by simp
 generalize hW0 : ((w.alloc (.cells #[.int .i64 no,.slice n0 n1 n2,.slice s0 s1 s2] 30)).alloc (.cells #[.int .i64 0,.slice none 0 0,.slice none 0 0] 30)) = W0 at kA BP BQ hsz0
 have HKc : Hid (∀ W,Below W0.heap.size W0 W → ∀ ad,s0 = some ad → ∀ j u,(Iv.icells ck)[j]? = some u → W.cell? (ad.add j) = some u):=hidIt (fun W k ad ha j u hj=>by
  obtain ⟨gx,ex,_⟩:=fK ad ha
  subst ex
  have hlt : j < ck.length:=by
   rcases Nat.lt_or_ge j ck.length with q | q
   ·
    exact q
   ·
    rw [List.getElem?_eq_none (by rw [Iv.icells,List.length_map]; exact q)] at hj
    cases hj
  obtain ⟨b9,o9,e9,c9⟩:=((rK.kept kA).kept k).cell j hlt
  rw [ha] at e9
  cases e9
  rw [Iv.icells_at hlt] at hj
  cases hj
  rw [Go.WideShapes.add_plain]
  exact c9)
 have HBX : Hid (∀ W,Below W0.heap.size W0 W → Bo.Box W w.heap.size #[.int .i64 no,.slice n0 n1 n2,.slice s0 s1 s2]):=hidIt (fun W k=>BP.out.kept k)
 have HOw:=hidIt h
 have HB0:=hidIt kA
 have HS0:=hidIt hsz0
 have HN : Hid (ns.length = n1):=hidIt hn1.symm
 have hn4 : n1 ≤ 4:=by omega
 clear h ok hE hR rK nK fK kA hsz0 hn1 hs1 hCk hN1 hN4
 simp only [kv,kc,sv]
 go_enter Tryz.func27,Tryz.ntmps27
 go_wp2_with (fail)
 clear hW0
 refine wp_region_inv (by kernel_rfl) (by kernel_rfl) (KFS w.heap.size no n0 n1 n2 s0 s1 s2 ck W0 _ _ _ _ _ _ _ _ _ _ _ _ _ _ _ _ _ _ _ _ _ _ _) ⟨_,_,_,_,_,_,_,_,rfl,⟨(fun q0=>by cases q0),(fun q0=>by cases q0),(fun q0=>by cases q0),(fun q0=>by cases q0),((Below.refl _ _).drew),(fun q0 q1=>by cases q0),(fun q0=>by cases q0),(fun q0=>by cases q0),(fun q0 q1=>by cases q0),(fun q0=>by cases q0),(fun q0=>by cases q0),(fun q0=>by cases q0),(fun q0=>by cases q0),(fun q0=>by cases q0)⟩⟩ ?_ ?_
 case refine_1 =>
  intro Lb a' W j hj hI hL hD
  have hcases : j = 0 ∨ j = 1 ∨ j = 2 ∨ j = 3 ∨ j = 4 ∨ j = 5 ∨ j = 6 ∨ j = 7 ∨ j = 8:=by simp at hj; omega
  clear hj
  obtain ⟨u3,u5,u6,u7,u8,u9,u10,u11,rfl,R⟩:=hI
  rcases hcases with rfl | rfl | rfl | rfl | rfl | rfl | rfl | rfl | rfl
  ·
   skip
   refine op_at rfl (fun K hK=>?_)
   go_simp
   refine hK _ _ ?_
   exact ⟨_,_,_,_,_,_,_,_,rfl,{ R with k0:=(fun _=>rfl) }⟩
  ·
   skip
   have e0:=R.k0 (hD 0 (by kernel_rfl))
   subst e0
   have d0:=(HBX.out W R.kb).c 0 (v:=.int .i64 no) rfl
   refine op_at rfl (fun K hK=>?_)
   go_simp
   refine hK _ _ ?_
   exact ⟨_,_,_,_,_,_,_,_,rfl,{ R with k1:=(fun _=>rfl) }⟩
  ·
   skip
   have n5 : Lb 5 = false:=by
    cases q : Lb 5 with
    | false=>rfl
    | true=>have z:=R.p5_2 (q); rw [hL] at z; cases z
   have n8 : Lb 8 = false:=by
    cases q : Lb 8 with
    | false=>rfl
    | true=>have z:=R.p5_2 (R.p8_5 (q)); rw [hL] at z; cases z
   have kA:=(Below.refl W.heap.size W).alloc (Nat.le_refl _) (.cells #[] 2)
   have kb:=R.kb
   refine op_at rfl (fun K hK=>?_)
   go_simp
   refine hK _ _ ?_
   exact ⟨_,_,_,_,_,_,_,_,rfl,⟨R.k0,R.k1,R.k3,R.k4,(R.kb.trans (kA.mono R.kb.size)),(fun _ _=>Mt.new 2 1 kb.size),(fun q0=>no1 n5 q0),R.fv,(fun q0 q1=>(R.bA q0 q1).kept kA),(fun q0=>no1 n8 q0),R.p6_5,(fun q0=>no1 n8 q0),(fun q0=>no1 n8 q0),(fun _=>rfl)⟩⟩
  ·
   skip
   refine op_at rfl (fun K hK=>?_)
   go_simp
   refine hK _ _ ?_
   exact ⟨_,_,_,_,_,_,_,_,rfl,{ R with k3:=(fun _=>rfl) }⟩
  ·
   skip
   have e3:=R.k3 (hD 3 (by kernel_rfl))
   subst e3
   have d2:=(HBX.out W R.kb).c 2 (v:=.slice s0 s1 s2) rfl
   refine op_at rfl (fun K hK=>?_)
   go_simp
   refine hK _ _ ?_
   exact ⟨_,_,_,_,_,_,_,_,rfl,{ R with k4:=(fun _=>rfl) }⟩
  ·
   skip
   have e4:=R.k4 (hD 4 (by kernel_rfl))
   subst e4
   have n6 : Lb 6 = false:=by
    cases q : Lb 6 with
    | false=>rfl
    | true=>have z:=R.p6_5 (q); rw [hL] at z; cases z
   have n8 : Lb 8 = false:=by
    cases q : Lb 8 with
    | false=>rfl
    | true=>have z:=R.p8_5 (q); rw [hL] at z; cases z
   have kb:=R.kb
   obtain ⟨g2,e2,ow⟩:=R.fe (hD 2 (by kernel_rfl)) hL
   subst e2
   refine op_at rfl (fun K hK=>?_)
   refine step_copy (by rfl) (.tmp 7) (.tmp 9) 23 (by rfl) 2 j0 (.int .i64 0) 1 8 Tryz.underlying23 hj0 hy0 hy1 hy2 rfl (by decide) W0.heap.size g2 (by simp [Act.eval]) ow s0 s1 s2 (Iv.icells ck) (by simp [Act.eval]) HKn.out (by rw [Iv.icells,List.length_map,HKl.out,Nat.mul_one]) (HKc.out W kb) (Iv.icells_one _) (by unfold maxLen; have:=HKs.out; omega) (by have:=HKs.out; omega) kb.size ?_
   intro v' W' hown hgrow hnil
   have oK : Iv.Own W' W0.heap.size v' ck:=by unfold Iv.Own; rw [HKl.out]; exact hown
   refine hK _ _ ?_
   exact ⟨_,_,_,_,_,_,_,_,rfl,⟨R.k0,R.k1,R.k3,R.k4,(below_grown R.kb hgrow R.kb.size (fun g hg=>(World.ownsRow.lt ow g hg).1)),(fun q0 q1=>by cases q1),(fun _=>oK),(fun q0=>no1 n6 q0),(fun q0 q1=>(R.bA q0 q1).grown ow (by decide) hgrow),(fun q0=>no1 n8 q0),(fun _=>rfl),(fun q0=>no1 n8 q0),(fun _=>rfl),(fun _=>hD 2 (by kernel_rfl))⟩⟩
  ·
   skip
   have e1:=R.k1 (hD 1 (by kernel_rfl))
   subst e1
   obtain ⟨a6,c6,e6,_⟩:=(R.fk (hD 5 (by kernel_rfl))).form
   rw [HKl.out] at e6
   subst e6
   refine op_at rfl (fun K hK=>?_)
   go_simp
   refine hK _ _ ?_
   exact ⟨_,_,_,_,_,_,_,_,rfl,{ R with fv:=(fun _=>⟨a6,c6,rfl,rfl⟩),p6_5:=(fun _=>hD 5 (by kernel_rfl)) }⟩
  ·
   skip
   have n8 : Lb 8 = false:=by
    cases q : Lb 8 with
    | false=>rfl
    | true=>have z:=R.p8_7 (q); rw [hL] at z; cases z
   have kA:=(Below.refl W.heap.size W).alloc (Nat.le_refl _) (.cells #[.int .i64 0,.slice none 0 0,.slice none 0 0] 30)
   have kb:=R.kb
   refine op_at rfl (fun K hK=>?_)
   go_simp
   refine hK _ _ ?_
   exact ⟨_,_,_,_,_,_,_,_,rfl,⟨R.k0,R.k1,R.k3,R.k4,(R.kb.trans (kA.mono R.kb.size)),(fun q0 q1=>(R.fe q0 q1).kept kA),(fun q0=>(R.fk q0).kept kA),R.fv,(fun _ _=>⟨_,rfl,kb.size,Bo.Box.new W _ _,Ty.new W _ _⟩),(fun q0=>no1 n8 q0),R.p6_5,(fun _=>rfl),(fun q0=>no1 n8 q0),R.p5_2⟩⟩
  ·
   skip
   obtain ⟨g,e3,hg,bx,ty⟩:=R.bA (hD 7 (by kernel_rfl)) hL
   subst e3
   obtain ⟨a6,c6,e6,e7⟩:=R.fv (hD 6 (by kernel_rfl))
   subst e6 e7
   have d0:=bx.c 0 (v:=.int .i64 0) rfl
   have d1:=bx.c 1 (v:=.slice none 0 0) rfl
   have d2:=bx.c 2 (v:=.slice none 0 0) rfl
   have r0:=bx.fr 0
   have r1:=bx.fr 1
   have r2:=bx.fr 2
   have Y:=(((Only.refl g W).setCell 0 (.int .i64 no)).setCell 1 (.slice none 0 0)).setCell 2 (.slice a6 s1 c6)
   have BZ:=(((bx).put (c':=#[.int .i64 no,.slice none 0 0,.slice none 0 0]) 0 (.int .i64 no) (by simp) rfl).put (c':=#[.int .i64 no,.slice none 0 0,.slice none 0 0]) 1 (.slice none 0 0) (by simp) rfl).put (c':=#[.int .i64 no,.slice none 0 0,.slice a6 s1 c6]) 2 (.slice a6 s1 c6) (by simp) rfl
   have TZ:=(((ty).self 0 (.int .i64 no)).self 1 (.slice none 0 0)).self 2 (.slice a6 s1 c6)
   refine op_at rfl (fun K hK=>?_)
   go_simp
   refine hK _ _ ?_
   exact ⟨_,_,_,_,_,_,_,_,rfl,⟨R.k0,R.k1,R.k3,R.k4,(below_only R.kb Y R.kb.size hg),(fun q0 q1=>no1 q1 (hD 5 (by kernel_rfl))),(fun q0=>ty.row (R.fk q0) (by decide) Y),R.fv,(fun q0 q1=>by cases q1),(fun _=>⟨a6,c6,rfl,g,rfl,hg,BZ,TZ⟩),R.p6_5,(fun _=>hD 7 (by kernel_rfl)),(fun _=>hD 5 (by kernel_rfl)),R.p5_2⟩⟩
 case refine_2 =>
  intro Lb a' W hI hall
  obtain ⟨u3,u5,u6,u7,u8,u9,u10,u11,rfl,R⟩:=hI
  obtain ⟨ka,kc,e6,gb,e3,hgb,bx,ty⟩:=R.bB (hall 8)
  have ok1:=R.fk (hall 5)
  skip
  have kb:=R.kb
  clear hall
  subst e6 e3
  have BX1:=hidIt bx
  have TY1:=hidIt ty
  skip
  have OK1 : Hid (Iv.Own W (w.heap.size + 2) (.slice ka s1 kc) ck):=hidIt (by have z:=HS0.out; rw [z] at ok1; exact ok1)
  have HB1:=hidIt (HB0.out.trans (kb.mono (by have:=HS0.out; omega)))
  have BP1:=hidIt (BP.out.kept kb)
  have BR1:=hidIt (BQ.out.kept kb)
  have HGw : Hid (w.heap.size + 2 ≤ gb):=hidIt (by have:=HS0.out; omega)
  have HL1 : Hid (w.heap.size + 2 ≤ W.heap.size):=hidIt (by have:=HS0.out; have:=kb.size; omega)
  clear R kb bx ty ok1  hgb BP BQ HBX HKc HKn HKs
  skip
  go_wp2_with (fail)
  skip
  go_loopw [4] (fun y wx=>∃ (i : Nat) (va : Option Addr) (vc : Nat),y = .int .i64 i ∧ i ≤ n1 ∧ Hid (Bo.Box wx w.heap.size #[.int .i64 no,.slice n0 n1 n2,.slice s0 s1 s2]) ∧ Hid (Bo.Box wx (w.heap.size + 1) #[.int .i64 0,.slice none 0 0,.slice none 0 0]) ∧ Hid (Bo.Box wx gb #[.int .i64 no,.slice va i vc,.slice ka s1 kc]) ∧ Hid (Ty 30 gb wx) ∧ Hid (OwnX wx (w.heap.size + 2) (.slice va i vc) (ns.take i)) ∧ Hid (Iv.Own wx (w.heap.size + 2) (.slice ka s1 kc) ck) ∧ Hid (Below w.heap.size w wx)) (fun y _=>(n1 - intOf y).toNat)
  case atStart=>exact ⟨0,none,0,rfl,by omega,BP1,BR1,BX1,TY1,hidIt ⟨W.heap.size,by rw [List.take_zero]; exact Ns.Own.ofNil W HL1.out (Nat.le_refl _)⟩,OK1,HB1⟩
  case round =>
   obtain ⟨i,va,vc,rfl,hi,BPx,BR,BX,TY,OX,OK,HBx⟩:=hrel
   clear BP1 BR1 BX1 TY1 OK1 HB1 
   by_cases hin : i < n1
   ·
    have hin' : (i : Int) < (n1 : Int):=by omega
    have hi0' : (0 : Int) ≤ (i : Int):=by omega
    have hiL : i < ns.length:=by rw [HN.out]; exact hin
    obtain ⟨Cn,ocn⟩:=HOw.out.on
    have rNs : Ns.Rd w n0 ns:=Ns.Own.rd (m:=n1) (cap:=n2) ⟨Cn,ocn⟩
    obtain ⟨q,offq,hq0⟩:=rNs.addr (by omega)
    obtain ⟨aq,cq,eqq,_,_,_,_,fq⟩:=ocn.row.form
    have hn0 : n0 = aq:=by simp only [sv,Value.slice.injEq] at eqq; exact eqq.1
    obtain ⟨gq,egq,_⟩:=fq ⟨q,offq,none⟩ (by rw [← hn0]; exact hq0)
    have hq1 : n0 = some ⟨q,0,none⟩:=by rw [hq0]; cases egq; rfl
    have HQ:=hidIt hq1
    have hcn : Ns.Own w lo hh (.slice (some ⟨q,0,none⟩) n1 n2) ns:=by have z : Ns.Own w lo hh (sv (n0,n1,n2)) ns:=⟨Cn,ocn⟩; simp only [sv,hq1] at z; exact z
    obtain ⟨e,m9,b,g,c0,c1,c2,c3,c4,c5,c6,c7,c8,c9,_,_,_,_,_,_,_,_,_,_,oN⟩:=hcn.cells (i:=i) hiL
    have bq : q < w.heap.size:=World.block_lt_of_cell? w _ c0
    have okx:=HOkN.out i hiL
    have htk:=Ns.take_nod hiL
    generalize nod ns i = x at *
    obtain ⟨bk,mm,ph,mn,ol,nw,tm,bu,lg,ap⟩:=x
    have CC:=hidIt (fun W (k : Below w.heap.size w W)=>spec_l17Copy ⟨bk,mm,ph,mn,ol,nw,tm,bu,lg,ap⟩ e m9 b g lo W (oN.kept k) okx)
    obtain ⟨e0,e1,e2⟩:=e
    obtain ⟨t0,t1,t2⟩:=m9
    obtain ⟨b0,b1,b2⟩:=b
    obtain ⟨g0,g1,g2⟩:=g
    simp only [Nd.nv,Nd.nc,sv] at c0 c1 c2 c3 c4 c5 c6 c7 c8 c9 CC
    have HTK:=hidIt htk
    have HNd : Hid (∀ W,Below w.heap.size w W → W.cell? ⟨q,i * 10,none⟩ = some (.slice e0 e1 e2) ∧ W.cell? ⟨q,i * 10 + 1,none⟩ = some (.slice t0 t1 t2) ∧ W.cell? ⟨q,i * 10 + 2,none⟩ = some (.int .i64 ph) ∧ W.cell? ⟨q,i * 10 + 3,none⟩ = some (.int .i64 mn) ∧ W.cell? ⟨q,i * 10 + 4,none⟩ = some (.int .i64 ol) ∧ W.cell? ⟨q,i * 10 + 5,none⟩ = some (.int .i64 nw) ∧ W.cell? ⟨q,i * 10 + 6,none⟩ = some (.int .i64 tm) ∧ W.cell? ⟨q,i * 10 + 7,none⟩ = some (.slice b0 b1 b2) ∧ W.cell? ⟨q,i * 10 + 8,none⟩ = some (.slice g0 g1 g2) ∧ W.cell? ⟨q,i * 10 + 9,none⟩ = some (.string ap)):=hidIt (fun W k=>⟨(k.cell bq).trans c0,(k.cell bq).trans c1,(k.cell bq).trans c2,(k.cell bq).trans c3,(k.cell bq).trans c4,(k.cell bq).trans c5,(k.cell bq).trans c6,(k.cell bq).trans c7,(k.cell bq).trans c8,(k.cell bq).trans c9⟩)
    clear htk okx oN bq c0 c1 c2 c3 c4 c5 c6 c7 c8 c9 hcn egq fq eqq hn0 ocn rNs hq0 hq1
    obtain ⟨hi2,C,oc0⟩:=OX.out.out
    have hvr : ∀ g,(Value.slice va i vc).ownBlock = some g → w.heap.size + 2 ≤ g ∧ g < wr.heap.size:=fun g hg=>World.ownsRow.lt oc0.row g hg
    have HMl : Hid ((ns.take i).length = i):=hidIt (by rw [List.length_take]; omega)
    have HLn : Hid (C.length ≤ 4):=hidIt (by rw [oc0.len,HMl.out]; have:=HN.out; omega)
    have HIN:=hidIt hin'
    have HI0:=hidIt hi0'
    have hgb2:=TY.out.lt
    have kB : Below wr.heap.size wr (wr):=Below.refl _ _
    have OC6:=hidIt (oc0.kept kB)
    have BP6:=hidIt (BPx.out.kept kB)
    have BX6:=hidIt (BX.out.kept kB)
    have BR6:=hidIt (BR.out.kept kB)
    have TY6:=hidIt (TY.out.kept kB)
    have OK6:=hidIt (OK.out.kept kB)
    have HB6:=hidIt (HBx.out.trans (kB.mono HBx.out.size))
    skip
    have HL0 : Hid (w.heap.size + 2 ≤ (wr).heap.size):=hidIt (by have:=kB.size; have:=HGw.out; omega)
    have HHI : Hid (hi2 ≤ (wr).heap.size):=hidIt (Nat.le_trans oc0.hi' kB.size)
    have HV : Hid ((∀ g,(Value.slice va i vc).ownBlock = some g → w.heap.size + 2 ≤ g) ∧ ∀ g,(Value.slice va i vc).ownBlock = some g → g = wr.heap.size → False):=hidIt ⟨fun g hg=>(hvr g hg).1,fun g hg e=>by have:=(hvr g hg).2; omega⟩
    have HLO : Hid (w.heap.size ≤ w.heap.size + 2):=hidIt (by omega)
    have HGB : Hid (w.heap.size < w.heap.size + 2 ∧ w.heap.size + 1 < w.heap.size + 2 ∧ w.heap.size + 2 ≤ gb):=hidIt ⟨by omega,by omega,HGw.out⟩
    have HGW : Hid (w.heap.size ≤ gb):=hidIt (by have:=HGw.out; omega)
    have HGN : Hid (wr.heap.size ≠ gb):=hidIt (by omega)
    have d1:=BPx.out.c 1 (v:=.slice n0 n1 n2) rfl
    clear oc0 kB hvr BX BR TY OX OK HBx hgb2
    go_wp2_with (fail)
    clear d1 BPx
    generalize hw6 : wr = W6 at OC6 BP6 BX6 BR6 TY6 OK6 HB6 HL0 HHI HV HGN ⊢
    clear hw6
    have kd : Below W6.heap.size W6 W6.drew:=(Below.refl _ _).drew
    refine wp_region_inv (by kernel_rfl) (by kernel_rfl) (KMS w.heap.size (w.heap.size + 1) gb 0 (w.heap.size + 2) hi2 no n0 n1 n2 s0 s1 s2 va i vc ka kc ck q C (ns.take i) bk mm ph mn ol nw tm bu lg ap e0 e1 e2 t0 t1 t2 b0 b1 b2 g0 g1 g2 w W6 _ _ _ _ _ _ _ _ _ _ _ _ _ _ _ _ _ _ _ _) ⟨_,_,_,_,_,_,_,_,_,_,_,rfl,⟨(fun q0=>by cases q0),(fun q0=>by cases q0),(fun q0=>by cases q0),(fun q0=>by cases q0),(fun q0=>by cases q0),(fun q0=>by cases q0),(fun q0=>by cases q0),(fun q0=>by cases q0),(HB6.out.trans (kd.mono HB6.out.size)),(Nat.le_refl _),(BP6.out.kept kd),(BR6.out.kept kd),(fun _=>BX6.out.kept kd),(fun q0=>by cases q0),(TY6.out.kept kd),(fun _=>OC6.out.kept kd),(fun q0=>by cases q0),(OK6.out.kept kd),(fun q0 q1=>by cases q0),(fun q0 q1=>by cases q0),(fun q0=>by cases q0),(fun q0=>by cases q0),(fun q0=>by cases q0),(fun q0=>by cases q0)⟩⟩ ?_ ?_
    case refine_1 =>
     intro Lb a' W j hj hI hL hD
     have hcases : j = 0 ∨ j = 1 ∨ j = 2 ∨ j = 3 ∨ j = 4 ∨ j = 5 ∨ j = 6 ∨ j = 7 ∨ j = 8 ∨ j = 9 ∨ j = 10 ∨ j = 11:=by simp at hj; omega
     clear hj
     obtain ⟨u19,u20,u21,u22,u23,u24,u25,u26,u27,u28,u29,rfl,R⟩:=hI
     rcases hcases with rfl | rfl | rfl | rfl | rfl | rfl | rfl | rfl | rfl | rfl | rfl | rfl
     ·
      skip
      refine op_at rfl (fun K hK=>?_)
      go_simp
      refine hK _ _ ?_
      exact ⟨_,_,_,_,_,_,_,_,_,_,_,rfl,{ R with k0:=(fun _=>rfl) }⟩
     ·
      skip
      have e0:=R.k0 (hD 0 (by kernel_rfl))
      subst e0
      have n11 : Lb 11 = false:=by
       cases q : Lb 11 with
       | false=>rfl
       | true=>have z:=R.p9_1 (R.p11_9 (q)); rw [hL] at z; cases z
      have d1:=(R.bb n11).c 1 (v:=.slice va i vc) rfl
      refine op_at rfl (fun K hK=>?_)
      go_simp
      refine hK _ _ ?_
      exact ⟨_,_,_,_,_,_,_,_,_,_,_,rfl,{ R with k1:=(fun _=>rfl),p9_1:=(fun _=>rfl) }⟩
     ·
      skip
      refine op_at rfl (fun K hK=>?_)
      go_simp
      refine hK _ _ ?_
      exact ⟨_,_,_,_,_,_,_,_,_,_,_,rfl,{ R with k2:=(fun _=>rfl) }⟩
     ·
      skip
      have e2:=R.k2 (hD 2 (by kernel_rfl))
      subst e2
      have d1:=R.bp.c 1 (v:=.slice n0 n1 n2) rfl
      rw [HQ.out] at d1
      refine op_at rfl (fun K hK=>?_)
      go_simp
      refine hK _ _ ?_
      exact ⟨_,_,_,_,_,_,_,_,_,_,_,rfl,{ R with k3:=(fun _=>rfl) }⟩
     ·
      skip
      refine op_at rfl (fun K hK=>?_)
      go_simp
      refine hK _ _ ?_
      exact ⟨_,_,_,_,_,_,_,_,_,_,_,rfl,{ R with k4:=(fun _=>rfl) }⟩
     ·
      skip
      have e3:=R.k3 (hD 3 (by kernel_rfl))
      subst e3
      have e4:=R.k4 (hD 4 (by kernel_rfl))
      subst e4
      have hin1:=HIN.out
      have hin0:=HI0.out
      refine op_at rfl (fun K hK=>?_)
      go_simp
      refine hK _ _ ?_
      exact ⟨_,_,_,_,_,_,_,_,_,_,_,rfl,{ R with k5:=(fun _=>rfl) }⟩
     ·
      skip
      have e5:=R.k5 (hD 5 (by kernel_rfl))
      subst e5
      obtain ⟨c0,c1,c2,c3,c4,c5,c6,c7,c8,c9⟩:=HNd.out W R.kb
      refine op_at rfl (fun K hK=>?_)
      go_simp
      refine hK _ _ ?_
      exact ⟨_,_,_,_,_,_,_,_,_,_,_,rfl,{ R with k6:=(fun _=>rfl) }⟩
     ·
      skip
      have e6:=R.k6 (hD 6 (by kernel_rfl))
      subst e6
      have n8 : Lb 8 = false:=by
       cases q : Lb 8 with
       | false=>rfl
       | true=>have z:=R.p8_7 (q); rw [hL] at z; cases z
      have n11 : Lb 11 = false:=by
       cases q : Lb 11 with
       | false=>rfl
       | true=>have z:=R.p8_7 (R.p9_8 (R.p11_9 (q))); rw [hL] at z; cases z
      have hsz:=R.sz
      refine op_at rfl (fun K hK=>?_)
      go_simp
      refine (CC.out W R.kb).mono ?_
      intro en W' hz
      obtain ⟨⟨x0,x1,x2⟩,⟨y0,y1,y2⟩,⟨z0,z1,z2⟩,⟨v0,v1,v2⟩,rfl,oN1,kA⟩:=hz.out
      have oN2 : OwnN W' W6.heap.size _ _ _ _ _:=⟨oN1.e.mono hsz,oN1.m.mono hsz,oN1.b.mono hsz,oN1.g.mono hsz⟩
      go_simp
      refine hK _ _ ?_
      exact ⟨_,_,_,_,_,_,_,_,_,_,_,rfl,⟨R.k0,R.k1,R.k2,R.k3,R.k4,R.k5,R.k6,R.k10,(R.kb.trans (kA.mono R.kb.size)),(Nat.le_trans R.sz kA.size),(R.bp.kept kA),(R.br.kept kA),(fun q0=>(R.bb q0).kept kA),(fun q0=>no1 n11 q0),(R.ty.kept kA),(fun q0=>(R.on q0).kept kA),(fun q0=>(R.oN q0).kept kA),(R.ok.kept kA),(fun _ _=>⟨_,_,_,_,rfl,oN2⟩),(fun q0 q1=>no1 n8 q0),(fun _=>rfl),R.p9_8,R.p9_1,(fun q0=>no1 n11 q0)⟩⟩
     ·
      skip
      have n9 : Lb 9 = false:=by
       cases q : Lb 9 with
       | false=>rfl
       | true=>have z:=R.p9_8 (q); rw [hL] at z; cases z
      have n11 : Lb 11 = false:=by
       cases q : Lb 11 with
       | false=>rfl
       | true=>have z:=R.p9_8 (R.p11_9 (q)); rw [hL] at z; cases z
      obtain ⟨⟨x0,x1,x2⟩,⟨y0,y1,y2⟩,⟨z0,z1,z2⟩,⟨v0,v1,v2⟩,e7,oN1⟩:=R.f7 (hD 7 (by kernel_rfl)) hL
      simp only [Nd.nv,Nd.nc,sv] at e7
      subst e7
      have kA:=(Below.refl W.heap.size W).alloc (Nat.le_refl _) (.cells #[.slice x0 x1 x2,.slice y0 y1 y2,.int .i64 ph,.int .i64 mn,.int .i64 ol,.int .i64 nw,.int .i64 tm,.slice z0 z1 z2,.slice v0 v1 v2,.string ap] 49)
      have hsz:=R.sz
      refine op_at rfl (fun K hK=>?_)
      go_simp
      refine hK _ _ ?_
      exact ⟨_,_,_,_,_,_,_,_,_,_,_,rfl,⟨R.k0,R.k1,R.k2,R.k3,R.k4,R.k5,R.k6,R.k10,(R.kb.trans (kA.mono R.kb.size)),(Nat.le_trans R.sz kA.size),(R.bp.kept kA),(R.br.kept kA),(fun q0=>(R.bb q0).kept kA),(fun q0=>no1 n11 q0),(R.ty.kept kA),(fun q0=>(R.on q0).kept kA),(fun q0=>no1 n9 q0),(R.ok.kept kA),(fun q0 q1=>by cases q1),(fun _ _=>⟨(x0,x1,x2),(y0,y1,y2),(z0,z1,z2),(v0,v1,v2),One.new _ 49 hsz,oN1.kept kA⟩),(fun _=>hD 7 (by kernel_rfl)),(fun _=>rfl),(fun q0=>no1 n9 q0),(fun q0=>no1 n11 q0)⟩⟩
     ·
      skip
      have e1:=R.k1 (hD 1 (by kernel_rfl))
      subst e1
      have n11 : Lb 11 = false:=by
       cases q : Lb 11 with
       | false=>rfl
       | true=>have z:=R.p11_9 (q); rw [hL] at z; cases z
      obtain ⟨⟨x0,x1,x2⟩,⟨y0,y1,y2⟩,⟨z0,z1,z2⟩,⟨v0,v1,v2⟩,⟨bl,e8,h8,x8⟩,oN1⟩:=R.f8 (hD 8 (by kernel_rfl)) hL
      subst e8
      have oc:=R.on hL
      have ow:=oc.row
      have hlC:=oc.len
      have hhi:=oc.hi'
      refine op_at rfl (fun K hK=>?_)
      refine step_row (by rfl) (.tmp 20) (.tmp 27) 28 (by rfl) 49 i0 (.agg #[sv (none,0,0),sv (none,0,0),.int .i64 0,.int .i64 0,.int .i64 0,.int .i64 0,.int .i64 0,sv (none,0,0),sv (none,0,0),.string ByteArray.empty]) 10 152 Tryz.underlying28 hi0 hz0 hz1 hz2 rfl (by decide) (w.heap.size + 2) (.slice va i vc) C.length (Nv.rcells C) (by simp [Act.eval]) ow ⟨bl,0,none⟩ 1 1 (Nv.rcells [(Ns.nrw ⟨bk,mm,ph,mn,ol,nw,tm,bu,lg,ap⟩ (x0,x1,x2) (y0,y1,y2) (z0,z1,z2) (v0,v1,v2))]) (by simp [Act.eval]) rfl (box_cells x8) (Nv.rcells_one _) (by unfold maxLen; have:=HLn.out; omega) (by have:=HLn.out; omega) (Nat.le_trans HL0.out R.sz) ?_
      intro v' W' hown hgrow hnil
      have oo : Nv.Own W' (w.heap.size + 2) v' (C ++ [Ns.nrw ⟨bk,mm,ph,mn,ol,nw,tm,bu,lg,ap⟩ (x0,x1,x2) (y0,y1,y2) (z0,z1,z2) (v0,v1,v2)]):=Nv.Own.more (L:=C) (M:=[Ns.nrw ⟨bk,mm,ph,mn,ol,nw,tm,bu,lg,ap⟩ (x0,x1,x2) (y0,y1,y2) (z0,z1,z2) (v0,v1,v2)]) hown
      have pc:=oc.push (x:=⟨bk,mm,ph,mn,ol,nw,tm,bu,lg,ap⟩) (e:=(x0,x1,x2)) (m:=(y0,y1,y2)) (b:=(z0,z1,z2)) (g:=(v0,v1,v2)) ⟨oN1.e.mono HHI.out,oN1.m.mono HHI.out,oN1.b.mono HHI.out,oN1.g.mono HHI.out⟩ oo hgrow
      refine hK _ _ ?_
      exact ⟨_,_,_,_,_,_,_,_,_,_,_,rfl,⟨R.k0,R.k1,R.k2,R.k3,R.k4,R.k5,R.k6,R.k10,(below_grown R.kb hgrow R.kb.size (fun g hg=>Nat.le_trans HLO.out (HV.out.1 g hg))),(Nat.le_trans R.sz hgrow.size),(box_grown R.bp hgrow (fun e=>by have h1:=HV.out.1 _ e; have h2:=HGB.out; omega)),(box_grown R.br hgrow (fun e=>by have h1:=HV.out.1 _ e; have h2:=HGB.out; omega)),(fun q0=>box_grown (R.bb q0) hgrow (R.ty.apart ow (by decide))),(fun q0=>no1 n11 q0),(R.ty.grown hgrow (R.ty.apart ow (by decide))),(fun q0=>by cases q0),(fun _=>⟨_,_,pc⟩),(row_grown R.ok hgrow (own_apart R.ok ow (by decide))),(fun q0 q1=>no1 q1 (hD 8 (by kernel_rfl))),(fun q0 q1=>by cases q1),R.p8_7,(fun _=>hD 8 (by kernel_rfl)),(fun _=>hD 1 (by kernel_rfl)),(fun _=>rfl)⟩⟩
     ·
      skip
      refine op_at rfl (fun K hK=>?_)
      go_simp
      refine hK _ _ ?_
      exact ⟨_,_,_,_,_,_,_,_,_,_,_,rfl,{ R with k10:=(fun _=>rfl) }⟩
     ·
      skip
      have e10:=R.k10 (hD 10 (by kernel_rfl))
      subst e10
      obtain ⟨a6,c6,e6⟩:=(R.oN (hD 9 (by kernel_rfl))).form
      rw [show ((ns.take i) ++ [(⟨bk,mm,ph,mn,ol,nw,tm,bu,lg,ap⟩ : Nw)]).length = i + 1 by rw [List.length_append,HMl.out]; rfl] at e6
      subst e6
      have bx:=R.bb hL
      have d1:=bx.c 1 (v:=.slice va i vc) rfl
      have f1:=bx.fr 1
      have Y:=(Only.refl gb W).setCell 1 (.slice a6 (i + 1) c6)
      refine op_at rfl (fun K hK=>?_)
      go_simp
      refine hK _ _ ?_
      exact ⟨_,_,_,_,_,_,_,_,_,_,_,rfl,⟨R.k0,R.k1,R.k2,R.k3,R.k4,R.k5,R.k6,R.k10,(below_only R.kb Y R.kb.size HGW.out),(Nat.le_trans R.sz Y.size),(box_only R.bp Y (by have h2:=HGB.out; omega)),(box_only R.br Y (by have h2:=HGB.out; omega)),(fun q0=>by cases q0),(fun _=>bx.put (c':=#[.int .i64 no,.slice a6 (i + 1) c6,.slice ka s1 kc]) 1 (.slice a6 (i + 1) c6) (by simp) rfl),(R.ty.self 1 _),(fun q0=>no1 q0 (hD 9 (by kernel_rfl))),(fun q0=>(R.oN q0).box R.ty Y),(R.ty.row R.ok (by decide) Y),(fun q0 q1=>no1 q1 (R.p9_8 (hD 9 (by kernel_rfl)))),(fun q0 q1=>no1 q1 (hD 9 (by kernel_rfl))),R.p8_7,R.p9_8,R.p9_1,(fun _=>hD 9 (by kernel_rfl))⟩⟩
    case refine_2 =>
     intro Lb a' W hI hall
     obtain ⟨u19,u20,u21,u22,u23,u24,u25,u26,u27,u28,u29,rfl,R⟩:=hI
     have bx:=R.bS (hall 11)
     have br:=R.br
     have bp:=R.bp
     have ty:=R.ty
     have ox:=R.oN (hall 9)
     have ok:=R.ok
     have kb:=R.kb
     clear R hall
     rw [← HTK.out] at ox
     obtain ⟨za,zc,e1⟩:=ox.form
     rw [List.length_take,Nat.min_eq_left (by have:=HN.out; omega)] at e1
     subst e1
     have BXs:=hidIt bx
     have BRs:=hidIt br
     have BPs:=hidIt bp
     have TYs:=hidIt ty
     have OXs:=hidIt ox
     have OKs:=hidIt ok
     have HBs:=hidIt kb
     clear bx br bp ty ox ok kb
     go_wp2_with (fail)
     exact ⟨⟨i + 1,za,zc,by simp,by omega,BPs,BRs,BXs,TYs,OXs,OKs,HBs⟩,by simp [intOf]; omega⟩
   ·
    have hin' : ¬ (i : Int) < (n1 : Int):=by omega
    obtain rfl : i = n1:=by omega
    have d1:=BPx.out.c 1 (v:=.slice n0 i n2) rfl
    have a0z:=BX.out.c 0 (v:=.int .i64 no) rfl
    have a1z:=BX.out.c 1 (v:=.slice va i vc) rfl
    have a2z:=BX.out.c 2 (v:=.slice ka s1 kc) rfl
    have c0z:=BR.out.c 0 (v:=.int .i64 0) rfl
    have c1z:=BR.out.c 1 (v:=.slice none 0 0) rfl
    have c2z:=BR.out.c 2 (v:=.slice none 0 0) rfl
    have z0z:=BR.out.fr 0
    have z1z:=BR.out.fr 1
    have z2z:=BR.out.fr 2
    have RZ:=hidIt ((((BR.out).put (c':=#[.int .i64 no,.slice none 0 0,.slice none 0 0]) 0 (.int .i64 no) (by simp) rfl).put (c':=#[.int .i64 no,.slice va i vc,.slice none 0 0]) 1 (.slice va i vc) (by simp) rfl).put (c':=#[.int .i64 no,.slice va i vc,.slice ka s1 kc]) 2 (.slice ka s1 kc) (by simp) rfl)
    have HZ:=hidIt ((((HBx.out).setCell (p:=⟨w.heap.size + 1,0,none⟩) (by show w.heap.size ≤ w.heap.size + 1; omega) (.int .i64 no)).setCell (p:=⟨w.heap.size + 1,1,none⟩) (by show w.heap.size ≤ w.heap.size + 1; omega) (.slice va i vc)).setCell (p:=⟨w.heap.size + 1,2,none⟩) (by show w.heap.size ≤ w.heap.size + 1; omega) (.slice ka s1 kc))
    have YZ:=hidIt ((((Only.refl (w.heap.size + 1) wr).setCell 0 (.int .i64 no)).setCell 1 (.slice va i vc)).setCell 2 (.slice ka s1 kc))
    go_wp2_with (fail)
    generalize (((wr).setCell ⟨w.heap.size + 1,0,none⟩ (.int .i64 no)).setCell ⟨w.heap.size + 1,1,none⟩ (.slice va i vc)).setCell ⟨w.heap.size + 1,2,none⟩ (.slice ka s1 kc) = wz at RZ HZ YZ ⊢
    clear a0z c0z z0z a1z c1z z1z a2z c2z z2z
    have q0c:=RZ.out.c 0 (v:=.int .i64 no) rfl
    have q1c:=RZ.out.c 1 (v:=.slice va i vc) rfl
    have q2c:=RZ.out.c 2 (v:=.slice ka s1 kc) rfl
    refine bodyPost_ret (v:=.agg #[.int .i64 no,.slice va i vc,.slice ka s1 kc]) (by simp [results,Tryz.results27,go_sem,q0c,q1c,q2c]) rfl ?_
    have OXz:=hidIt (OX.out.low YZ.out (by omega))
    have OKz : Hid (Iv.Own wz (w.heap.size + 2) (.slice ka s1 kc) ck):=hidIt (OK.out.only YZ.out (.inl (by omega)))
    have hns : ns.take i = ns:=by rw [← HN.out]; exact List.take_length
    rw [hns] at OXz
    exact KluP.of (n:=(va,i,vc)) (k:=(ka,s1,kc)) rfl ⟨OXz.out.done (by omega),OKz.out.mono (by omega),fun g hg=>(World.ownsRow.lt OKz.out g hg).2⟩ HZ.out
end Go.Proofs.YtgbnkkjjgodilaaGreatDoor.Kc
namespace Go.Proofs.YtgbnkkjjgodilaaGreatDoor.Rp
open Go.ChangeShapes Go.WideShapes Go.ChangeAt Go.RowKit
open Vv (Sl sv hidIt)
def svals (S : Nat → Sl) (n : Nat) : List Value:=(List.range n).map (fun i=>sv (S i))
theorem svals_at {S : Nat → Sl} {n i : Nat} (h : i < n) : (svals S n)[i]? = some (sv (S i)):=by simp [svals,h]
theorem svals_push (S : Nat → Sl) (n : Nat) (s : Sl) : svals (Hq.upd S n s) (n + 1) = svals S n ++ [sv s]:=by
 unfold svals
 rw [List.range_succ,List.map_append]
 congr 1
 ·
  refine List.map_congr_left (fun i hi=>?_)
  rw [Hq.upd_ne (by have:=List.mem_range.1 hi; omega)]
 ·
  simp [Hq.upd_at]
def KtS (w wx : World) (L : List Rep) (i : Nat) (v : Value) : Prop:=∃ S : Nat → Sl,wx.ownsRow w.heap.size 40 1 v i (svals S i) ∧ (∀ j,j < i → RdE w (S j) (rat L j).1) ∧ Below w.heap.size w wx
theorem keys_len {L : List Rep} {n : Nat} {x : Nat → En.Rt} {J : List En.Rw} (hT : Tame L) (r : En.Ra (fun i=>(rat L i).1) L.length n x) (hJ : Bk.Ris (En.toB J)) (hk : ∀ k,(∃ i,i < n ∧ ∃ e ∈ En.toB (x i).L,e.key = k) ↔ ∃ e ∈ En.toB J,e.key = k) : J.length = (Bk.whole (bks L)).length:=by
 have h1:=Bk.same_len hJ (Bk.whole_ris hT.bris) (fun k=>by
  rw [← hk k,Bk.whole_keys hT.bris]
  constructor
  ·
   rintro ⟨i,hi,e,he,q⟩
   obtain ⟨j,hj,ej⟩:=r.from' i hi
   rw [ej] at he
   exact ⟨_,List.mem_map.2 ⟨rat L j,rat_mem hj,rfl⟩,e,he,q⟩
  ·
   rintro ⟨b,hb,e,he,q⟩
   obtain ⟨y,hy,rfl⟩:=List.mem_map.1 hb
   obtain ⟨j,hj,rfl⟩:=List.mem_iff_getElem.1 hy
   rw [← rat_at hj] at he
   obtain ⟨i,hi,ei⟩:=r.to' j hj (by intro z; rw [z] at he; simp at he)
   exact ⟨i,hi,e,by rw [ei]; exact he,q⟩)
 rw [En.toB_length] at h1
 exact h1
theorem tot_tame {L : List Rep} (hT : Tame L) : Hq.tot List.length (fun i=>(rat L i).1) L.length ≤ 480:=by
 have:=Hq.tot_le List.length (x:=fun i=>(rat L i).1) (m:=80) (n:=L.length) (fun i hi=>hT.bl i hi)
 have:=hT.n
 omega
theorem impl_keysTogether (a : Option Addr) (cap : Nat) (L : List Rep) (w : World) (h : Rd w a L) (hT : Tame L) (h1 : 1 ≤ L.length) :
  Calls Tryz.prog 82 #[.slice a L.length cap] w fun e w'=>e = .returned (.int .i64 ((Bk.whole (bks L)).length : Int)) ∧ Below w.heap.size w w':=by
 obtain ⟨i0,hi0,hz0,hz1,hz2⟩:=info_parts En.infoSl
 have HR:=hidIt h
 have hm6:=hT.n
 have HFin : Hid (∀ W c q (S : Nat → Sl),W.ownsRow w.heap.size 40 1 (.slice (some ⟨q,0,none⟩) L.length c) L.length (svals S L.length) → (∀ j,j < L.length → RdE W (S j) (rat L j).1) → Calls Tryz.prog 112 #[.slice (some ⟨q,0,none⟩) L.length c] W fun e w'=>e = .returned (.pointer (some ⟨W.heap.size + 1,0,none⟩)) ∧ En.RoS W w' (fun i=>(rat L i).1) L.length):=hidIt (fun W c q S ho hr=>En.impl_restsOfN (S:=S) ⟨fun i hi=>by rw [World.ownsRow.cellAt ho i (by omega)]; exact svals_at hi,fun i hi=>(hr i hi).len,fun i hi=>(hr i hi).rd,fun i hi=>(hr i hi).le⟩ (by omega) (World.ownsRow.lt ho q rfl).2)
 have HNew : Hid (∀ W W',En.RoS W W' (fun i=>(rat L i).1) L.length → Calls Tryz.prog 111 #[.pointer (some ⟨W.heap.size + 1,0,none⟩)] W' fun e w'=>(∃ za zc,e = .returned (.slice za (Bk.whole (bks L)).length zc)) ∧ Below W.heap.size W w'):=hidIt (fun W W' hr=>by
  obtain ⟨n,x,⟨g,cp,s⟩,ok,r,b⟩:=hr
  have hris : ∀ i,i < n → Bk.Ris (En.toB (x i).L):=fun i hi=>by
   obtain ⟨j,hj,ej⟩:=r.from' i hi
   rw [ej]
   exact hT.br j hj
  have htot : Hq.tot List.length (fun i=>En.toB (x i).L) n ≤ 480:=by
   have e1:=En.tot_map List.length (fun q : En.Rt=>En.toB q.L) x n
   rw [e1]
   simp only [En.toB_length]
   rw [r.sum]
   exact tot_tame hT
  refine (En.impl_newestN s ok (by have:=r.le; omega) hris htot (by omega)).mono ?_
  rintro e w2 ⟨v,J,rfl,o,rJ,kJ,_,k2⟩
  obtain ⟨za,zc,ez,_⟩:=o.form
  rw [keys_len hT r rJ kJ] at ez
  exact ⟨⟨za,zc,by rw [ez]⟩,b.trans k2⟩)
 generalize ((Bk.whole (bks L)).length) = ans at HNew ⊢
 clear h hT
 generalize hn : L.length = m at *
 have HN:=hidIt hn
 clear hn
 go_enter Tryz.func82,Tryz.ntmps82
 go_wp2_with (fail)
 go_loopw [3,9] (fun v y wx=>∃ (i : Nat) (va : Option Addr) (vn vc : Nat),y = .int .i64 i ∧ v = .slice va vn vc ∧ i ≤ m ∧ Hid (KtS w wx L i (.slice va vn vc))) (fun _ y _=>(m - intOf y).toNat)
 case atStart=>exact ⟨0,_,_,_,rfl,rfl,by omega,hidIt ⟨fun _=>(none,0,0),World.ownsRow_made w #[] 0 (Nat.le_refl _) (by decide) rfl,fun j hj=>absurd hj (by omega),(Below.refl _ w).alloc (Nat.le_refl _) _⟩⟩
 case round =>
  obtain ⟨i,va,vn,vc,rfl,rfl,hi,HS⟩:=hrel
  by_cases hin : i < m
  ·
   have hin' : (i : Int) < (m : Int):=by omega
   have hiL : i < L.length:=by rw [HN.out]; exact hin
   obtain ⟨S,ho,hr,hb⟩:=HS.out
   obtain ⟨b,off,p,q,ea,c0',c1',rE,rM⟩:=HR.out.one (i:=i) hiL
   subst ea
   have hbw : b < w.heap.size:=World.block_lt_of_cell? _ _ c0'
   have c0:=(hb.cell (p:=⟨b,off + i * 2,none⟩) hbw).trans c0'
   have c1:=(hb.cell (p:=⟨b,off + i * 2 + 1,none⟩) hbw).trans c1'
   have hbr : b < wr.heap.size:=Nat.lt_of_lt_of_le hbw hb.size
   clear c0' c1'
   have HO:=hidIt ho
   have HRr:=hidIt hr
   have HB:=hidIt hb
   have HE:=hidIt rE
   obtain ⟨p0,p1,p2⟩:=p
   obtain ⟨q0,q1,q2⟩:=q
   simp only [sv] at c0 c1
   clear HS ho hr hb rE rM
   have HA1:=hidIt (((Below.refl wr.heap.size wr).alloc (Nat.le_refl _) (.cells #[.slice p0 p1 p2,.slice q0 q1 q2] 43)).alloc (by simp) (.cells #[.slice p0 p1 p2] 40))
   have HOw : Hid (((wr.alloc (.cells #[.slice p0 p1 p2,.slice q0 q1 q2] 43)).alloc (.cells #[.slice p0 p1 p2] 40)).ownsRow w.heap.size 40 1 (.slice va vn vc) i (svals S i)):=hidIt (World.ownsRow.alloc (World.ownsRow.alloc HO.out _) _)
   go_wp2_with (first | (at_builtin; refine wpList_append_own _ rfl _ _ 143 rfl w.heap.size 40 i0 (.slice none 0 0) 1 24 Tryz.underlying143 hi0 hz0 hz1 hz2 rfl (by decide) _ _ _ rfl HOw.out ⟨wr.heap.size + 1,0,none⟩ 1 1 [.slice p0 p1 p2] rfl rfl ?f1 ?f2 ?f3 ?f4 ?f5 ?_))
   case f1=>intro j u hj; match j,hj with | 0,hj=>simp at hj; subst hj; simp [Addr.add]
   case f2=>intro u hu; simp at hu; subst hu; rfl
   case f3=>unfold maxLen; omega
   case f4=>omega
   case f5=>have:=HB.out.size; simp; omega
   intro v' w9 hown hgrow _
   have HS9 : Hid (KtS w w9 L (i + 1) v'):=hidIt (by
    have hsz:=HB.out.size
    have k9 : Below w.heap.size wr w9:=(HA1.out.mono hsz).grown hgrow (by simp; omega) (fun k hk=>(World.ownsRow.lt HO.out k hk).1)
    refine ⟨Hq.upd S i (p0,p1,p2),by rw [svals_push]; exact hown,fun j hj=>?_,HB.out.trans k9⟩
    by_cases e : j = i
    ·
     subst e
     rw [Hq.upd_at]
     exact HE.out
    ·
     rw [Hq.upd_ne e]
     exact HRr.out j (by omega))
   obtain ⟨za,zn,zc,ez⟩ : ∃ a n c,v' = .slice a n c:=by
    rcases hown.2 with ⟨e,_⟩ | ⟨g,cap,cur,e,_⟩
    ·
     exact ⟨_,_,_,e⟩
    ·
     exact ⟨_,_,_,e⟩
   subst ez
   clear hown hgrow
   go_wp2_with (fail)
   exact ⟨⟨i + 1,za,zn,zc,by first | rfl | simp,rfl,by omega,HS9⟩,by simp [intOf]; omega⟩
  ·
   obtain rfl : i = m:=by omega
   obtain ⟨S,ho,hr,hb⟩:=HS.out
   obtain ⟨q,c,es⟩ : ∃ q c,Value.slice va vn vc = .slice (some ⟨q,0,none⟩) i c:=by
    rcases ho.2 with ⟨_,e⟩ | ⟨g,cap,cur,e,_⟩
    ·
     omega
    ·
     exact ⟨_,_,e⟩
   cases es
   have HC:=hidIt (HFin.out _ _ q S ho (fun j hj=>(hr j hj).kept hb))
   have HB:=hidIt hb
   clear ho hr hb HS
   go_wp2_with (fail)
   refine HC.out.mono ?_
   rintro e w2 ⟨rfl,r2⟩
   have HC2:=hidIt (HNew.out _ _ r2)
   clear r2
   go_wp2_with (fail)
   refine HC2.out.mono ?_
   rintro e w3 ⟨⟨za,zc,rfl⟩,k3⟩
   have HB3:=hidIt (on HB.out k3)
   clear k3
   go_wp2_with (fail)
   go_ret
   exact ⟨rfl,HB3.out⟩
theorem impl_GroupOk (a : Option Addr) (cap : Nat) (L : List Rep) (w : World) (h : Rd w a L) (hs : Short L) (hl : L.length ≤ 9223372036854775807) (hlb : ∀ i,i < L.length → (rat L i).1.length ≤ 9223372036854775807 ∧ (rat L i).2.length ≤ 9223372036854775807) :
  Calls Tryz.prog 47 #[.slice a L.length cap] w fun e w'=>e = .returned (.bool (okG L)) ∧ Below w.heap.size w w':=by
 have N1 : Hid (¬ 1 ≤ L.length → okG L = false):=hidIt (fun q=>by cases e : okG L with | false=>rfl | true=>exact absurd (okG_all e).1 q)
 have N2 : Hid (¬ L.length ≤ 6 → okG L = false):=hidIt (fun q=>by cases e : okG L with | false=>rfl | true=>exact absurd (okG_all e).2.1 q)
 have N3 : Hid (∀ i,i < L.length → okR (rat L i) = false → okG L = false):=hidIt (fun i hi q=>by cases e : okG L with | false=>rfl | true=>exact absurd ((okG_all e).2.2.1 i hi) (by rw [q]; decide))
 have N4 : Hid (1 ≤ L.length → L.length ≤ 6 → (∀ i,i < L.length → okR (rat L i) = true) → okG L = decide ((Bk.whole (bks L)).length ≤ 80)):=hidIt (fun h1 h2 h3=>by
  by_cases q : (Bk.whole (bks L)).length ≤ 80
  ·
   rw [okG_mk h1 h2 h3 q,decide_eq_true q]
  ·
   rw [decide_eq_false q]
   cases e : okG L with
   | false=>rfl
   | true=>exact absurd (okG_all e).2.2.2 q)
 have CW:=hidIt (fun W (r : Rd W a L) (t : Tame L) h1=>impl_keysTogether a cap L W r t h1)
 have HTM:=hidIt (fun h2 h3=>tame_of (L:=L) h2 h3)
 have CR:=hidIt (fun W s t i (hi : i < L.length) (hE : RdE W s (rat L i).1) (hM : RdM W t (rat L i).2)=>impl_replicaOk s t (rat L i) W hE hM (hs i hi) (hlb i hi).1 (hlb i hi).2)
 have HR:=hidIt h
 clear h hs hlb
 generalize okG L = r at N1 N2 N3 N4 ⊢
 generalize (Bk.whole (bks L)).length = ans at CW N4
 generalize hn : L.length = m at *
 have HN:=hidIt hn
 clear hn
 by_cases h1 : 1 ≤ m
 ·
  by_cases h6 : m ≤ 6
  ·
   have g1 : ¬ (m : Int) < 1:=by omega
   have g1' : decide ((m : Int) < 1) = false:=decide_eq_false g1
   have g2 : decide ((6 : Int) < (m : Int)) = false:=decide_eq_false (by omega)
   go_enter Tryz.func47,Tryz.ntmps47
   go_wp2_with (fail)
   go_loopw [15] (fun y wx=>∃ i : Nat,y = .int .i64 i ∧ i ≤ m ∧ Hid (∀ j,j < i → okR (rat L j) = true) ∧ Hid (Below w.heap.size w wx)) (fun y _=>(m - intOf y).toNat)
   case atStart=>exact ⟨0,rfl,by omega,hidIt (fun j hj=>by omega),hidIt (Below.refl _ _)⟩
   case round =>
    obtain ⟨i,rfl,hi,HO,HB⟩:=hrel
    by_cases hin : i < m
    ·
     have hin' : (i : Int) < (m : Int):=by omega
     have hiL : i < L.length:=by rw [HN.out]; exact hin
     obtain ⟨b,off,p,q,ea,c0,c1,rE,rM⟩:=(HR.out.kept HB.out).one (i:=i) hiL
     subst ea
     have hbw : b < wr.heap.size:=World.block_lt_of_cell? _ _ c0
     have HA:=hidIt ((Below.refl wr.heap.size wr).alloc (Nat.le_refl _) (.cells #[sv p,sv q] 43))
     have C1:=hidIt (CR.out _ p q i hin (rE.kept HA.out) (rM.kept HA.out))
     obtain ⟨k,HOK⟩ : ∃ k,Hid (okR (rat L i) = k):=⟨_,hidIt rfl⟩
     rw [HOK.out] at C1
     obtain ⟨p0,p1,p2⟩:=p
     obtain ⟨q0,q1,q2⟩:=q
     simp only [sv] at c0 c1 C1 HA
     clear rE rM
     cases k with
     | false =>
      have er:=N3.out i hin HOK.out
      subst er
      go_wp2_with (fail)
      refine C1.out.mono ?_
      rintro e w1 ⟨rfl,k⟩
      have HB1:=hidIt (on (on HB.out HA.out) k)
      clear k
      go_wp2_with (fail)
      go_ret
      exact ⟨rfl,HB1.out⟩
     | true =>
      go_wp2_with (fail)
      refine C1.out.mono ?_
      rintro e w1 ⟨rfl,k⟩
      have HB1:=hidIt (on (on HB.out HA.out) k)
      clear k
      go_wp2_with (fail)
      refine ⟨⟨i + 1,by simp,by omega,hidIt (fun j hj=>?_),HB1⟩,by simp [intOf]; omega⟩
      rcases Nat.lt_succ_iff_lt_or_eq.1 hj with q | q
      ·
       exact HO.out j q
      ·
       subst q; exact HOK.out
    ·
     have hin' : ¬ (i : Int) < (m : Int):=by omega
     obtain rfl : i = m:=by omega
     have er:=N4.out h1 h6 HO.out
     have HT:=hidIt (HTM.out h6 HO.out)
     go_wp2_with (fail)
     refine (CW.out _ (HR.out.kept HB.out) HT.out h1).mono ?_
     rintro e w1 ⟨rfl,k⟩
     have HB1:=hidIt (on HB.out k)
     clear k
     subst er
     have hd : decide ((ans : Int) ≤ 80) = decide (ans ≤ 80):=decide_eq_decide.2 (by omega)
     go_wp2_with (fail)
     go_ret
     first | exact ⟨rfl,HB1.out⟩ | exact ⟨by rw [hd],HB1.out⟩
  ·
   have g1' : decide ((m : Int) < 1) = false:=decide_eq_false (by omega)
   have g2 : decide ((6 : Int) < (m : Int)) = true:=decide_eq_true (by omega)
   have er:=N2.out h6
   subst er
   go_enter Tryz.func47,Tryz.ntmps47
   go_wp2
   go_ret
   exact ⟨rfl,Below.refl _ _⟩
 ·
  have g1' : decide ((m : Int) < 1) = true:=decide_eq_true (by omega)
  have er:=N1.out h1
  subst er
  go_enter Tryz.func47,Tryz.ntmps47
  go_wp2
  go_ret
  exact ⟨rfl,Below.refl _ _⟩
end Go.Proofs.YtgbnkkjjgodilaaGreatDoor.Rp
namespace Go.Proofs.YtgbnkkjjgodilaaGreatDoor.Kc
open Go.ChangeShapes Go.WideShapes Go.ChangeAt Go.RowKit
open Vv (Sl sv hidIt)
open Nd (Nw RdN OwnN ShortN SmallN)
open Ns (nod)
open Rc (BelowBy wp_region_below calls_below calls_same)
theorem impl_replicasOf (a : Option Addr) (cap : Nat) (L : List Nw) (w : World) (h : Ns.Rd w a L) (hl : L.length ≤ 4) : Calls Tryz.prog 31 #[.slice a L.length cap] w fun en w'=>GrpP w L en w':=by
 obtain ⟨i0,hi0,hz0,hz1,hz2⟩:=info_parts Vv.infoRw
 have HR:=hidIt h
 clear h
 generalize hm : L.length = m at *
 have HN:=hidIt hm
 clear hm
 go_enter Tryz.func31,Tryz.ntmps31
 go_wp2_with (fail)
 go_loopw [3,9] (fun z y wx=>∃ (i go co : Nat) (C : List Vv.Rw),y = .int .i64 i ∧ z = .slice (some ⟨go,0,none⟩) i co ∧ i ≤ m ∧ Hid (C.length = i) ∧ Hid (∀ j,j < i → Rp.RdE w (Vv.rat C j).1 (nod L j).book ∧ Rp.RdM w (Vv.rat C j).2 (nod L j).mem) ∧ Hid (Vv.Own wx w.heap.size (.slice (some ⟨go,0,none⟩) i co) C) ∧ Hid (Below w.heap.size w wx)) (fun _ y _=>(m - intOf y).toNat)
 case atStart=>exact ⟨0,w.heap.size,0,[],rfl,rfl,by omega,hidIt rfl,hidIt (fun j hj=>by omega),hidIt (Vv.Own.new w),hidIt ((Below.refl _ w).alloc (Nat.le_refl _) _)⟩
 case round =>
  obtain ⟨i,go,co,C,rfl,rfl,hi,HC,HE,HO,HBx⟩:=hrel
  by_cases hin : i < m
  ·
   have hin' : (i : Int) < (m : Int):=by omega
   have hi0' : (0 : Int) ≤ (i : Int):=by omega
   have hiL : i < L.length:=by rw [HN.out]; exact hin
   obtain ⟨q,off,e,mm',b,g,eq,c0,c1,c2,c3,c4,c5,c6,c7,c8,c9,rN0⟩:=(HR.out.kept HBx.out).one (i:=i) hiL
   obtain ⟨q',off',e',mm2,b',g',eq',k0,k1,_,_,_,_,_,_,_,_,rN1⟩:=HR.out.one (i:=i) hiL
   obtain ⟨rfl,rfl⟩ : q = q' ∧ off = off':=by have:=eq.symm.trans eq'; cases this; exact ⟨rfl,rfl⟩
   clear eq'
   subst eq
   have bq : q < w.heap.size:=World.block_lt_of_cell? w _ k0
   obtain rfl : e = e':=by
    have:=HBx.out.cell (p:=⟨q,off + i * 10,none⟩) bq
    rw [c0,k0] at this
    obtain ⟨x0,x1,x2⟩:=e
    obtain ⟨y0,y1,y2⟩:=e'
    simpa [sv] using this
   obtain rfl : mm' = mm2:=by
    have:=HBx.out.cell (p:=⟨q,off + i * 10 + 1,none⟩) bq
    rw [c1,k1] at this
    obtain ⟨x0,x1,x2⟩:=mm'
    obtain ⟨y0,y1,y2⟩:=mm2
    simpa [sv] using this
   have hEM:=hidIt (show Rp.RdE w e (nod L i).book ∧ Rp.RdM w mm' (nod L i).mem from ⟨rN1.e,rN1.m⟩)
   clear rN0 rN1 k0 k1 bq
   generalize (nod L i).ph = ph at *
   generalize (nod L i).mn = mn at *
   generalize (nod L i).ol = ol at *
   generalize (nod L i).nw = nw at *
   generalize (nod L i).tm = tm at *
   generalize (nod L i).apex = ap at *
   obtain ⟨e0,e1,e2⟩:=e
   obtain ⟨t0,t1,t2⟩:=mm'
   obtain ⟨b0,b1,b2⟩:=b
   obtain ⟨g0,g1,g2⟩:=g
   simp only [sv] at c0 c1 c2 c3 c4 c5 c6 c7 c8 c9
   have HRow : Hid (World.ownsRow ((wr.alloc (.cells #[.slice e0 e1 e2,.slice t0 t1 t2,.int .i64 ph,.int .i64 mn,.int .i64 ol,.int .i64 nw,.int .i64 tm,.slice b0 b1 b2,.slice g0 g1 g2,.string ap] 49)).alloc (.cells #[.slice e0 e1 e2,.slice t0 t1 t2] 43)) w.heap.size 43 2 (.slice (some ⟨go,0,none⟩) i co) C.length (Vv.rcells C)):=hidIt (Vv.Own.alloc (Vv.Own.alloc HO.out _) _)
   have HFr : Hid (∀ j u,(Vv.rcells [((e0,e1,e2),(t0,t1,t2))])[j]? = some u → ((wr.alloc (.cells #[.slice e0 e1 e2,.slice t0 t1 t2,.int .i64 ph,.int .i64 mn,.int .i64 ol,.int .i64 nw,.int .i64 tm,.slice b0 b1 b2,.slice g0 g1 g2,.string ap] 49)).alloc (.cells #[.slice e0 e1 e2,.slice t0 t1 t2] 43)).cell? ((⟨wr.heap.size + 1,0,none⟩ : Addr).add j) = some u):=hidIt (fun j u hj=>by
    have z:=Vv.fresh (wr.alloc (.cells #[.slice e0 e1 e2,.slice t0 t1 t2,.int .i64 ph,.int .i64 mn,.int .i64 ol,.int .i64 nw,.int .i64 tm,.slice b0 b1 b2,.slice g0 g1 g2,.string ap] 49)) ((e0,e1,e2),(t0,t1,t2)) 43 j u hj
    have z2 : (wr.alloc (.cells #[.slice e0 e1 e2,.slice t0 t1 t2,.int .i64 ph,.int .i64 mn,.int .i64 ol,.int .i64 nw,.int .i64 tm,.slice b0 b1 b2,.slice g0 g1 g2,.string ap] 49)).heap.size = wr.heap.size + 1:=by simp
    rw [z2] at z
    exact z)
   have hAl:=hidIt (((Below.refl wr.heap.size wr).alloc (Nat.le_refl _) (.cells #[.slice e0 e1 e2,.slice t0 t1 t2,.int .i64 ph,.int .i64 mn,.int .i64 ol,.int .i64 nw,.int .i64 tm,.slice b0 b1 b2,.slice g0 g1 g2,.string ap] 49)).alloc (by simp) (.cells #[.slice e0 e1 e2,.slice t0 t1 t2] 43))
   go_wp2_with (first | (at_builtin; refine wpList_append_own _ rfl _ _ 51 rfl w.heap.size 43 i0 (.agg #[sv (none,0,0),sv (none,0,0)]) 2 48 Tryz.underlying51 hi0 hz0 hz1 hz2 rfl (by decide) _ _ _ rfl HRow.out ⟨wr.heap.size + 1,0,none⟩ 1 1 [.slice e0 e1 e2,.slice t0 t1 t2] rfl rfl HFr.out (Vv.rcells_one [((e0,e1,e2),(t0,t1,t2))]) ?ca1 ?ca2 ?ca3 ?_) | fail)
   case ca1=>unfold maxLen; have:=HC.out; omega
   case ca2=>have:=HC.out; omega
   case ca3=>exact Nat.le_trans HBx.out.size hAl.out.size
   intro v' w9 hown hgrow hnil
   have oo:=Vv.Own.more (L:=C) (M:=[((e0,e1,e2),(t0,t1,t2))]) hown
   have hv' : v' ≠ .slice none 0 0:=hnil
   obtain ⟨zg,zc,ez,_⟩:=oo.some_form hv'
   have hlen : (C ++ [((e0,e1,e2),(t0,t1,t2))]).length = i + 1:=by rw [List.length_append,HC.out]; rfl
   rw [hlen] at ez
   subst ez
   have kG : Below w.heap.size w w9:=(HBx.out.trans (hAl.out.mono HBx.out.size)).trans (Vv.grown_below (L:=C) HRow.out hgrow (Nat.le_refl _) (Nat.le_trans HBx.out.size hAl.out.size))
   have HO9:=hidIt oo
   have HB9:=hidIt kG
   clear hown hgrow hnil oo hv' kG HRow HFr hAl c0 c1 c2 c3 c4 c5 c6 c7 c8 c9
   go_wp2_with (fail)
   refine ⟨⟨i + 1,zg,zc,C ++ [((e0,e1,e2),(t0,t1,t2))],by simp,rfl,by omega,hidIt hlen,hidIt (fun j hj=>?_),HO9,HB9⟩,by simp [intOf]; omega⟩
   by_cases hj2 : j < i
   ·
    rw [Rp.vat_app (by rw [HC.out]; exact hj2)]
    exact HE.out j hj2
   ·
    obtain rfl : j = i:=by omega
    have e5:=Rp.vat_last C ((e0,e1,e2),(t0,t1,t2))
    rw [HC.out] at e5
    rw [e5]
    exact hEM.out
  ·
   have hin' : ¬ (i : Int) < (m : Int):=by omega
   obtain rfl : i = m:=by omega
   go_wp2_with (fail)
   go_ret
   have e5:=HN.out
   subst e5
   exact GrpP.of rfl (rd_group rfl HC.out HO.out HBx.out (fun j hj=>HE.out j hj)) HBx.out
def eachN (L : List Nw) (i : Nat) : Bool:=Nd.okN (nod L i) && ((nod L i).apex.toList == (nod L 0).apex.toList)
def nodesB (L : List Nw) : Bool:=decide (1 ≤ L.length) && (decide (L.length ≤ 4) && ((List.range L.length).all (eachN L) && Rp.okG (reps L)))
theorem nodesB_lo {L : List Nw} (h : ¬ 1 ≤ L.length) : nodesB L = false:=by unfold nodesB; rw [decide_eq_false h]; rfl
theorem nodesB_hi {L : List Nw} (h : ¬ L.length ≤ 4) : nodesB L = false:=by unfold nodesB; rw [decide_eq_false h]; simp
theorem nodesB_no {L : List Nw} {i : Nat} (hi : i < L.length) (h : eachN L i = false) : nodesB L = false:=by
 have e : (List.range L.length).all (eachN L) = false:=by
  rw [List.all_eq_false]
  exact ⟨i,List.mem_range.2 hi,by rw [h]; decide⟩
 unfold nodesB
 rw [e]
 simp
theorem nodesB_all {L : List Nw} (h1 : 1 ≤ L.length) (h2 : L.length ≤ 4) (h4 : ∀ i,i < L.length → eachN L i = true) : nodesB L = Rp.okG (reps L):=by
 have e : (List.range L.length).all (eachN L) = true:=by
  rw [List.all_eq_true]
  exact fun i hi=>h4 i (List.mem_range.1 hi)
 unfold nodesB
 rw [decide_eq_true h1,decide_eq_true h2,e]
 simp
def clocksB (K : List Int) (n : Nat) : Bool:=K.all Ro.timB && decide (K.length = n)
theorem clocksB_no {K : List Int} {n i : Nat} (hi : i < K.length) (h : Ro.timB (Iv.iat K i) = false) : clocksB K n = false:=by
 have e : K.all Ro.timB = false:=by
  rw [List.all_eq_false]
  exact ⟨Iv.iat K i,by rw [Iv.iat_at hi]; exact List.getElem_mem hi,by rw [h]; decide⟩
 unfold clocksB
 rw [e]
 rfl
theorem clocksB_all {K : List Int} {n : Nat} (h : ∀ i,i < K.length → Ro.timB (Iv.iat K i) = true) : clocksB K n = decide (K.length = n):=by
 have e : K.all Ro.timB = true:=by
  rw [List.all_eq_true]
  intro x hx
  obtain ⟨i,hi,rfl⟩:=List.mem_iff_getElem.1 hx
  rw [← Iv.iat_at hi]
  exact h i hi
 unfold clocksB
 rw [e]
 rfl
theorem okK_parts (c : Cw) : okK c = (Ro.timB c.now && (nodesB c.nodes && clocksB c.clock c.nodes.length)):=by
 rw [Bool.eq_iff_iff]
 unfold okK nodesB clocksB eachB eachN
 simp only [Bool.and_eq_true,decide_eq_true_eq,List.all_eq_true,List.mem_range]
 constructor
 ·
  rintro ⟨a,b,c',d,e,f⟩
  refine ⟨a,⟨b,c',fun i hi=>⟨(e i hi).1,(e i hi).2.1⟩,f⟩,fun x hx=>?_,d⟩
  obtain ⟨i,hi,rfl⟩:=List.mem_iff_getElem.1 hx
  rw [← Iv.iat_at hi]
  exact (e i (by rw [← d]; exact hi)).2.2
 ·
  rintro ⟨a,⟨b,c',e,f⟩,g,d⟩
  refine ⟨a,b,c',d,fun i hi=>⟨(e i hi).1,(e i hi).2,?_⟩,f⟩
  rw [Iv.iat_at (by rw [d]; exact hi)]
  exact g _ (List.getElem_mem _)
theorem impl_nodesOk (a : Option Addr) (cap : Nat) (L : List Nw) (w : World) (h : Ns.Rd w a L) (hl : L.length ≤ 9223372036854775807) (hs : ∀ i,i < L.length → ShortN (nod L i)) (ht : Sg.Tab w) : Calls Tryz.prog 23 #[.slice a L.length cap] w fun en w'=>en = .returned (.bool (nodesB L)) ∧ Below w.heap.size w w':=by
 have N1:=hidIt (fun h=>nodesB_lo (L:=L) h)
 have N2:=hidIt (fun h=>nodesB_hi (L:=L) h)
 have NO:=hidIt (fun i hi h=>nodesB_no (L:=L) (i:=i) hi h)
 have NA:=hidIt (fun h1 h2 h4=>nodesB_all (L:=L) h1 h2 h4)
 have HR:=hidIt h
 have CG:=hidIt (fun W (r : Ns.Rd W a L) hl=>impl_replicasOf a cap L W r hl)
 have CO:=hidIt (fun a cap W (r : Rp.Rd W a (reps L)) (hl : L.length ≤ 4)=>Rp.impl_GroupOk a cap (reps L) W r (fun i hi=>by rw [reps_length] at hi; rw [rat_reps hi]; exact (hs i hi).e) (by rw [reps_length]; omega) (fun i hi=>by rw [reps_length] at hi; rw [rat_reps hi]; exact lens HR.out hi))
 rw [reps_length] at CO
 have EB : Hid (∀ i,eachN L i = (Nd.okN (nod L i) && ((nod L i).apex.toList == (nod L 0).apex.toList))):=hidIt (fun i=>rfl)
 generalize nodesB L = res at N1 N2 NO NA ⊢
 generalize Rp.okG (reps L) = resg at NA CO
 have HSh:=hidIt hs
 have HT:=hidIt (fun W (k : Below w.heap.size w W)=>ht.kept k)
 clear h hs ht
 generalize hm : L.length = m at *
 have HN:=hidIt hm
 clear hm
 by_cases h1 : 1 ≤ m
 case neg =>
  have er:=N1.out h1
  subst er
  have g1 : decide ((m : Int) < 1) = true:=decide_eq_true (by omega)
  go_enter Tryz.func23,Tryz.ntmps23
  go_wp2
  go_ret
  exact ⟨rfl,Below.refl _ _⟩
 have g1 : decide ((m : Int) < 1) = false:=decide_eq_false (by omega)
 by_cases h2 : m ≤ 4
 case neg =>
  have er:=N2.out h2
  subst er
  have g2 : decide ((4 : Int) < (m : Int)) = true:=decide_eq_true (by omega)
  go_enter Tryz.func23,Tryz.ntmps23
  go_wp2
  go_ret
  exact ⟨rfl,Below.refl _ _⟩
 have g2 : decide ((4 : Int) < (m : Int)) = false:=decide_eq_false (by omega)
 go_enter Tryz.func23,Tryz.ntmps23
 go_wp2_with (fail)
 have HH2:=hidIt h2
 have HH1:=hidIt h1
 go_loopw [15] (fun y wx=>∃ (i : Nat),y = .int .i64 i ∧ i ≤ m ∧ Hid (∀ j,j < i → eachN L j = true) ∧ Hid (Below w.heap.size w wx)) (fun y _=>(m - intOf y).toNat)
 case atStart=>exact ⟨0,rfl,by omega,hidIt (fun j hj=>by omega),hidIt (Below.refl _ _)⟩
 case round =>
  obtain ⟨i,rfl,hi,HE,HBx⟩:=hrel
  by_cases hin : i < m
  ·
   have hin' : (i : Int) < (m : Int):=by omega
   have hi0' : (0 : Int) ≤ (i : Int):=by omega
   have hm0 : (0 : Int) < (m : Int):=by omega
   obtain ⟨q,off,e,mm',b,g,eq,c0,c1,c2,c3,c4,c5,c6,c7,c8,c9,rN⟩:=(HR.out.kept HBx.out).one (i:=i) (by rw [HN.out]; exact hin)
   obtain ⟨q',off',_,_,_,_,eq',_,_,_,_,_,_,_,_,_,z9,_⟩:=(HR.out.kept HBx.out).one (i:=0) (by rw [HN.out]; omega)
   subst eq
   obtain ⟨rfl,rfl⟩ : q = q' ∧ off = off':=by have:=Option.some.inj eq'; cases this; exact ⟨rfl,rfl⟩
   clear eq'
   simp only [Nat.zero_mul,Nat.add_zero] at z9
   have bq : q < wr.heap.size:=World.block_lt_of_cell? wr _ c0
   have cn:=fun W (kb : Below wr.heap.size wr W)=>Nd.impl_NodeOk (nod L i) e mm' b g W (rN.kept kb) (HSh.out i hin) (HT.out W (on HBx.out kb))
   have hea:=EB.out i
   clear rN
   generalize Nd.okN (nod L i) = y1 at cn hea
   generalize (nod L 0).apex = ap0 at z9 hea
   generalize nod L i = x at *
   obtain ⟨bk,mb,ph,mn,ol,nw,tm,bu,lg,ap⟩:=x
   obtain ⟨e0,e1,e2⟩:=e
   obtain ⟨t0,t1,t2⟩:=mm'
   obtain ⟨b0,b1,b2⟩:=b
   obtain ⟨g0,g1',g2'⟩:=g
   simp only [Nd.nv,Nd.nc,sv] at c0 c1 c2 c3 c4 c5 c6 c7 c8 c9 cn hea
   have hAl:=(Below.refl wr.heap.size wr).alloc (Nat.le_refl _) (.cells #[.slice e0 e1 e2,.slice t0 t1 t2,.int .i64 ph,.int .i64 mn,.int .i64 ol,.int .i64 nw,.int .i64 tm,.slice b0 b1 b2,.slice g0 g1' g2',.string ap] 49)
   have BXn : Hid (Bo.Box (wr.alloc (.cells #[.slice e0 e1 e2,.slice t0 t1 t2,.int .i64 ph,.int .i64 mn,.int .i64 ol,.int .i64 nw,.int .i64 tm,.slice b0 b1 b2,.slice g0 g1' g2',.string ap] 49)) wr.heap.size #[.slice e0 e1 e2,.slice t0 t1 t2,.int .i64 ph,.int .i64 mn,.int .i64 ol,.int .i64 nw,.int .i64 tm,.slice b0 b1 b2,.slice g0 g1' g2',.string ap]):=hidIt (Bo.Box.new wr _ _)
   have zb : (wr.alloc (.cells #[.slice e0 e1 e2,.slice t0 t1 t2,.int .i64 ph,.int .i64 mn,.int .i64 ol,.int .i64 nw,.int .i64 tm,.slice b0 b1 b2,.slice g0 g1' g2',.string ap] 49)).cell? ⟨q,off + 9,none⟩ = some (.string ap0):=(hAl.cell bq).trans z9
   have CN0:=hidIt (fun W (kb : Below (wr.alloc (.cells #[.slice e0 e1 e2,.slice t0 t1 t2,.int .i64 ph,.int .i64 mn,.int .i64 ol,.int .i64 nw,.int .i64 tm,.slice b0 b1 b2,.slice g0 g1' g2',.string ap] 49)).heap.size (wr.alloc (.cells #[.slice e0 e1 e2,.slice t0 t1 t2,.int .i64 ph,.int .i64 mn,.int .i64 ol,.int .i64 nw,.int .i64 tm,.slice b0 b1 b2,.slice g0 g1' g2',.string ap] 49)) W)=>cn W (on hAl kb))
   have HAl:=hidIt hAl
   have HZb:=hidIt zb
   have HEA:=hidIt hea
   clear cn hea z9 hAl zb
   cases y1 with
   | false =>
    have hWb : wr.heap.size < (wr.alloc (.cells #[.slice e0 e1 e2,.slice t0 t1 t2,.int .i64 ph,.int .i64 mn,.int .i64 ol,.int .i64 nw,.int .i64 tm,.slice b0 b1 b2,.slice g0 g1' g2',.string ap] 49)).heap.size:=by simp
    go_wp2_with (fail)
    generalize wr.alloc (.cells #[.slice e0 e1 e2,.slice t0 t1 t2,.int .i64 ph,.int .i64 mn,.int .i64 ol,.int .i64 nw,.int .i64 tm,.slice b0 b1 b2,.slice g0 g1' g2',.string ap] 49) = wb at BXn HAl HZb CN0 hWb ⊢
    clear c0 c1 c2 c3 c4 c5 c6 c7 c8 c9 hWb
    haveI:=BelowBy.one wb
    have f0:=fun p : BelowBy wb=>p.cell (BXn.out.c 0 (v:=.slice e0 e1 e2) rfl)
    have f1:=fun p : BelowBy wb=>p.cell (BXn.out.c 1 (v:=.slice t0 t1 t2) rfl)
    have f2:=fun p : BelowBy wb=>p.cell (BXn.out.c 2 (v:=.int .i64 ph) rfl)
    have f3:=fun p : BelowBy wb=>p.cell (BXn.out.c 3 (v:=.int .i64 mn) rfl)
    have f4:=fun p : BelowBy wb=>p.cell (BXn.out.c 4 (v:=.int .i64 ol) rfl)
    have f5:=fun p : BelowBy wb=>p.cell (BXn.out.c 5 (v:=.int .i64 nw) rfl)
    have f6:=fun p : BelowBy wb=>p.cell (BXn.out.c 6 (v:=.int .i64 tm) rfl)
    have f7:=fun p : BelowBy wb=>p.cell (BXn.out.c 7 (v:=.slice b0 b1 b2) rfl)
    have f8:=fun p : BelowBy wb=>p.cell (BXn.out.c 8 (v:=.slice g0 g1' g2') rfl)
    have f9:=fun p : BelowBy wb=>p.cell (BXn.out.c 9 (v:=.string ap) rfl)
    have fz:=fun p : BelowBy wb=>p.cell HZb.out
    have CN:=hidIt (fun p : BelowBy wb=>CN0.out p.world p.h)
    refine wp_region_below (by kernel_rfl) (by kernel_rfl) ?_
    repeat (go_big_quiet_step (first | (go_at_call 46; exact calls_below (CN.out _))))
    refine wpQuiet_nil ?_
    intro _ hw'
    obtain ⟨pq,rfl⟩:=hw'
    have HB1:=hidIt (on (on HBx.out HAl.out) pq.h)
    generalize pq.world = w2 at HB1 ⊢
    clear f0 f1 f2 f3 f4 f5 f6 f7 f8 f9 fz
    go_wp2_with (fail)
    go_ret
    have er:=NO.out i hin (by rw [HEA.out]; simp)
    subst er
    exact ⟨rfl,HB1.out⟩
   | true =>
   cases hcmp : (ap.toList == ap0.toList) with
   | false =>
    rw [hcmp] at HEA
    have hWb : wr.heap.size < (wr.alloc (.cells #[.slice e0 e1 e2,.slice t0 t1 t2,.int .i64 ph,.int .i64 mn,.int .i64 ol,.int .i64 nw,.int .i64 tm,.slice b0 b1 b2,.slice g0 g1' g2',.string ap] 49)).heap.size:=by simp
    go_wp2_with (fail)
    generalize wr.alloc (.cells #[.slice e0 e1 e2,.slice t0 t1 t2,.int .i64 ph,.int .i64 mn,.int .i64 ol,.int .i64 nw,.int .i64 tm,.slice b0 b1 b2,.slice g0 g1' g2',.string ap] 49) = wb at BXn HAl HZb CN0 hWb ⊢
    clear c0 c1 c2 c3 c4 c5 c6 c7 c8 c9 hWb
    haveI:=BelowBy.one wb
    have f0:=fun p : BelowBy wb=>p.cell (BXn.out.c 0 (v:=.slice e0 e1 e2) rfl)
    have f1:=fun p : BelowBy wb=>p.cell (BXn.out.c 1 (v:=.slice t0 t1 t2) rfl)
    have f2:=fun p : BelowBy wb=>p.cell (BXn.out.c 2 (v:=.int .i64 ph) rfl)
    have f3:=fun p : BelowBy wb=>p.cell (BXn.out.c 3 (v:=.int .i64 mn) rfl)
    have f4:=fun p : BelowBy wb=>p.cell (BXn.out.c 4 (v:=.int .i64 ol) rfl)
    have f5:=fun p : BelowBy wb=>p.cell (BXn.out.c 5 (v:=.int .i64 nw) rfl)
    have f6:=fun p : BelowBy wb=>p.cell (BXn.out.c 6 (v:=.int .i64 tm) rfl)
    have f7:=fun p : BelowBy wb=>p.cell (BXn.out.c 7 (v:=.slice b0 b1 b2) rfl)
    have f8:=fun p : BelowBy wb=>p.cell (BXn.out.c 8 (v:=.slice g0 g1' g2') rfl)
    have f9:=fun p : BelowBy wb=>p.cell (BXn.out.c 9 (v:=.string ap) rfl)
    have fz:=fun p : BelowBy wb=>p.cell HZb.out
    have CN:=hidIt (fun p : BelowBy wb=>CN0.out p.world p.h)
    refine wp_region_below (by kernel_rfl) (by kernel_rfl) ?_
    repeat (go_big_quiet_step (first | (go_at_call 46; exact calls_below (CN.out _))))
    refine wpQuiet_nil ?_
    intro _ hw'
    obtain ⟨pq,rfl⟩:=hw'
    have HB1:=hidIt (on (on HBx.out HAl.out) pq.h)
    generalize pq.world = w2 at HB1 ⊢
    clear f0 f1 f2 f3 f4 f5 f6 f7 f8 f9 fz
    go_wp2_with (fail)
    go_ret
    have er:=NO.out i hin (by rw [HEA.out]; simp)
    subst er
    exact ⟨rfl,HB1.out⟩
   | true =>
    rw [hcmp] at HEA
    have hWb : wr.heap.size < (wr.alloc (.cells #[.slice e0 e1 e2,.slice t0 t1 t2,.int .i64 ph,.int .i64 mn,.int .i64 ol,.int .i64 nw,.int .i64 tm,.slice b0 b1 b2,.slice g0 g1' g2',.string ap] 49)).heap.size:=by simp
    go_wp2_with (fail)
    generalize wr.alloc (.cells #[.slice e0 e1 e2,.slice t0 t1 t2,.int .i64 ph,.int .i64 mn,.int .i64 ol,.int .i64 nw,.int .i64 tm,.slice b0 b1 b2,.slice g0 g1' g2',.string ap] 49) = wb at BXn HAl HZb CN0 hWb ⊢
    clear c0 c1 c2 c3 c4 c5 c6 c7 c8 c9 hWb
    haveI:=BelowBy.one wb
    have f0:=fun p : BelowBy wb=>p.cell (BXn.out.c 0 (v:=.slice e0 e1 e2) rfl)
    have f1:=fun p : BelowBy wb=>p.cell (BXn.out.c 1 (v:=.slice t0 t1 t2) rfl)
    have f2:=fun p : BelowBy wb=>p.cell (BXn.out.c 2 (v:=.int .i64 ph) rfl)
    have f3:=fun p : BelowBy wb=>p.cell (BXn.out.c 3 (v:=.int .i64 mn) rfl)
    have f4:=fun p : BelowBy wb=>p.cell (BXn.out.c 4 (v:=.int .i64 ol) rfl)
    have f5:=fun p : BelowBy wb=>p.cell (BXn.out.c 5 (v:=.int .i64 nw) rfl)
    have f6:=fun p : BelowBy wb=>p.cell (BXn.out.c 6 (v:=.int .i64 tm) rfl)
    have f7:=fun p : BelowBy wb=>p.cell (BXn.out.c 7 (v:=.slice b0 b1 b2) rfl)
    have f8:=fun p : BelowBy wb=>p.cell (BXn.out.c 8 (v:=.slice g0 g1' g2') rfl)
    have f9:=fun p : BelowBy wb=>p.cell (BXn.out.c 9 (v:=.string ap) rfl)
    have fz:=fun p : BelowBy wb=>p.cell HZb.out
    have CN:=hidIt (fun p : BelowBy wb=>CN0.out p.world p.h)
    refine wp_region_below (by kernel_rfl) (by kernel_rfl) ?_
    repeat (go_big_quiet_step (first | (go_at_call 46; exact calls_below (CN.out _))))
    refine wpQuiet_nil ?_
    intro _ hw'
    obtain ⟨pq,rfl⟩:=hw'
    have HB1:=hidIt (on (on HBx.out HAl.out) pq.h)
    generalize pq.world = w2 at HB1 ⊢
    clear f0 f1 f2 f3 f4 f5 f6 f7 f8 f9 fz
    go_wp2_with (fail)
    refine ⟨⟨i + 1,by simp,by omega,hidIt (fun j hj=>?_),HB1⟩,by simp [intOf]; omega⟩
    by_cases hj2 : j < i
    ·
     exact HE.out j hj2
    ·
     obtain rfl : j = i:=by omega
     rw [HEA.out]
     rfl
  ·
   have hin' : ¬ (i : Int) < (m : Int):=by omega
   obtain rfl : i = m:=by omega
   have er:=NA.out HH1.out HH2.out HE.out
   subst er
   go_wp2_with (fail)
   refine (CG.out _ (HR.out.kept HBx.out) HH2.out).mono ?_
   intro en w2 hz
   obtain ⟨a2,cap2,rfl,rG,kG⟩:=hz.out
   rw [HN.out]
   have RG:=hidIt rG
   have HBg:=hidIt (on HBx.out kG)
   clear hz rG kG
   go_wp2_with (fail)
   refine (CO.out a2 cap2 _ RG.out HH2.out).mono ?_
   rintro en w3 ⟨rfl,kO⟩
   have HBo:=hidIt (on HBg.out kO)
   clear kO
   go_wp2_with (fail)
   go_ret
   exact ⟨rfl,HBo.out⟩
theorem impl_clocksOk (a : Option Addr) (cap : Nat) (K : List Int) (n : Nat) (w : World) (h : Iv.Rd w a K) (hl : K.length ≤ 9223372036854775807) : Calls Tryz.prog 24 #[.slice a K.length cap,.int .i64 n] w fun en w'=>en = .returned (.bool (clocksB K n)) ∧ Below w.heap.size w w':=by
 have NO:=hidIt (fun i hi h=>clocksB_no (K:=K) (n:=n) (i:=i) hi h)
 have NA:=hidIt (fun h=>clocksB_all (K:=K) (n:=n) h)
 have HR:=hidIt h
 have CT:=hidIt (fun i W=>Ro.impl_timeOk (Iv.iat K i) W)
 clear h
 generalize clocksB K n = res at NO NA ⊢
 generalize hm : K.length = m at *
 have HN:=hidIt hm
 clear hm
 go_enter Tryz.func24,Tryz.ntmps24
 go_wp2_with (fail)
 go_loopw [9] (fun y wx=>∃ (i : Nat),y = .int .i64 i ∧ i ≤ m ∧ Hid (∀ j,j < i → Ro.timB (Iv.iat K j) = true) ∧ Hid (Below w.heap.size w wx)) (fun y _=>(m - intOf y).toNat)
 case atStart=>exact ⟨0,rfl,by omega,hidIt (fun j hj=>by omega),hidIt (Below.refl _ _)⟩
 case round =>
  obtain ⟨i,rfl,hi,HE,HBx⟩:=hrel
  by_cases hin : i < m
  ·
   have hin' : (i : Int) < (m : Int):=by omega
   have hi0' : (0 : Int) ≤ (i : Int):=by omega
   obtain ⟨qk,offk,eqk,zk⟩:=(HR.out.kept HBx.out).cell i (by rw [HN.out]; exact hin)
   subst eqk
   have ct:=hidIt (fun W=>CT.out i W)
   obtain ⟨k,HK⟩ : ∃ k,Hid (Ro.timB (Iv.iat K i) = k):=⟨_,hidIt rfl⟩
   rw [HK.out] at ct
   generalize Iv.iat K i = u at ct zk
   cases k with
   | false =>
    have er:=NO.out i hin HK.out
    subst er
    go_wp2_with (fail)
    refine (ct.out _).mono ?_
    rintro en w1 ⟨rfl,rfl⟩
    go_wp2_with (fail)
    go_ret
    exact ⟨rfl,HBx.out⟩
   | true =>
    go_wp2_with (fail)
    refine (ct.out _).mono ?_
    rintro en w1 ⟨rfl,rfl⟩
    go_wp2_with (fail)
    refine ⟨⟨i + 1,by simp,by omega,hidIt (fun j hj=>?_),HBx⟩,by simp [intOf]; omega⟩
    by_cases hj2 : j < i
    ·
     exact HE.out j hj2
    ·
     obtain rfl : j = i:=by omega
     exact HK.out
  ·
   have hin' : ¬ (i : Int) < (m : Int):=by omega
   obtain rfl : i = m:=by omega
   have er0:=NA.out HE.out
   by_cases hn : i = n
   ·
    have hq : ((i : Int) == (n : Int)) = true:=by simp; omega
    have er : res = true:=er0.trans (decide_eq_true hn)
    subst er
    clear er0 hn
    go_wp2_with (fail)
    go_ret
    exact ⟨rfl,HBx.out⟩
   ·
    have hq : ((i : Int) == (n : Int)) = false:=by simp; omega
    have er : res = false:=er0.trans (decide_eq_false hn)
    subst er
    clear er0 hn
    go_wp2_with (fail)
    go_ret
    exact ⟨rfl,HBx.out⟩
theorem impl_ClusterOk (c : Cw) (n k : Sl) (w : World) (h : RdK w c n k) (hs : ShortK c) (ht : Sg.Tab w) : Calls Tryz.prog 8 #[kv c n k] w fun en w'=>en = .returned (.bool (okK c)) ∧ Below w.heap.size w w':=by
 have EK:=hidIt (okK_parts c)
 have CT:=hidIt (fun W=>Ro.impl_timeOk c.now W)
 have CN:=hidIt (fun W (kb : Below w.heap.size w W)=>impl_nodesOk n.1 n.2.2 c.nodes W (h.nr.kept kb) h.nc hs (ht.kept kb))
 have CK:=hidIt (fun W (kb : Below w.heap.size w W)=>impl_clocksOk k.1 k.2.2 c.clock c.nodes.length W (h.kr.kept kb) h.kc)
 generalize okK c = res at EK ⊢
 obtain ⟨no,ns,ck⟩:=c
 obtain ⟨n0,n1,n2⟩:=n
 obtain ⟨k0,k1,k2⟩:=k
 obtain ⟨z1,rN,cN,z2,rK,cK⟩:=h
 simp only at z1 rN cN z2 rK cK EK CT CN CK
 subst z1 z2
 clear rN rK hs ht
 simp only [kv,kc,sv]
 generalize Ro.timB no = b0 at EK CT
 generalize nodesB ns = b1 at EK CN
 generalize clocksB ck ns.length = b2 at EK CK
 generalize ns.length = m at *
 generalize ck.length = m2 at *
 have BX : Hid (Bo.Box (w.alloc (.cells #[.int .i64 no,.slice n0 m n2,.slice k0 m2 k2] 30)) w.heap.size #[.int .i64 no,.slice n0 m n2,.slice k0 m2 k2]):=hidIt (Bo.Box.new w _ _)
 have HB : Hid (Below w.heap.size w (w.alloc (.cells #[.int .i64 no,.slice n0 m n2,.slice k0 m2 k2] 30))):=hidIt ((Below.refl w.heap.size w).alloc (Nat.le_refl _) _)
 have d0:=BX.out.c 0 (v:=.int .i64 no) rfl
 have d1:=BX.out.c 1 (v:=.slice n0 m n2) rfl
 have d2:=BX.out.c 2 (v:=.slice k0 m2 k2) rfl
 cases b0 with
 | false =>
  have er:=EK.out
  simp only [Bool.false_and] at er
  subst er
  go_enter Tryz.func8,Tryz.ntmps8
  go_wp2_with (fail)
  refine (CT.out _).mono ?_
  rintro en w1 ⟨rfl,ew⟩
  have ew2:=ew.symm
  subst ew2
  clear ew
  go_wp2_with (fail)
  go_ret
  exact ⟨rfl,HB.out⟩
 | true =>
 cases b1 with
 | false =>
  have er:=EK.out
  simp only [Bool.false_and,Bool.and_false] at er
  subst er
  go_enter Tryz.func8,Tryz.ntmps8
  go_wp2_with (fail)
  refine (CT.out _).mono ?_
  rintro en w1 ⟨rfl,ew⟩
  have ew2:=ew.symm
  subst ew2
  clear ew
  go_wp2_with (fail)
  refine (CN.out _ HB.out).mono ?_
  rintro en w2 ⟨rfl,kk⟩
  replace HB:=hidIt (on HB.out kk)
  replace BX:=hidIt (BX.out.kept kk)
  clear kk d0 d1 d2
  have d1:=BX.out.c 1 (v:=.slice n0 m n2) rfl
  have d2:=BX.out.c 2 (v:=.slice k0 m2 k2) rfl
  go_wp2_with (fail)
  go_ret
  exact ⟨rfl,HB.out⟩
 | true =>
  have er:=EK.out
  simp only [Bool.true_and] at er
  subst er
  go_enter Tryz.func8,Tryz.ntmps8
  go_wp2_with (fail)
  refine (CT.out _).mono ?_
  rintro en w1 ⟨rfl,ew⟩
  have ew2:=ew.symm
  subst ew2
  clear ew
  go_wp2_with (fail)
  refine (CN.out _ HB.out).mono ?_
  rintro en w2 ⟨rfl,kk⟩
  replace HB:=hidIt (on HB.out kk)
  replace BX:=hidIt (BX.out.kept kk)
  clear kk d0 d1 d2
  have d1:=BX.out.c 1 (v:=.slice n0 m n2) rfl
  have d2:=BX.out.c 2 (v:=.slice k0 m2 k2) rfl
  go_wp2_with (fail)
  refine (CK.out _ HB.out).mono ?_
  rintro en w3 ⟨rfl,kk⟩
  replace HB:=hidIt (on HB.out kk)
  clear kk d1 d2
  go_wp2_with (fail)
  go_ret
  exact ⟨rfl,HB.out⟩
end Go.Proofs.YtgbnkkjjgodilaaGreatDoor.Kc
namespace Go.Proofs.YtgbnkkjjgodilaaGreatDoor.Rp
open Go.ChangeShapes Go.WideShapes Go.ChangeAt Go.RowKit
open Vv (Sl sv hidIt)
open Rg (upd waits wp_region_inv op_at)
def FinO (d o p1 p2 q1 q2 N : Nat) (pa qa : Option Addr) (r : Rep) (w0 : World) (W : World) : Prop:=∃ (V : World) (s t : Sl),W = (V.setCell ⟨o,0,none⟩ (sv s)).setCell ⟨o,1,none⟩ (sv t) ∧ En.Own V N (sv s) r.1 ∧ Mm.Own V N (sv t) r.2 ∧ Below w0.heap.size w0 V
structure RKo (d o p1 p2 q1 q2 N : Nat) (pa qa : Option Addr) (r : Rep) (w0 : World) (L : Nat → Bool) (u3 u4 u5 u6 u7 u8 u9 u10 : Value) (W : World) : Prop where
 low : L 8 = false → Below w0.heap.size w0 W
 E0 : L 0 = true → L 3 = false → ∃ g,u3 = .slice (some ⟨g,0,none⟩) 0 0 ∧ En.Own W N (.slice (some ⟨g,0,none⟩) 0 0) []
 E1 : L 3 = true → L 8 = false → ∃ s : Sl,u6 = sv s ∧ En.Own W N (sv s) r.1
 M1 : L 6 = true → L 8 = false → ∃ s : Sl,u9 = sv s ∧ Mm.Own W N (sv s) r.2
 fin : L 8 = true → FinO d o p1 p2 q1 q2 N pa qa r w0 W
 d3 : L 3 = true → L 0 = true ∧ L 2 = true
 d6 : L 6 = true → L 5 = true ∧ L 3 = true
 d7 : L 7 = true → L 3 = true ∧ L 6 = true
 d8 : L 8 = true → L 7 = true
 k1 : L 1 = true → u4 = .pointer (some ⟨d,0,none⟩)
 k2 : L 2 = true → u5 = .slice pa p1 p2
 k4 : L 4 = true → u7 = .pointer (some ⟨d,1,none⟩)
 k5 : L 5 = true → u8 = .slice qa q1 q2
 k7 : L 7 = true → u10 = .agg #[u6,u9]
def KKo (d o p1 p2 q1 q2 N : Nat) (pa qa : Option Addr) (r : Rep) (w0 : World) (y0 y1 y2 : Value) (L : Nat → Bool) (a : Act) (W : World) : Prop:=∃ u3 u4 u5 u6 u7 u8 u9 u10 : Value,a = ⟨(y0 :: y1 :: y2 :: u3 :: u4 :: u5 :: u6 :: u7 :: u8 :: u9 :: u10 :: []).toArray,[]⟩ ∧ RKo d o p1 p2 q1 q2 N pa qa r w0 L u3 u4 u5 u6 u7 u8 u9 u10 W
theorem RKo.kept {d o p1 p2 q1 q2 N : Nat} {pa qa : Option Addr} {r : Rep} {w0 : World} {L : Nat → Bool} {u3 u4 u5 u6 u7 u8 u9 u10 : Value} {W W' : World} (R : RKo d o p1 p2 q1 q2 N pa qa r w0 L u3 u4 u5 u6 u7 u8 u9 u10 W) (h8 : L 8 = false) (k : Below W.heap.size W W') : RKo d o p1 p2 q1 q2 N pa qa r w0 L u3 u4 u5 u6 u7 u8 u9 u10 W' :=
 ⟨(fun _=>on (R.low h8) k),(fun a b=>by obtain ⟨g,e,o⟩:=R.E0 a b; exact ⟨g,e,o.kept k⟩),(fun a b=>by obtain ⟨s,e,o⟩:=R.E1 a b; exact ⟨s,e,o.kept k⟩),(fun a b=>by obtain ⟨s,e,o⟩:=R.M1 a b; exact ⟨s,e,o.kept k⟩),(fun q=>by rw [h8] at q; cases q),R.d3,R.d6,R.d7,R.d8,R.k1,R.k2,R.k4,R.k5,R.k7⟩
theorem RKo.behind {d o p1 p2 q1 q2 N : Nat} {pa qa : Option Addr} {r : Rep} {w0 : World} {L : Nat → Bool} {u3 u4 u5 u6 u7 u8 u9 u10 : Value} {W : World} (R : RKo d o p1 p2 q1 q2 N pa qa r w0 L u3 u4 u5 u6 u7 u8 u9 u10 W) (h : L 0 = false ∨ L 2 = false ∨ L 3 = false ∨ L 5 = false ∨ L 6 = false ∨ L 7 = false) : L 8 = false:=by
 cases q : L 8 with
 | false=>rfl
 | true =>
  have h7:=R.d8 q
  have h6:=R.d7 h7
  have h5:=R.d6 h6.2
  have h3:=R.d3 h6.1
  simp [h7,h6.1,h6.2,h5.1,h3.1,h3.2] at h
theorem row_low {w w' : World} {o b e s n : Nat} {v : Value} {xs : List Value} (h : w.ownsRow b e s v n xs) (ho : o < b) (k : Only o w w') : w'.ownsRow b e s v n xs:=by
 refine row_in (lo:=o) (hi:=o + 1) h (OnlyIn.of_only k (.inr ⟨Nat.le_refl _,Nat.lt_succ_self _⟩)) ?_
 intro g hg hq
 rcases h.2 with ⟨e1,_⟩ | ⟨x,cap,cur,e1,hb,_,_⟩
 ·
  rw [e1] at hg; cases hg
 ·
  rw [e1] at hg
  obtain rfl : x = g:=Option.some.inj hg
  omega
def CpyP (w : World) (r : Rep) (e : Ending) (w' : World) : Prop:=∃ s t : Sl,e = .returned (.agg #[sv s,sv t]) ∧ En.Own w' w.heap.size (sv s) r.1 ∧ Mm.Own w' w.heap.size (sv t) r.2 ∧ Below w.heap.size w w'
theorem CpyP.of {w w' : World} {r : Rep} {e : Ending} {s t : Sl} (h : e = .returned (.agg #[sv s,sv t])) (h1 : En.Own w' w.heap.size (sv s) r.1) (h2 : Mm.Own w' w.heap.size (sv t) r.2) (h3 : Below w.heap.size w w') : CpyP w r e w':=⟨s,t,h,h1,h2,h3⟩
theorem CpyP.out {w w' : World} {r : Rep} {e : Ending} (h : CpyP w r e w') : ∃ s t : Sl,e = .returned (.agg #[sv s,sv t]) ∧ En.Own w' w.heap.size (sv s) r.1 ∧ Mm.Own w' w.heap.size (sv t) r.2 ∧ Below w.heap.size w w':=h
theorem impl_copiedReplica (p q : Sl) (r : Rep) (w : World) (hE : RdE w p r.1) (hM : RdM w q r.2) (hb : r.1.length ≤ 80) (hm : r.2.length ≤ 8) :
  Calls Tryz.prog 88 #[.agg #[sv p,sv q]] w fun e w'=>CpyP w r e w':=by
 obtain ⟨p0,p1,p2⟩:=p
 obtain ⟨q0,q1,q2⟩:=q
 have kA:=(((Below.refl w.heap.size w).alloc (Nat.le_refl _) (.cells #[.slice p0 p1 p2,.slice q0 q1 q2] 43)).alloc (o:=.cells #[.slice none 0 0,.slice none 0 0] 43) (by simp)).drew
 have bxD:=((Bo.Box.new w #[.slice p0 p1 p2,.slice q0 q1 q2] 43).alloc (.cells #[.slice none 0 0,.slice none 0 0] 43)).drew
 have bxO : Bo.Box ((w.alloc (.cells #[.slice p0 p1 p2,.slice q0 q1 q2] 43)).alloc (.cells #[.slice none 0 0,.slice none 0 0] 43)).drew (w.heap.size + 1) #[.slice none 0 0,.slice none 0 0]:=(Bo.Box.newAt (by simp)).drew
 obtain ⟨e1,r1,n1,_,_⟩:=hE.kept kA
 obtain ⟨e2,r2,n2,l2,c2⟩:=hM.kept kA
 simp only at e1 r1 n1 e2 r2 n2 l2 c2
 have hp1:=hidIt e1
 have np:=hidIt n1
 have HE:=hidIt r1
 have HC:=hidIt (fun W (k : Below ((w.alloc (.cells #[.slice p0 p1 p2,.slice q0 q1 q2] 43)).alloc (.cells #[.slice none 0 0,.slice none 0 0] 43)).drew.heap.size ((w.alloc (.cells #[.slice p0 p1 p2,.slice q0 q1 q2] 43)).alloc (.cells #[.slice none 0 0,.slice none 0 0] 43)).drew W)=>Mm.impl_copied q0 q2 r.2 W (r2.kept k) n2 (by omega))
 rw [← e2] at HC
 have c0 : ((w.alloc (.cells #[.slice p0 p1 p2,.slice q0 q1 q2] 43)).alloc (.cells #[.slice none 0 0,.slice none 0 0] 43)).drew.cell? ⟨w.heap.size,0,none⟩ = some (.slice p0 p1 p2):=bxD.c 0 rfl
 have c1 : ((w.alloc (.cells #[.slice p0 p1 p2,.slice q0 q1 q2] 43)).alloc (.cells #[.slice none 0 0,.slice none 0 0] 43)).drew.cell? ⟨w.heap.size,1,none⟩ = some (.slice q0 q1 q2):=bxD.c 1 rfl
 have hbw : w.heap.size < ((w.alloc (.cells #[.slice p0 p1 p2,.slice q0 q1 q2] 43)).alloc (.cells #[.slice none 0 0,.slice none 0 0] 43)).drew.heap.size:=bxD.lt
 have how : w.heap.size + 1 < ((w.alloc (.cells #[.slice p0 p1 p2,.slice q0 q1 q2] 43)).alloc (.cells #[.slice none 0 0,.slice none 0 0] 43)).drew.heap.size:=bxO.lt
 have BO:=hidIt bxO
 have HB:=hidIt kA
 clear kA bxD bxO r1 r2 e1 e2 n1 n2 l2 c2 hE hM
 obtain ⟨W0,hW0⟩ : ∃ W0,W0 = ((w.alloc (.cells #[.slice p0 p1 p2,.slice q0 q1 q2] 43)).alloc (.cells #[.slice none 0 0,.slice none 0 0] 43)).drew:=⟨_,rfl⟩
 rw [← hW0] at c0 c1 HE HC HB hbw how BO
 go_enter Tryz.func88,Tryz.ntmps88
 simp only [sv]
 go_wp2_with (fail)
 refine wp_region_inv (by kernel_rfl) (by kernel_rfl) (KKo w.heap.size (w.heap.size + 1) p1 p2 q1 q2 W0.heap.size p0 q0 r W0 _ _ _) ⟨_,_,_,_,_,_,_,_,(by rw [← hW0]; exact ⟨rfl,⟨(fun _=>(Below.refl _ _)),(fun q=>by cases q),(fun q=>by cases q),(fun q=>by cases q),(fun q=>by cases q),(fun q=>by cases q),(fun q=>by cases q),(fun q=>by cases q),(fun q=>by cases q),(fun q=>by cases q),(fun q=>by cases q),(fun q=>by cases q),(fun q=>by cases q),(fun q=>by cases q)⟩⟩)⟩ ?_ ?_
 case refine_1 =>
  intro Lb a' W j hj hI hL hD
  have hcases : j = 0 ∨ j = 1 ∨ j = 2 ∨ j = 3 ∨ j = 4 ∨ j = 5 ∨ j = 6 ∨ j = 7 ∨ j = 8:=by simp at hj; omega
  clear hj
  obtain ⟨u3,u4,u5,u6,u7,u8,u9,u10,rfl,R⟩:=hI
  rcases hcases with rfl | rfl | rfl | rfl | rfl | rfl | rfl | rfl | rfl
  ·
   skip
   have h8:=R.behind (.inl hL)
   have kb:=R.low h8
   have R:=R.kept h8 ((Below.refl W.heap.size W).alloc (Nat.le_refl _) (.cells #[] 98))
   have n3 : Lb 3 = false:=by
    cases q : Lb 3 with
    | false=>rfl
    | true=>have z:=(R.d3 q).1; rw [hL] at z; cases z
   refine op_at rfl (fun K hK=>?_)
   go_simp
   refine hK _ _ ?_
   exact ⟨_,_,_,_,_,_,_,_,rfl,⟨R.low,(fun _ _=>⟨W.heap.size,rfl,(En.Own.new W).mono kb.size⟩),R.E1,R.M1,R.fin,(fun q=>⟨rfl,(R.d3 q).2⟩),R.d6,R.d7,R.d8,R.k1,R.k2,R.k4,R.k5,R.k7⟩⟩
  ·
   skip
   refine op_at rfl (fun K hK=>?_)
   go_simp
   refine hK _ _ ?_
   exact ⟨_,_,_,_,_,_,_,_,rfl,⟨R.low,R.E0,R.E1,R.M1,R.fin,R.d3,R.d6,R.d7,R.d8,(fun _=>rfl),R.k2,R.k4,R.k5,R.k7⟩⟩
  ·
   skip
   have e1:=R.k1 (hD 1 (by kernel_rfl))
   subst e1
   have h8:=R.behind (.inr (.inl hL))
   have kb:=R.low h8
   have cc : W.cell? ⟨w.heap.size,0,none⟩ = some (.slice p0 p1 p2):=by rw [kb.cell hbw]; exact c0
   refine op_at rfl (fun K hK=>?_)
   go_simp
   refine hK _ _ ?_
   exact ⟨_,_,_,_,_,_,_,_,rfl,⟨R.low,R.E0,R.E1,R.M1,R.fin,(fun q=>⟨(R.d3 q).1,rfl⟩),R.d6,R.d7,R.d8,R.k1,(fun _=>rfl),R.k4,R.k5,R.k7⟩⟩
  ·
   skip
   have h8:=R.behind (.inr (.inr (.inl hL)))
   have kb:=R.low h8
   obtain ⟨g,eg,og⟩:=R.E0 (hD 0 (by kernel_rfl)) hL
   have es:=R.k2 (hD 2 (by kernel_rfl))
   subst eg es
   have n6 : Lb 6 = false:=by
    cases q : Lb 6 with
    | false=>rfl
    | true=>have z:=(R.d6 q).2; rw [hL] at z; cases z
   have n7 : Lb 7 = false:=by
    cases q : Lb 7 with
    | false=>rfl
    | true=>have z:=(R.d7 q).1; rw [hL] at z; cases z
   refine op_at rfl (fun K hK=>?_)
   have hpc : p0 = none ∨ ∃ x,p0 = some x:=by cases p0 with | none=>exact .inl rfl | some x=>exact .inr ⟨x,rfl⟩
   rcases hpc with hpa | ⟨x,hpa⟩
   ·
    have hnil : r.1 = []:=by have z:=(HE.out.kept kb); rw [hpa] at z; exact z.none_nil
    have hz : p1 = 0:=by rw [hp1.out,hnil]; rfl
    have hz2 : p2 = 0:=np.out hpa
    refine En.step_append_none rfl (.tmp 3) (.tmp 5) rfl W0.heap.size (.slice (some ⟨g,0,none⟩) 0 0) [] (by simp [Act.eval]) og (by simp [Act.eval,hz,hz2,hpa]) ?_
    refine hK _ _ ?_
    exact ⟨_,_,_,_,_,_,_,_,rfl,⟨R.low,(fun _ q=>by cases q),(fun _ _=>⟨(some ⟨g,0,none⟩,0,0),rfl,by rw [hnil]; exact og⟩),(fun q=>by have q2 : Lb 6 = true:=q; exact absurd (n6.symm.trans q2) (by decide)),(fun q=>by have q2 : Lb 8 = true:=q; rw [h8] at q2; cases q2),(fun _=>⟨hD 0 (by kernel_rfl),hD 2 (by kernel_rfl)⟩),(fun q=>⟨(R.d6 q).1,rfl⟩),(fun q=>⟨rfl,(R.d7 q).2⟩),R.d8,R.k1,R.k2,R.k4,R.k5,(fun q=>by have q2 : Lb 7 = true:=q; exact absurd (n7.symm.trans q2) (by decide))⟩⟩
   ·
    refine En.step_append rfl (.tmp 3) (.tmp 5) rfl W0.heap.size (.slice (some ⟨g,0,none⟩) 0 0) [] r.1 (by simp [Act.eval]) og x p1 p2 hp1.out.symm (by simp [Act.eval,hpa]) (rd_cellsE (by have z:=(HE.out.kept kb); rw [hpa] at z; exact z)) (by have:=hp1.out; simp; omega) kb.size ?_
    intro v' W' o' gr _
    rw [List.nil_append] at o'
    obtain ⟨s,es'⟩:=slE o'
    subst es'
    have kb2 : Below W0.heap.size W0 W':=kb.trans (En.grown_below og gr (Nat.le_refl _) kb.size)
    refine hK _ _ ?_
    exact ⟨_,_,_,_,_,_,_,_,rfl,⟨(fun _=>kb2),(fun _ q=>by cases q),(fun _ _=>⟨s,rfl,o'⟩),(fun q=>by have q2 : Lb 6 = true:=q; exact absurd (n6.symm.trans q2) (by decide)),(fun q=>by have q2 : Lb 8 = true:=q; rw [h8] at q2; cases q2),(fun _=>⟨hD 0 (by kernel_rfl),hD 2 (by kernel_rfl)⟩),(fun q=>⟨(R.d6 q).1,rfl⟩),(fun q=>⟨rfl,(R.d7 q).2⟩),R.d8,R.k1,R.k2,R.k4,R.k5,(fun q=>by have q2 : Lb 7 = true:=q; exact absurd (n7.symm.trans q2) (by decide))⟩⟩
  ·
   skip
   refine op_at rfl (fun K hK=>?_)
   go_simp
   refine hK _ _ ?_
   exact ⟨_,_,_,_,_,_,_,_,rfl,⟨R.low,R.E0,R.E1,R.M1,R.fin,R.d3,R.d6,R.d7,R.d8,R.k1,R.k2,(fun _=>rfl),R.k5,R.k7⟩⟩
  ·
   skip
   have e4:=R.k4 (hD 4 (by kernel_rfl))
   subst e4
   have h8:=R.behind (.inr (.inr (.inr (.inl hL))))
   have kb:=R.low h8
   have cc : W.cell? ⟨w.heap.size,1,none⟩ = some (.slice q0 q1 q2):=by rw [kb.cell hbw]; exact c1
   refine op_at rfl (fun K hK=>?_)
   go_simp
   refine hK _ _ ?_
   exact ⟨_,_,_,_,_,_,_,_,rfl,⟨R.low,R.E0,R.E1,R.M1,R.fin,R.d3,(fun q=>⟨rfl,(R.d6 q).2⟩),R.d7,R.d8,R.k1,R.k2,R.k4,(fun _=>rfl),R.k7⟩⟩
  ·
   skip
   have h8:=R.behind (.inr (.inr (.inr (.inr (.inl hL)))))
   have kb:=R.low h8
   have es:=R.k5 (hD 5 (by kernel_rfl))
   subst es
   have n7 : Lb 7 = false:=by
    cases q : Lb 7 with
    | false=>rfl
    | true=>have z:=(R.d7 q).2; rw [hL] at z; cases z
   refine op_at rfl (fun K hK=>?_)
   go_simp
   refine (HC.out W kb).mono ?_
   intro e W1 hz
   obtain ⟨g,c,rfl,_,_,o7,k7⟩:=hz.out
   have R:=R.kept h8 k7
   go_simp
   refine hK _ _ ?_
   exact ⟨_,_,_,_,_,_,_,_,rfl,⟨R.low,R.E0,R.E1,(fun _ _=>⟨(some ⟨g,0,none⟩,q1,c),rfl,o7.mono kb.size⟩),R.fin,R.d3,(fun _=>⟨hD 5 (by kernel_rfl),hD 3 (by kernel_rfl)⟩),(fun q=>⟨(R.d7 q).1,rfl⟩),R.d8,R.k1,R.k2,R.k4,R.k5,(fun q=>by have q2 : Lb 7 = true:=q; exact absurd (n7.symm.trans q2) (by decide))⟩⟩
  ·
   skip
   have h8:=R.behind (.inr (.inr (.inr (.inr (.inr hL)))))
   have kb:=R.low h8
   obtain ⟨s,es,_⟩:=R.E1 (hD 3 (by kernel_rfl)) h8
   obtain ⟨t,et,_⟩:=R.M1 (hD 6 (by kernel_rfl)) h8
   obtain ⟨s0,s1,s2⟩:=s
   obtain ⟨t0,t1,t2⟩:=t
   simp only [sv] at es et
   subst es et
   refine op_at rfl (fun K hK=>?_)
   go_simp
   refine hK _ _ ?_
   exact ⟨_,_,_,_,_,_,_,_,rfl,⟨R.low,R.E0,R.E1,R.M1,R.fin,R.d3,R.d6,(fun _=>⟨hD 3 (by kernel_rfl),hD 6 (by kernel_rfl)⟩),(fun _=>rfl),R.k1,R.k2,R.k4,R.k5,(fun _=>rfl)⟩⟩
  ·
   skip
   have kb:=R.low hL
   have h7:=hD 7 (by kernel_rfl)
   have e7:=R.k7 h7
   have d7:=R.d7 h7
   obtain ⟨s,es,oE⟩:=R.E1 d7.1 hL
   obtain ⟨t,et,oM⟩:=R.M1 d7.2 hL
   obtain ⟨s0,s1,s2⟩:=s
   obtain ⟨t0,t1,t2⟩:=t
   simp only [sv] at es et
   subst es et e7
   have bo:=BO.out.kept kb
   have g0:=bo.c 0 (v:=.slice none 0 0) rfl
   have g1:=bo.c 1 (v:=.slice none 0 0) rfl
   have f0:=bo.fr 0
   have f1:=bo.fr 1
   refine op_at rfl (fun K hK=>?_)
   go_simp
   refine hK _ _ ?_
   exact ⟨_,_,_,_,_,_,_,_,rfl,⟨(fun q=>by cases q),(fun _ q=>by have q2 : Lb 3 = false:=q; rw [d7.1] at q2; cases q2),(fun _ q=>by cases q),(fun _ q=>by cases q),(fun _=>⟨W,(s0,s1,s2),(t0,t1,t2),rfl,oE,oM,kb⟩),R.d3,R.d6,R.d7,(fun _=>hD 7 (by kernel_rfl)),R.k1,R.k2,R.k4,R.k5,R.k7⟩⟩
 case refine_2 =>
  intro Lb a' W hI hall
  obtain ⟨u3,u4,u5,u6,u7,u8,u9,u10,rfl,R⟩:=hI
  obtain ⟨V,s,t,eW,oE,oM,kV⟩:=R.fin (hall 8)
  clear R hall
  have hlt : w.heap.size + 1 < W0.heap.size:=how
  have O1 : Only (w.heap.size + 1) V W:=by rw [eW]; exact ((Only.refl _ V).setCell 0 _).setCell 1 _
  have zE : En.Own W W0.heap.size (sv s) r.1:=row_low oE hlt O1
  have oE' : En.Own W w.heap.size (sv s) r.1:=zE.mono (Nat.le_of_lt hbw)
  have zM : Mm.Own W W0.heap.size (sv t) r.2:=row_low oM hlt O1
  have oM' : Mm.Own W w.heap.size (sv t) r.2:=zM.mono (Nat.le_of_lt hbw)
  have bz:=((BO.out.kept kV).put (c':=#[sv s,.slice none 0 0]) 0 (sv s) (by simp) rfl).put (c':=#[sv s,sv t]) 1 (sv t) (by simp) rfl
  rw [← eW] at bz
  have HBW : Below w.heap.size w W:=by
   rw [eW]
   exact ((HB.out.trans (kV.mono HB.out.size)).setCell (p:=⟨w.heap.size + 1,0,none⟩) (Nat.le_succ _) (sv s)).setCell (p:=⟨w.heap.size + 1,1,none⟩) (Nat.le_succ _) (sv t)
  have x0:=bz.c 0 (v:=sv s) rfl
  have x1:=bz.c 1 (v:=sv t) rfl
  obtain ⟨s0,s1,s2⟩:=s
  obtain ⟨t0,t1,t2⟩:=t
  simp only [sv] at x0 x1
  have HE':=hidIt oE'
  have HM':=hidIt oM'
  have HBZ:=hidIt HBW
  clear eW oE oM O1 bz zE zM oE' oM' HBW
  go_wp2_with (fail)
  refine bodyPost_ret (v:=.agg #[.slice s0 s1 s2,.slice t0 t1 t2]) (by simp [results,Tryz.results88,go_sem,x0,x1]) rfl ?_
  exact CpyP.of (s:=(s0,s1,s2)) (t:=(t0,t1,t2)) rfl HE'.out HM'.out HBZ.out
theorem impl_copiedReplicas (a : Option Addr) (cap : Nat) (L : List Rep) (w : World) (h : Rd w a L) (hT : Tame L) :
  Calls Tryz.prog 53 #[.slice a L.length cap] w fun e w'=>LstP w L e w':=by
 obtain ⟨i0,hi0,hz0,hz1,hz2⟩:=info_parts Vv.infoRw
 have HTT:=hidIt hT
 have hm6:=hT.n
 have HR:=hidIt h
 clear h hT
 generalize hn : L.length = m at *
 have HN:=hidIt hn
 clear hn
 go_enter Tryz.func53,Tryz.ntmps53
 go_wp2_with (fail)
 go_loopw [3,9] (fun z y wx=>∃ (i go mm co : Nat) (M : List Rep),y = .int .i64 i ∧ z = .slice (some ⟨go,0,none⟩) mm co ∧ i ≤ m ∧ Hid (M.length = mm) ∧ Hid (mm = i) ∧ Hid (M = L.take i) ∧ Hid (Own wx w.heap.size wx.heap.size (.slice (some ⟨go,0,none⟩) mm co) M) ∧ Hid (Below w.heap.size w wx)) (fun _ y _=>(m - intOf y).toNat)
 case atStart=>exact ⟨0,w.heap.size,0,0,[],rfl,rfl,by omega,hidIt rfl,hidIt rfl,hidIt (by simp),hidIt (Own.new w).grow,hidIt ((Below.refl _ w).alloc (Nat.le_refl _) _)⟩
 case round =>
  obtain ⟨i,go,mm,co,M,rfl,rfl,hi,HMM,HMI,HME,HO,HBx⟩:=hrel
  by_cases hin : i < m
  ·
   have hin' : (i : Int) < (m : Int):=by omega
   have hi0' : (0 : Int) ≤ (i : Int):=by omega
   have hiL : i < L.length:=by rw [HN.out]; exact hin
   obtain ⟨b,off,p,q,ea,a0,a1,rE,rM⟩:=(HR.out.kept HBx.out).one (i:=i) hiL
   subst ea
   have hb80:=HTT.out.bl i hiL
   have hm8:=HTT.out.ml i hiL
   have HTK:=hidIt (take_rat hiL)
   obtain ⟨p0,p1,p2⟩:=p
   obtain ⟨q0,q1,q2⟩:=q
   have hbb : b < wr.heap.size:=World.block_lt_of_cell? _ _ a0
   have kA:=(Below.refl wr.heap.size wr).alloc (Nat.le_refl _) (.cells #[.slice p0 p1 p2,.slice q0 q1 q2] 43)
   have HC:=hidIt (impl_copiedReplica (p0,p1,p2) (q0,q1,q2) (rat L i) _ (rE.kept kA) (rM.kept kA) hb80 hm8)
   have HOk:=hidIt (HO.out.kept kA).grow
   replace HBx:=hidIt (on HBx.out kA)
   simp only [sv] at a0 a1 HC
   clear kA rE rM HO
   go_wp2_with (fail)
   generalize (wr.alloc (.cells #[.slice p0 p1 p2,.slice q0 q1 q2] 43)) = W0 at HC HOk HBx ⊢
   refine HC.out.mono ?_
   intro e W1 hz
   obtain ⟨⟨s0,s1,s2⟩,⟨t0,t1,t2⟩,rfl,oE,oM,k1⟩:=hz.out
   simp only [sv]
   have k2:=(Below.refl W1.heap.size W1).alloc (Nat.le_refl _) (.cells #[.slice s0 s1 s2,.slice t0 t1 t2] 43)
   have kb : Below W0.heap.size W0 (W1.alloc (.cells #[.slice s0 s1 s2,.slice t0 t1 t2] 43)):=k1.trans (k2.mono k1.size)
   obtain ⟨C,hC⟩:=(HOk.out.kept kb)
   have HRow : Hid (World.ownsRow (W1.alloc (.cells #[.slice s0 s1 s2,.slice t0 t1 t2] 43)) w.heap.size 43 2 (.slice (some ⟨go,0,none⟩) mm co) C.length (Vv.rcells C)):=hidIt hC.row
   have HCC:=hidIt hC
   have HE:=hidIt (oE.kept k2)
   have HM:=hidIt (oM.kept k2)
   have HFr:=hidIt (rd_two W1 s0 t0 s1 s2 t1 t2).cells
   have HKb:=hidIt kb
   have HCL : Hid (C.length = i):=hidIt (by have:=hC.len; have:=HMM.out; have:=HMI.out; omega)
   clear oE oM k1 k2 kb hC hz HC
   go_wp2_with (first | (at_builtin; refine wpList_append_own _ rfl _ _ 51 rfl w.heap.size 43 i0 (.agg #[sv (none,0,0),sv (none,0,0)]) 2 48 Tryz.underlying51 hi0 hz0 hz1 hz2 rfl (by decide) _ _ _ rfl HRow.out ⟨W1.heap.size,0,none⟩ 1 1 [.slice s0 s1 s2,.slice t0 t1 t2] rfl rfl HFr.out (Vv.rcells_one [((s0,s1,s2),(t0,t1,t2))]) ?ca1 ?ca2 ?ca3 ?_) | fail)
   case ca1=>unfold maxLen; have:=HCL.out; omega
   case ca2=>have:=HCL.out; omega
   case ca3=>exact Nat.le_trans HBx.out.size HKb.out.size
   intro v' w9 hown hgrow hnil
   have hM:=HCC.out.more (s:=(s0,s1,s2)) (t:=(t0,t1,t2)) (Vv.Own.more (L:=C) (M:=[((s0,s1,s2),(t0,t1,t2))]) hown) hgrow HE.out HM.out (Nat.le_refl _)
   have kl : Below w.heap.size W0 w9:=(HKb.out.mono HBx.out.size).trans (Vv.grown_below HCC.out.row hgrow (Nat.le_refl _) (Nat.le_trans HBx.out.size HKb.out.size))
   have hlen : (M ++ [rat L i]).length = mm + 1:=by rw [List.length_append,HMM.out]; rfl
   have hOw : Own w9 w.heap.size w9.heap.size v' (M ++ [rat L i]):=⟨_,hM⟩
   obtain ⟨za,zc,ez,_,_,hzn⟩:=hOw.formN hlen
   subst ez
   obtain ⟨zg,zo,ez⟩:=hOw.rd.addr (by rw [hlen]; omega)
   subst ez
   have hz0' : zo = 0:=by
    obtain ⟨a',c',e',_,_,_,_,hs⟩:=hM.row.form
    obtain ⟨g',eg,_⟩:=hs _ (Value.slice.inj e').1.symm
    cases eg
    rfl
   subst hz0'
   have HOw:=hidIt hOw
   have HLo:=hidIt (HBx.out.trans kl)
   clear hOw hM kl hown hgrow hnil
   go_wp2_with (fail)
   exact ⟨⟨i + 1,zg,mm + 1,zc,M ++ [rat L i],by simp,rfl,by omega,hidIt hlen,hidIt (by have:=HMI.out; omega),hidIt (by rw [HTK.out,HME.out]),HOw,HLo⟩,by simp [intOf]; omega⟩
  ·
   have hin' : ¬ (i : Int) < (m : Int):=by omega
   have hmi:=HMI.out
   subst hmi
   obtain rfl : mm = m:=by omega
   have eM : M = L:=by rw [HME.out,← HN.out,List.take_length]
   subst eM
   go_wp2_with (fail)
   go_ret
   exact LstP.of rfl HO.out HBx.out
end Go.Proofs.YtgbnkkjjgodilaaGreatDoor.Rp
namespace Go.Proofs.YtgbnkkjjgodilaaGreatDoor.Kc
open Go.ChangeShapes Go.WideShapes Go.ChangeAt Go.RowKit
open Vv (Sl sv hidIt)
open Nd (Nw RdN OwnN ShortN SmallN)
open Ns (nod Nx Fx)
open Rp (OnlyIn own_apart row_in row_other)
open Rg (upd waits wp_region_inv op_at no1 step_row step_copy One Mt Ty box_grown box_only below_grown below_only row_grown row_only box_cells)
theorem wpList_copy {P : Program} {w : World} {ops : Array Oper} {rest : List Oper} {o : Oper} {a : Act} {Q : Exit → Act → World → Prop} (hgd : o.guard = none) (s x : Operand) (t : TypeId)
  (ho : o.op = .call { callee:=.builtin .append,args:=#[s,x],argTypes:=#[t,t] })
  (base : Nat) (e : TypeId) (i : TypeInfo) (z : Value) (size bytes : Nat) (ht : P.underlying t = some (.slice e)) (hi : P.info? e = some i) (hz : i.zero = some z) (hsize : i.size = size) (hby : i.bytes = bytes) (hzs : z.cells.size = size) (hsz : 0 < size)
  (g : Nat) (hs : a.eval s = .slice (some ⟨g,0,none⟩) 0 0) (hown : w.ownsRow base e size (.slice (some ⟨g,0,none⟩) 0 0) 0 [])
  (ao : Option Addr) (m c : Nat) (news : List Value) (hx : a.eval x = .slice ao m c) (hna : ao = none → m = 0 ∧ c = 0) (hl : news.length = m * size) (hc : ∀ ad,ao = some ad → ∀ j u,news[j]? = some u → w.cell? (ad.add j) = some u) (h1c : ∀ u ∈ news,u.oneCell' = true)
  (b1 : m ≤ maxLen) (b2 : m * bytes ≤ 140737488355328) (hb : base ≤ w.heap.size)
  (h : ∀ v' w',w'.ownsRow base e size v' m news → w.grownBy w' (some g) → Hid (∃ g' c',v' = .slice (some ⟨g',0,none⟩) m c') → wpList P ops Q rest (a.put o.dst v') w') : wpList P ops Q (o :: rest) a w:=by
 cases ao with
 | some ad =>
  refine wpList_append_own w hgd s x t ho base e i z size bytes ht hi hz hsize hby hzs hsz _ 0 [] hs hown ad m c news hx hl (hc ad rfl) h1c (by omega) (by rw [Nat.zero_add]; exact b2) hb ?_
  intro v' w' r1 r2 r3
  rw [Nat.zero_add,List.nil_append] at r1
  refine h v' w' r1 r2 ?_
  rcases r1.2 with ⟨e1,_⟩ | ⟨g',c',cur,e1,_⟩
  ·
   have:=(r3.1 e1).1
   cases this
  ·
   exact hidIt ⟨g',c',e1⟩
 | none =>
  obtain ⟨rfl,rfl⟩:=hna rfl
  have hn : news = []:=List.eq_nil_of_length_eq_zero (by rw [hl,Nat.zero_mul])
  subst hn
  exact wpList_append_own_none hgd s x t ho base e i size ht hi _ 0 [] hs hown hx (h _ w hown ⟨rfl,rfl,rfl,Nat.le_refl _,fun _ _ _=>rfl⟩ (hidIt ⟨_,_,rfl⟩))
theorem impl_copiedNode (x : Nw) (e m b g : Sl) (lo : Nat) (w : World) (h : OwnN w lo x e m b g) (ok : Nd.okN x = true) : Calls Tryz.prog 52 #[Nd.nv x e m b g] w fun en w'=>Nd.NodP w x en w':=by
 obtain ⟨i0,hi0,hz0,hz1,hz2⟩:=info_parts Bu.infoRw
 have OWN:=h
 obtain ⟨bk,mm,ph,mn,ol,nw,tm,bu,lg,ap⟩:=x
 obtain ⟨e0,e1,e2⟩:=e
 obtain ⟨t0,t1,t2⟩:=m
 obtain ⟨b0,b1,b2⟩:=b
 obtain ⟨g0,g1,g2⟩:=g
 obtain ⟨hT,hbk,hmm,hbu,hlg⟩:=okN_parts ok
 simp only at hT hbk hmm hbu hlg OWN
 have kA : Below w.heap.size w ((w.alloc (.cells #[.slice e0 e1 e2,.slice t0 t1 t2,.int .i64 ph,.int .i64 mn,.int .i64 ol,.int .i64 nw,.int .i64 tm,.slice b0 b1 b2,.slice g0 g1 g2,.string ap] 49)).alloc (.cells #[.slice none 0 0,.slice none 0 0,.int .i64 0,.int .i64 0,.int .i64 0,.int .i64 0,.int .i64 0,.slice none 0 0,.slice none 0 0,.string ⟨#[]⟩] 49)):=((Below.refl w.heap.size w).alloc (Nat.le_refl _) _).alloc (by simp) _
 have O0:=OWN.kept kA
 have hsz0 : ((w.alloc (.cells #[.slice e0 e1 e2,.slice t0 t1 t2,.int .i64 ph,.int .i64 mn,.int .i64 ol,.int .i64 nw,.int .i64 tm,.slice b0 b1 b2,.slice g0 g1 g2,.string ap] 49)).alloc (.cells #[.slice none 0 0,.slice none 0 0,.int .i64 0,.int .i64 0,.int .i64 0,.int .i64 0,.int .i64 0,.slice none 0 0,.slice none 0 0,.string ⟨#[]⟩] 49)).heap.size = w.heap.size + 1 + 1:=by simp
 have BP : Bo.Box ((w.alloc (.cells #[.slice e0 e1 e2,.slice t0 t1 t2,.int .i64 ph,.int .i64 mn,.int .i64 ol,.int .i64 nw,.int .i64 tm,.slice b0 b1 b2,.slice g0 g1 g2,.string ap] 49)).alloc (.cells #[.slice none 0 0,.slice none 0 0,.int .i64 0,.int .i64 0,.int .i64 0,.int .i64 0,.int .i64 0,.slice none 0 0,.slice none 0 0,.string ⟨#[]⟩] 49)) w.heap.size #[.slice e0 e1 e2,.slice t0 t1 t2,.int .i64 ph,.int .i64 mn,.int .i64 ol,.int .i64 nw,.int .i64 tm,.slice b0 b1 b2,.slice g0 g1 g2,.string ap]:=(Bo.Box.new w _ _).alloc _
 have BQ : Bo.Box ((w.alloc (.cells #[.slice e0 e1 e2,.slice t0 t1 t2,.int .i64 ph,.int .i64 mn,.int .i64 ol,.int .i64 nw,.int .i64 tm,.slice b0 b1 b2,.slice g0 g1 g2,.string ap] 49)).alloc (.cells #[.slice none 0 0,.slice none 0 0,.int .i64 0,.int .i64 0,.int .i64 0,.int .i64 0,.int .i64 0,.slice none 0 0,.slice none 0 0,.string ⟨#[]⟩] 49)) (w.heap.size + 1) #[.slice none 0 0,.slice none 0 0,.int .i64 0,.int .i64 0,.int .i64 0,.int .i64 0,.int .i64 0,.slice none 0 0,.slice none 0 0,.string ⟨#[]⟩]:=Bo.Box.newAt (by simp)
 have HT:=hidIt hT
 have hE:=Rp.rdE_of O0.e
 have hM:=Rp.rdM_of O0.m
 obtain ⟨ba,bc,eb,_,_,rB,nB,fB⟩:=O0.b.form
 obtain ⟨ga,gc,eg,_,_,rG,nG,fG⟩:=O0.g.form
 simp only [sv,Value.slice.injEq] at eb eg
 obtain ⟨rfl,hb1,rfl⟩:=eb
 obtain ⟨rfl,hg1,rfl⟩:=eg
 have HBl : Hid (bu.length = b1):=hidIt hb1.symm
 have HGl : Hid (lg.length = g1):=hidIt hg1.symm
 have HBs : Hid (b1 ≤ 20):=hidIt (by omega)
 have HGs : Hid (g1 ≤ 300):=hidIt (by omega)
 have HBn : Hid (b0 = none → b1 = 0 ∧ b2 = 0):=hidIt (fun z=>by
  refine ⟨?_,nB z⟩
  subst z
  have hn : bu = []:=rB.none_nil
  rw [hb1,hn]
  rfl)
 have HGn : Hid (g0 = none → g1 = 0 ∧ g2 = 0):=hidIt (fun z=>by
  refine ⟨?_,nG z⟩
  rcases O0.g.2 with ⟨e,_⟩ | ⟨gg,cc,cur,e,_⟩
  ·
   simp only [sv,Value.slice.injEq] at e
   exact e.2.1
  ·
   simp only [sv,Value.slice.injEq] at e
   rw [e.1] at z
   cases z)
 generalize hW0 : ((w.alloc (.cells #[.slice e0 e1 e2,.slice t0 t1 t2,.int .i64 ph,.int .i64 mn,.int .i64 ol,.int .i64 nw,.int .i64 tm,.slice b0 b1 b2,.slice g0 g1 g2,.string ap] 49)).alloc (.cells #[.slice none 0 0,.slice none 0 0,.int .i64 0,.int .i64 0,.int .i64 0,.int .i64 0,.int .i64 0,.slice none 0 0,.slice none 0 0,.string ⟨#[]⟩] 49)) = W0 at kA hsz0 BP BQ hE hM rB rG O0 fB fG
 have HBc : Hid (∀ W,Below W0.heap.size W0 W → ∀ ad,b0 = some ad → ∀ j u,(Bu.rcells bu)[j]? = some u → W.cell? (ad.add j) = some u):=hidIt (fun W k ad ha j u hj=>by
  obtain ⟨gx,ex,_⟩:=fB ad ha
  subst ex
  have r2:=rB.kept k
  rw [ha] at r2
  exact r2.cells j u hj)
 have HGc : Hid (∀ W,Below W0.heap.size W0 W → ∀ ad,g0 = some ad → ∀ j u,(Lg.lcells lg)[j]? = some u → W.cell? (ad.add j) = some u):=hidIt (fun W k ad ha j u hj=>by
  have r2:=rG.kept k
  rw [ha] at r2
  exact r2.cells j u hj)
 have HBg : Hid (∀ ad,b0 = some ad → ∃ gx,ad = ⟨gx,0,none⟩):=hidIt (fun ad ha=>by obtain ⟨gx,ex,_⟩:=fB ad ha; exact ⟨gx,ex⟩)
 have HBg2 : Hid (∀ gx,b0 = some ⟨gx,0,none⟩ → gx < w.heap.size):=hidIt (fun gx ha=>(World.ownsRow.lt OWN.b gx (by show (Value.slice b0 b1 b2).ownBlock = _; rw [ha]; rfl)).2)
 have HRGk : Hid (∀ W,Below w.heap.size w W → Lg.Rd W g0 lg):=hidIt (fun W k=>by
  obtain ⟨a9,c9,e9,_,_,r9,_⟩:=(OWN.kept k).g.form
  simp only [sv,Value.slice.injEq] at e9
  obtain ⟨rfl,_,_⟩:=e9
  exact r9)
 have HBX : Hid (∀ W,Below W0.heap.size W0 W → Bo.Box W w.heap.size #[.slice e0 e1 e2,.slice t0 t1 t2,.int .i64 ph,.int .i64 mn,.int .i64 ol,.int .i64 nw,.int .i64 tm,.slice b0 b1 b2,.slice g0 g1 g2,.string ap]):=hidIt (fun W k=>BP.kept k)
 have HBZ : Hid (∀ W,Below W0.heap.size W0 W → Bo.Box W (w.heap.size + 1) #[.slice none 0 0,.slice none 0 0,.int .i64 0,.int .i64 0,.int .i64 0,.int .i64 0,.int .i64 0,.slice none 0 0,.slice none 0 0,.string ⟨#[]⟩]):=hidIt (fun W k=>BQ.kept k)
 have HLW:=hidIt kA
 have HL0 : Hid (w.heap.size ≤ W0.heap.size):=hidIt (by omega)
 have HGR : Hid (w.heap.size + 1 < W0.heap.size):=hidIt (by omega)
 have HGL : Hid (w.heap.size ≤ w.heap.size + 1):=hidIt (by omega)
 have CR:=hidIt (fun W (k : Below W0.heap.size W0 W)=>(Rp.impl_copiedReplica (e0,e1,e2) (t0,t1,t2) (bk,mm) W (hE.kept k) (hM.kept k) hbk hmm).mono (fun e w' h=>h.out))
 have CG:=hidIt (fun W (r : Lg.Rd W g0 lg)=>Lg.impl_copied g0 g2 lg W r (by omega))
 rw [HGl.out] at CG
 have HRG : Hid (Lg.Rd W0 g0 lg):=hidIt rG
 have BPh:=hidIt BP
 have BQh:=hidIt BQ
 have HS0:=hidIt hsz0
 have d0:=BP.c 0 (v:=.slice e0 e1 e2) rfl
 have d1:=BP.c 1 (v:=.slice t0 t1 t2) rfl
 clear kA BP BQ hE hM rB rG O0 hT hbk hmm hbu hlg hsz0 fB fG nB nG OWN h ok hb1 hg1
 simp only [Nd.nv,Nd.nc,sv] at CR ⊢
 go_enter Tryz.func52,Tryz.ntmps52
 go_wp2_with (fail)
 clear hW0 d0 d1
 refine (CR.out _ (Below.refl _ _)).mono ?_
 rintro en w1 ⟨⟨x0,x1,x2⟩,⟨y0,y1,y2⟩,rfl,oE,oM,k1⟩
 have K1:=hidIt k1
 have BP1:=BPh.out.kept k1
 have BQ1:=BQh.out.kept k1
 have d0:=BP1.c 0 (v:=.slice e0 e1 e2) rfl
 have r0:=BP1.fr 0
 have d1:=BP1.c 1 (v:=.slice t0 t1 t2) rfl
 have r1:=BP1.fr 1
 have Y1:=((Only.refl (w.heap.size) w1).setCell 0 (.slice x0 x1 x2)).setCell 1 (.slice y0 y1 y2)
 have hs0:=HS0.out
 have hsz1:=k1.size
 have B1 : Bo.Box (((w1).setCell ⟨w.heap.size,0,none⟩ (.slice x0 x1 x2)).setCell ⟨w.heap.size,1,none⟩ (.slice y0 y1 y2)) (w.heap.size) #[.slice x0 x1 x2,.slice y0 y1 y2,.int .i64 ph,.int .i64 mn,.int .i64 ol,.int .i64 nw,.int .i64 tm,.slice b0 b1 b2,.slice g0 g1 g2,.string ap]:=(BP1.put (c':=#[.slice x0 x1 x2,.slice t0 t1 t2,.int .i64 ph,.int .i64 mn,.int .i64 ol,.int .i64 nw,.int .i64 tm,.slice b0 b1 b2,.slice g0 g1 g2,.string ap]) 0 (.slice x0 x1 x2) (by simp) rfl).put (c':=#[.slice x0 x1 x2,.slice y0 y1 y2,.int .i64 ph,.int .i64 mn,.int .i64 ol,.int .i64 nw,.int .i64 tm,.slice b0 b1 b2,.slice g0 g1 g2,.string ap]) 1 (.slice y0 y1 y2) (by simp) rfl
 have Q1 : Bo.Box (((w1).setCell ⟨w.heap.size,0,none⟩ (.slice x0 x1 x2)).setCell ⟨w.heap.size,1,none⟩ (.slice y0 y1 y2)) (w.heap.size + 1) #[.slice none 0 0,.slice none 0 0,.int .i64 0,.int .i64 0,.int .i64 0,.int .i64 0,.int .i64 0,.slice none 0 0,.slice none 0 0,.string ⟨#[]⟩]:=box_only BQ1 Y1 (by omega)
 have OE1 : Hid (En.Own (((w1).setCell ⟨w.heap.size,0,none⟩ (.slice x0 x1 x2)).setCell ⟨w.heap.size,1,none⟩ (.slice y0 y1 y2)) W0.heap.size (.slice x0 x1 x2) bk):=hidIt (row_only oE Y1 (fun y hy e=>by have:=(World.ownsRow.lt oE y hy).1; omega))
 have OM1 : Hid (Mm.Own (((w1).setCell ⟨w.heap.size,0,none⟩ (.slice x0 x1 x2)).setCell ⟨w.heap.size,1,none⟩ (.slice y0 y1 y2)) W0.heap.size (.slice y0 y1 y2) mm):=hidIt (row_only oM Y1 (fun y hy e=>by have:=(World.ownsRow.lt oM y hy).1; omega))
 have HB1 : Hid (Below w.heap.size w (((w1).setCell ⟨w.heap.size,0,none⟩ (.slice x0 x1 x2)).setCell ⟨w.heap.size,1,none⟩ (.slice y0 y1 y2))):=hidIt (below_only (HLW.out.trans (k1.mono HL0.out)) Y1 (by omega) (Nat.le_refl _))
 have hszS : (((w1).setCell ⟨w.heap.size,0,none⟩ (.slice x0 x1 x2)).setCell ⟨w.heap.size,1,none⟩ (.slice y0 y1 y2)).heap.size = w1.heap.size:=by simp [World.setCell]
 have kE : Below (((w1).setCell ⟨w.heap.size,0,none⟩ (.slice x0 x1 x2)).setCell ⟨w.heap.size,1,none⟩ (.slice y0 y1 y2)).heap.size (((w1).setCell ⟨w.heap.size,0,none⟩ (.slice x0 x1 x2)).setCell ⟨w.heap.size,1,none⟩ (.slice y0 y1 y2)) ((((w1).setCell ⟨w.heap.size,0,none⟩ (.slice x0 x1 x2)).setCell ⟨w.heap.size,1,none⟩ (.slice y0 y1 y2)).alloc (.cells #[] 102)):=(Below.refl _ _).alloc (Nat.le_refl _) _
 have BE:=hidIt (B1.kept kE)
 have QE:=hidIt (Q1.kept kE)
 have OEE:=hidIt (OE1.out.kept kE)
 have OME:=hidIt (OM1.out.kept kE)
 have HBE:=hidIt (HB1.out.trans (kE.mono HB1.out.size))
 have HE0 : Hid (World.ownsRow ((((w1).setCell ⟨w.heap.size,0,none⟩ (.slice x0 x1 x2)).setCell ⟨w.heap.size,1,none⟩ (.slice y0 y1 y2)).alloc (.cells #[] 102)) w1.heap.size 102 3 (.slice (some ⟨w1.heap.size,0,none⟩) 0 0) 0 []):=hidIt (by have z:=World.ownsRow_made (base:=(((w1).setCell ⟨w.heap.size,0,none⟩ (.slice x0 x1 x2)).setCell ⟨w.heap.size,1,none⟩ (.slice y0 y1 y2)).heap.size) (e:=102) (size:=3) (((w1).setCell ⟨w.heap.size,0,none⟩ (.slice x0 x1 x2)).setCell ⟨w.heap.size,1,none⟩ (.slice y0 y1 y2)) #[] 0 (Nat.le_refl _) (by decide) rfl; rw [hszS] at z; exact z)
 have HBc1 : Hid (∀ ad,b0 = some ad → ∀ j u,(Bu.rcells bu)[j]? = some u → ((((w1).setCell ⟨w.heap.size,0,none⟩ (.slice x0 x1 x2)).setCell ⟨w.heap.size,1,none⟩ (.slice y0 y1 y2)).alloc (.cells #[] 102)).cell? (ad.add j) = some u):=hidIt (fun ad ha j u hj=>by
  have z:=HBc.out w1 k1 ad ha j u hj
  obtain ⟨gx,ex⟩:=HBg.out ad ha
  subst ex
  have hlt : gx < w.heap.size:=HBg2.out gx ha
  rw [kE.cell (by rw [Go.WideShapes.add_plain]; show gx < _; rw [hszS]; omega)]
  rw [Go.WideShapes.add_plain] at z ⊢
  rw [World.cell?_of_block (w:=w1) (Y1.block gx (by omega) (by omega))]
  exact z)
 have d7:=BE.out.c 7 (v:=.slice b0 b1 b2) rfl
 clear Y1 B1 Q1 BP1 BQ1 OE1 OM1 HB1 kE oE oM k1
 go_wp2_with (first | (at_builtin; refine wpList_copy rfl _ _ 46 rfl w1.heap.size 102 i0 (.agg #[.int .i64 0,.int .i64 0,.int .i64 0]) 3 24 Tryz.underlying46 hi0 hz0 hz1 hz2 rfl (by decide) w1.heap.size rfl HE0.out b0 b1 b2 (Bu.rcells bu) rfl HBn.out (by rw [Bu.rcells_length,HBl.out]) HBc1.out (Bu.rcells_one _) (by unfold maxLen; have:=HBs.out; omega) (by have:=HBs.out; omega) (by simp) ?_) | fail)
 intro v' w9 hown hgrow hnil
 obtain ⟨z0',z2,ez⟩:=hnil.out
 subst ez
 obtain ⟨z0,hz0'⟩ : ∃ z0 : Option Addr,(some ⟨z0',0,none⟩ : Option Addr) = z0:=⟨_,rfl⟩
 rw [hz0'] at hown
 have oB : Bu.Own w9 w1.heap.size (.slice z0 b1 z2) bu:=by unfold Bu.Own; rw [HBl.out]; exact hown
 have hw0:=HE0.out
 have BP9:=hidIt (box_grown BE.out hgrow (fun e=>by have : w1.heap.size = w.heap.size:=Option.some.inj e; omega))
 have BQ9:=hidIt (box_grown QE.out hgrow (fun e=>by have : w1.heap.size = w.heap.size + 1:=Option.some.inj e; omega))
 have OE9 : Hid (En.Own w9 W0.heap.size (.slice x0 x1 x2) bk):=hidIt (row_grown OEE.out hgrow (own_apart OEE.out hw0 (by decide)))
 have OM9 : Hid (Mm.Own w9 W0.heap.size (.slice y0 y1 y2) mm):=hidIt (row_grown OME.out hgrow (own_apart OME.out hw0 (by decide)))
 have HB9:=hidIt (below_grown HBE.out hgrow HBE.out.size (fun g hg=>by have : w1.heap.size = g:=Option.some.inj hg; omega))
 have OB9:=hidIt (oB.mono hsz1)
 have HS9 : Hid (w1.heap.size ≤ w9.heap.size):=hidIt (by have:=hgrow.size; rw [show ((((w1).setCell ⟨w.heap.size,0,none⟩ (.slice x0 x1 x2)).setCell ⟨w.heap.size,1,none⟩ (.slice y0 y1 y2)).alloc (.cells #[] 102)).heap.size = w1.heap.size + 1 by simp [World.setCell]] at this; omega)
 have HRG9 : Hid (Lg.Rd w9 g0 lg):=hidIt (HRGk.out w9 HB9.out)
 clear hown hgrow oB hw0 BE QE OEE OME HBE HE0 HBc1 d7 d0 d1 r0 r1
 rw [hz0']
 clear hz0'
 have e7:=BP9.out.c 7 (v:=.slice b0 b1 b2) rfl
 have f7:=BP9.out.fr 7
 have Y9:=(Only.refl (w.heap.size) w9).setCell 7 (.slice z0 b1 z2)
 have hs9:=HS9.out
 have BPt:=hidIt (BP9.out.put (c':=#[.slice x0 x1 x2,.slice y0 y1 y2,.int .i64 ph,.int .i64 mn,.int .i64 ol,.int .i64 nw,.int .i64 tm,.slice z0 b1 z2,.slice g0 g1 g2,.string ap]) 7 (.slice z0 b1 z2) (by simp) rfl)
 have BQt:=hidIt (box_only BQ9.out Y9 (by omega))
 have OEt : Hid (En.Own ((w9).setCell ⟨w.heap.size,7,none⟩ (.slice z0 b1 z2)) W0.heap.size (.slice x0 x1 x2) bk):=hidIt (row_only OE9.out Y9 (fun y hy e=>by have:=(World.ownsRow.lt OE9.out y hy).1; omega))
 have OMt : Hid (Mm.Own ((w9).setCell ⟨w.heap.size,7,none⟩ (.slice z0 b1 z2)) W0.heap.size (.slice y0 y1 y2) mm):=hidIt (row_only OM9.out Y9 (fun y hy e=>by have:=(World.ownsRow.lt OM9.out y hy).1; omega))
 have OBt : Hid (Bu.Own ((w9).setCell ⟨w.heap.size,7,none⟩ (.slice z0 b1 z2)) W0.heap.size (.slice z0 b1 z2) bu):=hidIt (row_only OB9.out Y9 (fun y hy e=>by have:=(World.ownsRow.lt OB9.out y hy).1; omega))
 have HBt:=hidIt (below_only HB9.out Y9 HB9.out.size (Nat.le_refl _))
 have HSt : Hid (((w9).setCell ⟨w.heap.size,7,none⟩ (.slice z0 b1 z2)).heap.size = w9.heap.size):=hidIt (by simp [World.setCell])
 have HRGt : Hid (Lg.Rd ((w9).setCell ⟨w.heap.size,7,none⟩ (.slice z0 b1 z2)) g0 lg):=hidIt (HRGk.out _ HBt.out)
 have d8:=BPt.out.c 8 (v:=.slice g0 g1 g2) rfl
 clear Y9 BP9 BQ9 OE9 OM9 OB9 HB9 HRG9
 go_wp2_with (fail)
 clear e7 f7 d8
 refine (CG.out _ HRGt.out).mono ?_
 rintro en w10 ⟨v,rfl,oG,k2⟩
 have hst:=HSt.out
 have hsz2:=k2.size
 obtain ⟨v0,v2,ev,_⟩:=oG.form
 rw [HGl.out] at ev
 subst ev
 have BPu0:=BPt.out.kept k2
 have BQu0:=BQt.out.kept k2
 have e8:=BPu0.c 8 (v:=.slice g0 g1 g2) rfl
 have f8:=BPu0.fr 8
 have Yu:=(Only.refl (w.heap.size) w10).setCell 8 (.slice v0 g1 v2)
 have BPu:=hidIt (BPu0.put (c':=#[.slice x0 x1 x2,.slice y0 y1 y2,.int .i64 ph,.int .i64 mn,.int .i64 ol,.int .i64 nw,.int .i64 tm,.slice z0 b1 z2,.slice v0 g1 v2,.string ap]) 8 (.slice v0 g1 v2) (by simp) rfl)
 have BQu:=hidIt (box_only BQu0 Yu (by omega))
 have oE2:=OEt.out.kept k2
 have oM2:=OMt.out.kept k2
 have oB2:=OBt.out.kept k2
 have OEu : Hid (En.Own ((w10).setCell ⟨w.heap.size,8,none⟩ (.slice v0 g1 v2)) W0.heap.size (.slice x0 x1 x2) bk):=hidIt (row_only oE2 Yu (fun y hy e=>by have:=(World.ownsRow.lt oE2 y hy).1; omega))
 have OMu : Hid (Mm.Own ((w10).setCell ⟨w.heap.size,8,none⟩ (.slice v0 g1 v2)) W0.heap.size (.slice y0 y1 y2) mm):=hidIt (row_only oM2 Yu (fun y hy e=>by have:=(World.ownsRow.lt oM2 y hy).1; omega))
 have OBu : Hid (Bu.Own ((w10).setCell ⟨w.heap.size,8,none⟩ (.slice v0 g1 v2)) W0.heap.size (.slice z0 b1 z2) bu):=hidIt (row_only oB2 Yu (fun y hy e=>by have:=(World.ownsRow.lt oB2 y hy).1; omega))
 have OGu : Hid (Lg.Own ((w10).setCell ⟨w.heap.size,8,none⟩ (.slice v0 g1 v2)) W0.heap.size (.slice v0 g1 v2) lg):=hidIt (Lg.Own.mono (row_only oG Yu (fun y hy e=>by have:=(World.ownsRow.lt oG y hy).1; omega)) (by omega))
 have HBu:=hidIt (below_only (HBt.out.trans (k2.mono HBt.out.size)) Yu (by have:=HBt.out.size; omega) (Nat.le_refl _))
 have p0:=BPu.out.c 0 (v:=.slice x0 x1 x2) rfl
 have p1:=BPu.out.c 1 (v:=.slice y0 y1 y2) rfl
 have p2:=BPu.out.c 2 (v:=.int .i64 ph) rfl
 have p3:=BPu.out.c 3 (v:=.int .i64 mn) rfl
 have p4:=BPu.out.c 4 (v:=.int .i64 ol) rfl
 have p5:=BPu.out.c 5 (v:=.int .i64 nw) rfl
 have p6:=BPu.out.c 6 (v:=.int .i64 tm) rfl
 have p7:=BPu.out.c 7 (v:=.slice z0 b1 z2) rfl
 have p8:=BPu.out.c 8 (v:=.slice v0 g1 v2) rfl
 have p9:=BPu.out.c 9 (v:=.string ap) rfl
 have q0:=BQu.out.c 0 (v:=.slice none 0 0) rfl
 have s0:=BQu.out.fr 0
 have q1:=BQu.out.c 1 (v:=.slice none 0 0) rfl
 have s1:=BQu.out.fr 1
 have q2:=BQu.out.c 2 (v:=.int .i64 0) rfl
 have s2:=BQu.out.fr 2
 have q3:=BQu.out.c 3 (v:=.int .i64 0) rfl
 have s3:=BQu.out.fr 3
 have q4:=BQu.out.c 4 (v:=.int .i64 0) rfl
 have s4:=BQu.out.fr 4
 have q5:=BQu.out.c 5 (v:=.int .i64 0) rfl
 have s5:=BQu.out.fr 5
 have q6:=BQu.out.c 6 (v:=.int .i64 0) rfl
 have s6:=BQu.out.fr 6
 have q7:=BQu.out.c 7 (v:=.slice none 0 0) rfl
 have s7:=BQu.out.fr 7
 have q8:=BQu.out.c 8 (v:=.slice none 0 0) rfl
 have s8:=BQu.out.fr 8
 have q9:=BQu.out.c 9 (v:=.string ⟨#[]⟩) rfl
 have s9:=BQu.out.fr 9
 have YZ:=hidIt (((((((((((Only.refl (w.heap.size + 1) ((w10).setCell ⟨w.heap.size,8,none⟩ (.slice v0 g1 v2))).setCell 0 (.slice x0 x1 x2)).setCell 1 (.slice y0 y1 y2)).setCell 2 (.int .i64 ph)).setCell 3 (.int .i64 mn)).setCell 4 (.int .i64 ol)).setCell 5 (.int .i64 nw)).setCell 6 (.int .i64 tm)).setCell 7 (.slice z0 b1 z2)).setCell 8 (.slice v0 g1 v2)).setCell 9 (.string ap))
 have RZ:=hidIt (((((((((((BQu.out).put (c':=#[.slice x0 x1 x2,.slice none 0 0,.int .i64 0,.int .i64 0,.int .i64 0,.int .i64 0,.int .i64 0,.slice none 0 0,.slice none 0 0,.string ⟨#[]⟩]) 0 (.slice x0 x1 x2) (by simp) rfl).put (c':=#[.slice x0 x1 x2,.slice y0 y1 y2,.int .i64 0,.int .i64 0,.int .i64 0,.int .i64 0,.int .i64 0,.slice none 0 0,.slice none 0 0,.string ⟨#[]⟩]) 1 (.slice y0 y1 y2) (by simp) rfl).put (c':=#[.slice x0 x1 x2,.slice y0 y1 y2,.int .i64 ph,.int .i64 0,.int .i64 0,.int .i64 0,.int .i64 0,.slice none 0 0,.slice none 0 0,.string ⟨#[]⟩]) 2 (.int .i64 ph) (by simp) rfl).put (c':=#[.slice x0 x1 x2,.slice y0 y1 y2,.int .i64 ph,.int .i64 mn,.int .i64 0,.int .i64 0,.int .i64 0,.slice none 0 0,.slice none 0 0,.string ⟨#[]⟩]) 3 (.int .i64 mn) (by simp) rfl).put (c':=#[.slice x0 x1 x2,.slice y0 y1 y2,.int .i64 ph,.int .i64 mn,.int .i64 ol,.int .i64 0,.int .i64 0,.slice none 0 0,.slice none 0 0,.string ⟨#[]⟩]) 4 (.int .i64 ol) (by simp) rfl).put (c':=#[.slice x0 x1 x2,.slice y0 y1 y2,.int .i64 ph,.int .i64 mn,.int .i64 ol,.int .i64 nw,.int .i64 0,.slice none 0 0,.slice none 0 0,.string ⟨#[]⟩]) 5 (.int .i64 nw) (by simp) rfl).put (c':=#[.slice x0 x1 x2,.slice y0 y1 y2,.int .i64 ph,.int .i64 mn,.int .i64 ol,.int .i64 nw,.int .i64 tm,.slice none 0 0,.slice none 0 0,.string ⟨#[]⟩]) 6 (.int .i64 tm) (by simp) rfl).put (c':=#[.slice x0 x1 x2,.slice y0 y1 y2,.int .i64 ph,.int .i64 mn,.int .i64 ol,.int .i64 nw,.int .i64 tm,.slice z0 b1 z2,.slice none 0 0,.string ⟨#[]⟩]) 7 (.slice z0 b1 z2) (by simp) rfl).put (c':=#[.slice x0 x1 x2,.slice y0 y1 y2,.int .i64 ph,.int .i64 mn,.int .i64 ol,.int .i64 nw,.int .i64 tm,.slice z0 b1 z2,.slice v0 g1 v2,.string ⟨#[]⟩]) 8 (.slice v0 g1 v2) (by simp) rfl).put (c':=#[.slice x0 x1 x2,.slice y0 y1 y2,.int .i64 ph,.int .i64 mn,.int .i64 ol,.int .i64 nw,.int .i64 tm,.slice z0 b1 z2,.slice v0 g1 v2,.string ap]) 9 (.string ap) (by simp) rfl)
 clear Yu BPu0 BQu0 oE2 oM2 oB2 oG k2
 go_wp2_with (fail)
 generalize hch : (((((((((((w10).setCell ⟨w.heap.size,8,none⟩ (.slice v0 g1 v2)).setCell ⟨w.heap.size + 1,0,none⟩ (.slice x0 x1 x2)).setCell ⟨w.heap.size + 1,1,none⟩ (.slice y0 y1 y2)).setCell ⟨w.heap.size + 1,2,none⟩ (.int .i64 ph)).setCell ⟨w.heap.size + 1,3,none⟩ (.int .i64 mn)).setCell ⟨w.heap.size + 1,4,none⟩ (.int .i64 ol)).setCell ⟨w.heap.size + 1,5,none⟩ (.int .i64 nw)).setCell ⟨w.heap.size + 1,6,none⟩ (.int .i64 tm)).setCell ⟨w.heap.size + 1,7,none⟩ (.slice z0 b1 z2)).setCell ⟨w.heap.size + 1,8,none⟩ (.slice v0 g1 v2)).setCell ⟨w.heap.size + 1,9,none⟩ (.string ap) = wz at YZ RZ ⊢
 clear hch p0 q0 s0 p1 q1 s1 p2 q2 s2 p3 q3 s3 p4 q4 s4 p5 q5 s5 p6 q6 s6 p7 q7 s7 p8 q8 s8 p9 q9 s9 e8 f8
 have yZ:=YZ.out
 have oEz:=row_only OEu.out yZ (fun y hy e=>by have:=(World.ownsRow.lt OEu.out y hy).1; omega)
 have oMz:=row_only OMu.out yZ (fun y hy e=>by have:=(World.ownsRow.lt OMu.out y hy).1; omega)
 have oBz:=row_only OBu.out yZ (fun y hy e=>by have:=(World.ownsRow.lt OBu.out y hy).1; omega)
 have oGz:=row_only OGu.out yZ (fun y hy e=>by have:=(World.ownsRow.lt OGu.out y hy).1; omega)
 have kZ:=below_only HBu.out yZ HBu.out.size (by omega)
 have q0c:=RZ.out.c 0 (v:=.slice x0 x1 x2) rfl
 have q1c:=RZ.out.c 1 (v:=.slice y0 y1 y2) rfl
 have q2c:=RZ.out.c 2 (v:=.int .i64 ph) rfl
 have q3c:=RZ.out.c 3 (v:=.int .i64 mn) rfl
 have q4c:=RZ.out.c 4 (v:=.int .i64 ol) rfl
 have q5c:=RZ.out.c 5 (v:=.int .i64 nw) rfl
 have q6c:=RZ.out.c 6 (v:=.int .i64 tm) rfl
 have q7c:=RZ.out.c 7 (v:=.slice z0 b1 z2) rfl
 have q8c:=RZ.out.c 8 (v:=.slice v0 g1 v2) rfl
 have q9c:=RZ.out.c 9 (v:=.string ap) rfl
 refine bodyPost_ret (v:=.agg #[.slice x0 x1 x2,.slice y0 y1 y2,.int .i64 ph,.int .i64 mn,.int .i64 ol,.int .i64 nw,.int .i64 tm,.slice z0 b1 z2,.slice v0 g1 v2,.string ap]) (by simp [results,Tryz.results52,go_sem,q0c,q1c,q2c,q3c,q4c,q5c,q6c,q7c,q8c,q9c]) rfl ?_
 exact Nd.NodP.of (e:=(x0,x1,x2)) (m:=(y0,y1,y2)) (b:=(z0,b1,z2)) (g:=(v0,g1,v2)) rfl ⟨(show En.Own wz W0.heap.size _ bk from oEz).mono HL0.out,(show Mm.Own wz W0.heap.size _ mm from oMz).mono HL0.out,(show Bu.Own wz W0.heap.size _ bu from oBz).mono HL0.out,(show Lg.Own wz W0.heap.size _ lg from oGz).mono HL0.out⟩ kZ
structure RFI (gp : Nat) (no : Int) (n0 : Option Addr) (n1 n2 : Nat) (s0 : Option Addr) (s1 s2 : Nat) (ck : List Int) (w0 : World) (L : Nat → Bool) (u3 u6 u7 u8 u9 u10 u11 u12 u13 : Value) (W : World) : Prop where
 k0 : L 0 = true → u6 = .pointer (some ⟨gp,0,none⟩)
 k1 : L 1 = true → u7 = .int .i64 no
 k4 : L 4 = true → u10 = .pointer (some ⟨gp,2,none⟩)
 k5 : L 5 = true → u11 = .slice s0 s1 s2
 kb : Below w0.heap.size w0 W
 fn : L 2 = true → Mt w0.heap.size 49 10 u8 W
 fe : L 3 = true → L 6 = false → Mt w0.heap.size 2 1 u9 W
 fk : L 6 = true → Iv.Own W w0.heap.size u12 ck
 fv : L 7 = true → ∃ g8 a c,u8 = .slice (some ⟨g8,0,none⟩) 0 0 ∧ u12 = .slice a s1 c ∧ u13 = .agg #[.int .i64 no,.slice (some ⟨g8,0,none⟩) 0 0,.slice a s1 c]
 bA : L 8 = true → L 9 = false → Bz w0.heap.size #[.int .i64 0,.slice none 0 0,.slice none 0 0] u3 W
 bB : L 9 = true → ∃ g8 a c,u8 = .slice (some ⟨g8,0,none⟩) 0 0 ∧ u12 = .slice a s1 c ∧ Bz w0.heap.size #[.int .i64 no,.slice (some ⟨g8,0,none⟩) 0 0,.slice a s1 c] u3 W
 p7_6 : L 7 = true → L 6 = true
 p9_7 : L 9 = true → L 7 = true
 p9_8 : L 9 = true → L 8 = true
 p9_6 : L 9 = true → L 6 = true
 p6_3 : L 6 = true → L 3 = true
 p7_2 : L 7 = true → L 2 = true
def KFI (gp : Nat) (no : Int) (n0 : Option Addr) (n1 n2 : Nat) (s0 : Option Addr) (s1 s2 : Nat) (ck : List Int) (w0 : World) (y0 y1 y2 y4 y5 y14 y15 y16 y17 y18 y19 y20 y21 y22 y23 y24 y25 y26 y27 y28 y29 : Value) (L : Nat → Bool) (a : Act) (W : World) : Prop:=∃ u3 u6 u7 u8 u9 u10 u11 u12 u13 : Value,a = ⟨(y0 :: y1 :: y2 :: u3 :: y4 :: y5 :: u6 :: u7 :: u8 :: u9 :: u10 :: u11 :: u12 :: u13 :: y14 :: y15 :: y16 :: y17 :: y18 :: y19 :: y20 :: y21 :: y22 :: y23 :: y24 :: y25 :: y26 :: y27 :: y28 :: y29 :: []).toArray,[]⟩ ∧ RFI gp no n0 n1 n2 s0 s1 s2 ck w0 L u3 u6 u7 u8 u9 u10 u11 u12 u13 W
structure RMI (gp gr gb gn lo hi : Nat) (no : Int) (n0 : Option Addr) (n1 n2 : Nat) (s0 : Option Addr) (s1 s2 : Nat) (va : Option Addr) (vn vc : Nat) (ka : Option Addr) (kc : Nat) (ck : List Int) (q : Nat) (C : List Nv.Rw) (M : List Nw) (bk : List En.Rw) (mm : List Mm.Rw) (ph mn ol nw tm : Int) (bu : List Bu.Rw) (lg : List Lg.Ln) (ap : ByteArray) (e0 : Option Addr) (e1 e2 : Nat) (t0 : Option Addr) (t1 t2 : Nat) (b0 : Option Addr) (b1 b2 : Nat) (g0 : Option Addr) (g1 g2 : Nat) (w w0 : World) (L : Nat → Bool) (u21 u22 u23 u24 u25 u26 u27 : Value) (W : World) : Prop where
 k0 : L 0 = true → u21 = .pointer (some ⟨gb,1,none⟩)
 k1 : L 1 = true → u22 = .slice va vn vc
 k2 : L 2 = true → u23 = .agg #[.slice e0 e1 e2,.slice t0 t1 t2,.int .i64 ph,.int .i64 mn,.int .i64 ol,.int .i64 nw,.int .i64 tm,.slice b0 b1 b2,.slice g0 g1 g2,.string ap]
 k6 : L 6 = true → u27 = .pointer (some ⟨gb,1,none⟩)
 kb : Below w.heap.size w W
 sz : w0.heap.size ≤ W.heap.size
 bp : Bo.Box W gp #[.int .i64 no,.slice n0 n1 n2,.slice s0 s1 s2]
 br : Bo.Box W gr #[.int .i64 0,.slice none 0 0,.slice none 0 0]
 bb : L 7 = false → Bo.Box W gb #[.int .i64 no,.slice va vn vc,.slice ka s1 kc]
 bS : L 7 = true → Bo.Box W gb #[.int .i64 no,u26,.slice ka s1 kc]
 ty : Ty 30 gb W
 bn : Bo.Box W gn #[.slice e0 e1 e2,.slice t0 t1 t2,.int .i64 ph,.int .i64 mn,.int .i64 ol,.int .i64 nw,.int .i64 tm,.slice b0 b1 b2,.slice g0 g1 g2,.string ap]
 on : L 5 = false → Ns.OwnC W lo hi (.slice va vn vc) C M
 oN : L 5 = true → OwnX W lo u26 (M ++ [(⟨bk,mm,ph,mn,ol,nw,tm,bu,lg,ap⟩ : Nw)])
 ok : Iv.Own W lo (.slice ka s1 kc) ck
 f7 : L 3 = true → L 4 = false → Nx w0.heap.size ⟨bk,mm,ph,mn,ol,nw,tm,bu,lg,ap⟩ u24 W
 f8 : L 4 = true → L 5 = false → Fx w0.heap.size ⟨bk,mm,ph,mn,ol,nw,tm,bu,lg,ap⟩ u25 W
 p4_3 : L 4 = true → L 3 = true
 p5_4 : L 5 = true → L 4 = true
 p5_1 : L 5 = true → L 1 = true
 p7_5 : L 7 = true → L 5 = true
def KMI (gp gr gb gn lo hi : Nat) (no : Int) (n0 : Option Addr) (n1 n2 : Nat) (s0 : Option Addr) (s1 s2 : Nat) (va : Option Addr) (vn vc : Nat) (ka : Option Addr) (kc : Nat) (ck : List Int) (q : Nat) (C : List Nv.Rw) (M : List Nw) (bk : List En.Rw) (mm : List Mm.Rw) (ph mn ol nw tm : Int) (bu : List Bu.Rw) (lg : List Lg.Ln) (ap : ByteArray) (e0 : Option Addr) (e1 e2 : Nat) (t0 : Option Addr) (t1 t2 : Nat) (b0 : Option Addr) (b1 b2 : Nat) (g0 : Option Addr) (g1 g2 : Nat) (w w0 : World) (y0 y1 y2 y3 y4 y5 y6 y7 y8 y9 y10 y11 y12 y13 y14 y15 y16 y17 y18 y19 y20 y28 y29 : Value) (L : Nat → Bool) (a : Act) (W : World) : Prop:=∃ u21 u22 u23 u24 u25 u26 u27 : Value,a = ⟨(y0 :: y1 :: y2 :: y3 :: y4 :: y5 :: y6 :: y7 :: y8 :: y9 :: y10 :: y11 :: y12 :: y13 :: y14 :: y15 :: y16 :: y17 :: y18 :: y19 :: y20 :: u21 :: u22 :: u23 :: u24 :: u25 :: u26 :: u27 :: y28 :: y29 :: []).toArray,[]⟩ ∧ RMI gp gr gb gn lo hi no n0 n1 n2 s0 s1 s2 va vn vc ka kc ck q C M bk mm ph mn ol nw tm bu lg ap e0 e1 e2 t0 t1 t2 b0 b1 b2 g0 g1 g2 w w0 L u21 u22 u23 u24 u25 u26 u27 W
theorem impl_copy (c : Cw) (n k : Sl) (lo hh : Nat) (w : World) (h : OwnK w lo hh c n k) (ok : okK c = true) : Calls Tryz.prog 29 #[kv c n k] w fun en w'=>KluP w c en w':=by
 obtain ⟨i0,hi0,hz0,hz1,hz2⟩:=info_parts Nv.infoRw
 obtain ⟨j0,hj0,hy0,hy1,hy2⟩:=info_parts infoK
 obtain ⟨_,hN1,hN4,hCk,hE,_⟩:=okK_out ok
 obtain ⟨no,ns,ck⟩:=c
 obtain ⟨n0,n1,n2⟩:=n
 obtain ⟨s0,s1,s2⟩:=k
 simp only at hN1 hN4 hCk
 have HOkN : Hid (∀ i,i < ns.length → Nd.okN (nod ns i) = true):=hidIt (fun i hi=>by have:=hE i hi; unfold eachB at this; rw [Bool.and_eq_true] at this; exact this.1)
 have hR:=h.rd
 have hn1 : n1 = ns.length:=hR.nl
 have hs1 : s1 = ck.length:=hR.kl
 obtain ⟨a9,c9,e9,_,_,rK,nK,fK⟩:=h.ok.form
 simp only [sv,Value.slice.injEq] at e9
 obtain ⟨rfl,e91,rfl⟩:=e9
 clear e91
 have HKl : Hid (ck.length = s1):=hidIt hs1.symm
 have HKs : Hid (s1 ≤ 4):=hidIt (by omega)
 have HKn : Hid (s0 = none → s1 = 0 ∧ s2 = 0):=hidIt (fun z=>by
  refine ⟨?_,nK z⟩
  rcases h.ok.2 with ⟨e,_⟩ | ⟨gg,cc,cur,e,_⟩
  ·
   simp only [sv,Value.slice.injEq] at e
   exact e.2.1
  ·
   simp only [sv,Value.slice.injEq] at e
   rw [e.1] at z
   cases z)
 have kA : Below w.heap.size w ((w.alloc (.cells #[.int .i64 no,.slice n0 n1 n2,.slice s0 s1 s2] 30)).alloc (.cells #[.int .i64 0,.slice none 0 0,.slice none 0 0] 30)):=((Below.refl w.heap.size w).alloc (Nat.le_refl _) _).alloc (by simp) _
 have BP : Hid (Bo.Box ((w.alloc (.cells #[.int .i64 no,.slice n0 n1 n2,.slice s0 s1 s2] 30)).alloc (.cells #[.int .i64 0,.slice none 0 0,.slice none 0 0] 30)) w.heap.size #[.int .i64 no,.slice n0 n1 n2,.slice s0 s1 s2]):=hidIt ((Bo.Box.new w _ _).alloc _)
 have BQ : Hid (Bo.Box ((w.alloc (.cells #[.int .i64 no,.slice n0 n1 n2,.slice s0 s1 s2] 30)).alloc (.cells #[.int .i64 0,.slice none 0 0,.slice none 0 0] 30)) (w.heap.size + 1) #[.int .i64 0,.slice none 0 0,.slice none 0 0]):=hidIt (Bo.Box.newAt (by simp))
 have hsz0 : ((w.alloc (.cells #[.int .i64 no,.slice n0 n1 n2,.slice s0 s1 s2] 30)).alloc (.cells #[.int .i64 0,.slice none 0 0,.slice none 0 0] 30)).heap.size = w.heap.size + 1 + 1:=by simp
 generalize hW0 : ((w.alloc (.cells #[.int .i64 no,.slice n0 n1 n2,.slice s0 s1 s2] 30)).alloc (.cells #[.int .i64 0,.slice none 0 0,.slice none 0 0] 30)) = W0 at kA BP BQ hsz0
 have HKc : Hid (∀ W,Below W0.heap.size W0 W → ∀ ad,s0 = some ad → ∀ j u,(Iv.icells ck)[j]? = some u → W.cell? (ad.add j) = some u):=hidIt (fun W k ad ha j u hj=>by
  obtain ⟨gx,ex,_⟩:=fK ad ha
  subst ex
  have hlt : j < ck.length:=by
   rcases Nat.lt_or_ge j ck.length with q | q
   ·
    exact q
   ·
    rw [List.getElem?_eq_none (by rw [Iv.icells,List.length_map]; exact q)] at hj
    cases hj
  obtain ⟨b9,o9,e9,c9⟩:=((rK.kept kA).kept k).cell j hlt
  rw [ha] at e9
  cases e9
  rw [Iv.icells_at hlt] at hj
  cases hj
  rw [Go.WideShapes.add_plain]
  exact c9)
 have HBX : Hid (∀ W,Below W0.heap.size W0 W → Bo.Box W w.heap.size #[.int .i64 no,.slice n0 n1 n2,.slice s0 s1 s2]):=hidIt (fun W k=>BP.out.kept k)
 have HOw:=hidIt h
 have HB0:=hidIt kA
 have HS0:=hidIt hsz0
 have HN : Hid (ns.length = n1):=hidIt hn1.symm
 have hn4 : n1 ≤ 4:=by omega
 clear h ok hE hR rK nK fK kA hsz0 hn1 hs1 hCk hN1 hN4
 simp only [kv,kc,sv]
 go_enter Tryz.func29,Tryz.ntmps29
 go_wp2_with (fail)
 clear hW0
 refine wp_region_inv (by kernel_rfl) (by kernel_rfl) (KFI w.heap.size no n0 n1 n2 s0 s1 s2 ck W0 _ _ _ _ _ _ _ _ _ _ _ _ _ _ _ _ _ _ _ _ _) ⟨_,_,_,_,_,_,_,_,_,rfl,⟨(fun q0=>by cases q0),(fun q0=>by cases q0),(fun q0=>by cases q0),(fun q0=>by cases q0),((Below.refl _ _).drew),(fun q0=>by cases q0),(fun q0 q1=>by cases q0),(fun q0=>by cases q0),(fun q0=>by cases q0),(fun q0 q1=>by cases q0),(fun q0=>by cases q0),(fun q0=>by cases q0),(fun q0=>by cases q0),(fun q0=>by cases q0),(fun q0=>by cases q0),(fun q0=>by cases q0),(fun q0=>by cases q0)⟩⟩ ?_ ?_
 case refine_1 =>
  intro Lb a' W j hj hI hL hD
  have hcases : j = 0 ∨ j = 1 ∨ j = 2 ∨ j = 3 ∨ j = 4 ∨ j = 5 ∨ j = 6 ∨ j = 7 ∨ j = 8 ∨ j = 9:=by simp at hj; omega
  clear hj
  obtain ⟨u3,u6,u7,u8,u9,u10,u11,u12,u13,rfl,R⟩:=hI
  rcases hcases with rfl | rfl | rfl | rfl | rfl | rfl | rfl | rfl | rfl | rfl
  ·
   skip
   refine op_at rfl (fun K hK=>?_)
   go_simp
   refine hK _ _ ?_
   exact ⟨_,_,_,_,_,_,_,_,_,rfl,{ R with k0:=(fun _=>rfl) }⟩
  ·
   skip
   have e0:=R.k0 (hD 0 (by kernel_rfl))
   subst e0
   have d0:=(HBX.out W R.kb).c 0 (v:=.int .i64 no) rfl
   refine op_at rfl (fun K hK=>?_)
   go_simp
   refine hK _ _ ?_
   exact ⟨_,_,_,_,_,_,_,_,_,rfl,{ R with k1:=(fun _=>rfl) }⟩
  ·
   skip
   have n7 : Lb 7 = false:=by
    cases q : Lb 7 with
    | false=>rfl
    | true=>have z:=R.p7_2 (q); rw [hL] at z; cases z
   have n9 : Lb 9 = false:=by
    cases q : Lb 9 with
    | false=>rfl
    | true=>have z:=R.p7_2 (R.p9_7 (q)); rw [hL] at z; cases z
   have kA:=(Below.refl W.heap.size W).alloc (Nat.le_refl _) (.cells #[] 49)
   have kb:=R.kb
   refine op_at rfl (fun K hK=>?_)
   go_simp
   refine hK _ _ ?_
   exact ⟨_,_,_,_,_,_,_,_,_,rfl,⟨R.k0,R.k1,R.k4,R.k5,(R.kb.trans (kA.mono R.kb.size)),(fun _=>Mt.new 49 10 kb.size),(fun q0 q1=>(R.fe q0 q1).kept kA),(fun q0=>(R.fk q0).kept kA),(fun q0=>no1 n7 q0),(fun q0 q1=>(R.bA q0 q1).kept kA),(fun q0=>no1 n9 q0),(fun q0=>no1 n7 q0),(fun q0=>no1 n9 q0),(fun q0=>no1 n9 q0),(fun q0=>no1 n9 q0),R.p6_3,(fun _=>rfl)⟩⟩
  ·
   skip
   have n6 : Lb 6 = false:=by
    cases q : Lb 6 with
    | false=>rfl
    | true=>have z:=R.p6_3 (q); rw [hL] at z; cases z
   have n9 : Lb 9 = false:=by
    cases q : Lb 9 with
    | false=>rfl
    | true=>have z:=R.p6_3 (R.p9_6 (q)); rw [hL] at z; cases z
   have kA:=(Below.refl W.heap.size W).alloc (Nat.le_refl _) (.cells #[] 2)
   have kb:=R.kb
   refine op_at rfl (fun K hK=>?_)
   go_simp
   refine hK _ _ ?_
   exact ⟨_,_,_,_,_,_,_,_,_,rfl,⟨R.k0,R.k1,R.k4,R.k5,(R.kb.trans (kA.mono R.kb.size)),(fun q0=>(R.fn q0).kept kA),(fun _ _=>Mt.new 2 1 kb.size),(fun q0=>no1 n6 q0),R.fv,(fun q0 q1=>(R.bA q0 q1).kept kA),(fun q0=>no1 n9 q0),R.p7_6,(fun q0=>no1 n9 q0),(fun q0=>no1 n9 q0),(fun q0=>no1 n9 q0),(fun _=>rfl),R.p7_2⟩⟩
  ·
   skip
   refine op_at rfl (fun K hK=>?_)
   go_simp
   refine hK _ _ ?_
   exact ⟨_,_,_,_,_,_,_,_,_,rfl,{ R with k4:=(fun _=>rfl) }⟩
  ·
   skip
   have e4:=R.k4 (hD 4 (by kernel_rfl))
   subst e4
   have d2:=(HBX.out W R.kb).c 2 (v:=.slice s0 s1 s2) rfl
   refine op_at rfl (fun K hK=>?_)
   go_simp
   refine hK _ _ ?_
   exact ⟨_,_,_,_,_,_,_,_,_,rfl,{ R with k5:=(fun _=>rfl) }⟩
  ·
   skip
   have e5:=R.k5 (hD 5 (by kernel_rfl))
   subst e5
   have n7 : Lb 7 = false:=by
    cases q : Lb 7 with
    | false=>rfl
    | true=>have z:=R.p7_6 (q); rw [hL] at z; cases z
   have n9 : Lb 9 = false:=by
    cases q : Lb 9 with
    | false=>rfl
    | true=>have z:=R.p9_6 (q); rw [hL] at z; cases z
   have kb:=R.kb
   obtain ⟨g2,e2,ow⟩:=R.fe (hD 3 (by kernel_rfl)) hL
   subst e2
   refine op_at rfl (fun K hK=>?_)
   refine step_copy (by rfl) (.tmp 9) (.tmp 11) 23 (by rfl) 2 j0 (.int .i64 0) 1 8 Tryz.underlying23 hj0 hy0 hy1 hy2 rfl (by decide) W0.heap.size g2 (by simp [Act.eval]) ow s0 s1 s2 (Iv.icells ck) (by simp [Act.eval]) HKn.out (by rw [Iv.icells,List.length_map,HKl.out,Nat.mul_one]) (HKc.out W kb) (Iv.icells_one _) (by unfold maxLen; have:=HKs.out; omega) (by have:=HKs.out; omega) kb.size ?_
   intro v' W' hown hgrow hnil
   have oK : Iv.Own W' W0.heap.size v' ck:=by unfold Iv.Own; rw [HKl.out]; exact hown
   refine hK _ _ ?_
   exact ⟨_,_,_,_,_,_,_,_,_,rfl,⟨R.k0,R.k1,R.k4,R.k5,(below_grown R.kb hgrow R.kb.size (fun g hg=>(World.ownsRow.lt ow g hg).1)),(fun q0=>(R.fn q0).grown hgrow (by obtain ⟨g9,e9,o9⟩:=(R.fn q0); exact own_apart o9 ow (by decide))),(fun q0 q1=>by cases q1),(fun _=>oK),(fun q0=>no1 n7 q0),(fun q0 q1=>(R.bA q0 q1).grown ow (by decide) hgrow),(fun q0=>no1 n9 q0),(fun _=>rfl),(fun q0=>no1 n9 q0),(fun q0=>no1 n9 q0),(fun _=>rfl),(fun _=>hD 3 (by kernel_rfl)),(fun q0=>no1 n7 q0)⟩⟩
  ·
   skip
   have e1:=R.k1 (hD 1 (by kernel_rfl))
   subst e1
   obtain ⟨g8,e8,o8⟩:=R.fn (hD 2 (by kernel_rfl))
   subst e8
   obtain ⟨a6,c6,e6,_⟩:=(R.fk (hD 6 (by kernel_rfl))).form
   rw [HKl.out] at e6
   subst e6
   refine op_at rfl (fun K hK=>?_)
   go_simp
   refine hK _ _ ?_
   exact ⟨_,_,_,_,_,_,_,_,_,rfl,{ R with fv:=(fun _=>⟨g8,a6,c6,rfl,rfl,rfl⟩),p7_6:=(fun _=>hD 6 (by kernel_rfl)),p9_7:=(fun _=>rfl),p7_2:=(fun _=>hD 2 (by kernel_rfl)) }⟩
  ·
   skip
   have n9 : Lb 9 = false:=by
    cases q : Lb 9 with
    | false=>rfl
    | true=>have z:=R.p9_8 (q); rw [hL] at z; cases z
   have kA:=(Below.refl W.heap.size W).alloc (Nat.le_refl _) (.cells #[.int .i64 0,.slice none 0 0,.slice none 0 0] 30)
   have kb:=R.kb
   refine op_at rfl (fun K hK=>?_)
   go_simp
   refine hK _ _ ?_
   exact ⟨_,_,_,_,_,_,_,_,_,rfl,⟨R.k0,R.k1,R.k4,R.k5,(R.kb.trans (kA.mono R.kb.size)),(fun q0=>(R.fn q0).kept kA),(fun q0 q1=>(R.fe q0 q1).kept kA),(fun q0=>(R.fk q0).kept kA),R.fv,(fun _ _=>⟨_,rfl,kb.size,Bo.Box.new W _ _,Ty.new W _ _⟩),(fun q0=>no1 n9 q0),R.p7_6,(fun q0=>no1 n9 q0),(fun _=>rfl),(fun q0=>no1 n9 q0),R.p6_3,R.p7_2⟩⟩
  ·
   skip
   obtain ⟨g,e3,hg,bx,ty⟩:=R.bA (hD 8 (by kernel_rfl)) hL
   subst e3
   obtain ⟨g8,a6,c6,e8,e6,e7⟩:=R.fv (hD 7 (by kernel_rfl))
   subst e8 e6 e7
   have d0:=bx.c 0 (v:=.int .i64 0) rfl
   have d1:=bx.c 1 (v:=.slice none 0 0) rfl
   have d2:=bx.c 2 (v:=.slice none 0 0) rfl
   have r0:=bx.fr 0
   have r1:=bx.fr 1
   have r2:=bx.fr 2
   have Y:=(((Only.refl g W).setCell 0 (.int .i64 no)).setCell 1 (.slice (some ⟨g8,0,none⟩) 0 0)).setCell 2 (.slice a6 s1 c6)
   have BZ:=(((bx).put (c':=#[.int .i64 no,.slice none 0 0,.slice none 0 0]) 0 (.int .i64 no) (by simp) rfl).put (c':=#[.int .i64 no,.slice (some ⟨g8,0,none⟩) 0 0,.slice none 0 0]) 1 (.slice (some ⟨g8,0,none⟩) 0 0) (by simp) rfl).put (c':=#[.int .i64 no,.slice (some ⟨g8,0,none⟩) 0 0,.slice a6 s1 c6]) 2 (.slice a6 s1 c6) (by simp) rfl
   have TZ:=(((ty).self 0 (.int .i64 no)).self 1 (.slice (some ⟨g8,0,none⟩) 0 0)).self 2 (.slice a6 s1 c6)
   refine op_at rfl (fun K hK=>?_)
   go_simp
   refine hK _ _ ?_
   exact ⟨_,_,_,_,_,_,_,_,_,rfl,⟨R.k0,R.k1,R.k4,R.k5,(below_only R.kb Y R.kb.size hg),(fun q0=>Mt.box (R.fn q0) ty (by decide) Y),(fun q0 q1=>no1 q1 (hD 6 (by kernel_rfl))),(fun q0=>ty.row (R.fk q0) (by decide) Y),R.fv,(fun q0 q1=>by cases q1),(fun _=>⟨g8,a6,c6,rfl,rfl,g,rfl,hg,BZ,TZ⟩),R.p7_6,(fun _=>hD 7 (by kernel_rfl)),(fun _=>hD 8 (by kernel_rfl)),(fun _=>hD 6 (by kernel_rfl)),R.p6_3,R.p7_2⟩⟩
 case refine_2 =>
  intro Lb a' W hI hall
  obtain ⟨u3,u6,u7,u8,u9,u10,u11,u12,u13,rfl,R⟩:=hI
  obtain ⟨g8,ka,kc,e8,e6,gb,e3,hgb,bx,ty⟩:=R.bB (hall 9)
  have ok1:=R.fk (hall 6)
  have mt1:=R.fn (hall 2)
  have kb:=R.kb
  clear hall
  subst e8 e6 e3
  have BX1:=hidIt bx
  have TY1:=hidIt ty
  have MT1 : Hid (Mt (w.heap.size + 2) 49 10 (.slice (some ⟨g8,0,none⟩) 0 0) W):=hidIt (by have z:=HS0.out; rw [z] at mt1; exact mt1)
  have OK1 : Hid (Iv.Own W (w.heap.size + 2) (.slice ka s1 kc) ck):=hidIt (by have z:=HS0.out; rw [z] at ok1; exact ok1)
  have HB1:=hidIt (HB0.out.trans (kb.mono (by have:=HS0.out; omega)))
  have BP1:=hidIt (BP.out.kept kb)
  have BR1:=hidIt (BQ.out.kept kb)
  have HGw : Hid (w.heap.size + 2 ≤ gb):=hidIt (by have:=HS0.out; omega)
  have HL1 : Hid (w.heap.size + 2 ≤ W.heap.size):=hidIt (by have:=HS0.out; have:=kb.size; omega)
  clear R kb bx ty ok1 mt1 hgb BP BQ HBX HKc HKn HKs
  have d1p:=BP1.out.c 1 (v:=.slice n0 n1 n2) rfl
  go_wp2_with (fail)
  clear d1p
  go_loopw [17] (fun y wx=>∃ (i : Nat) (va : Option Addr) (vc : Nat),y = .int .i64 i ∧ i ≤ n1 ∧ Hid (Bo.Box wx w.heap.size #[.int .i64 no,.slice n0 n1 n2,.slice s0 s1 s2]) ∧ Hid (Bo.Box wx (w.heap.size + 1) #[.int .i64 0,.slice none 0 0,.slice none 0 0]) ∧ Hid (Bo.Box wx gb #[.int .i64 no,.slice va i vc,.slice ka s1 kc]) ∧ Hid (Ty 30 gb wx) ∧ Hid (OwnX wx (w.heap.size + 2) (.slice va i vc) (ns.take i)) ∧ Hid (Iv.Own wx (w.heap.size + 2) (.slice ka s1 kc) ck) ∧ Hid (Below w.heap.size w wx)) (fun y _=>(n1 - intOf y).toNat)
  case atStart=>exact ⟨0,some ⟨g8,0,none⟩,0,rfl,by omega,BP1,BR1,BX1,TY1,hidIt (by rw [List.take_zero]; exact OwnX.ofMt MT1.out),OK1,HB1⟩
  case round =>
   obtain ⟨i,va,vc,rfl,hi,BPx,BR,BX,TY,OX,OK,HBx⟩:=hrel
   clear BP1 BR1 BX1 TY1 OK1 HB1 MT1
   by_cases hin : i < n1
   ·
    have hin' : (i : Int) < (n1 : Int):=by omega
    have hi0' : (0 : Int) ≤ (i : Int):=by omega
    have hiL : i < ns.length:=by rw [HN.out]; exact hin
    obtain ⟨Cn,ocn⟩:=HOw.out.on
    have rNs : Ns.Rd w n0 ns:=Ns.Own.rd (m:=n1) (cap:=n2) ⟨Cn,ocn⟩
    obtain ⟨q,offq,hq0⟩:=rNs.addr (by omega)
    obtain ⟨aq,cq,eqq,_,_,_,_,fq⟩:=ocn.row.form
    have hn0 : n0 = aq:=by simp only [sv,Value.slice.injEq] at eqq; exact eqq.1
    obtain ⟨gq,egq,_⟩:=fq ⟨q,offq,none⟩ (by rw [← hn0]; exact hq0)
    have hq1 : n0 = some ⟨q,0,none⟩:=by rw [hq0]; cases egq; rfl
    have HQ:=hidIt hq1
    have hcn : Ns.Own w lo hh (.slice (some ⟨q,0,none⟩) n1 n2) ns:=by have z : Ns.Own w lo hh (sv (n0,n1,n2)) ns:=⟨Cn,ocn⟩; simp only [sv,hq1] at z; exact z
    obtain ⟨e,m9,b,g,c0,c1,c2,c3,c4,c5,c6,c7,c8,c9,_,_,_,_,_,_,_,_,_,_,oN⟩:=hcn.cells (i:=i) hiL
    have bq : q < w.heap.size:=World.block_lt_of_cell? w _ c0
    have okx:=HOkN.out i hiL
    have htk:=Ns.take_nod hiL
    generalize nod ns i = x at *
    obtain ⟨bk,mm,ph,mn,ol,nw,tm,bu,lg,ap⟩:=x
    have CC:=hidIt (fun W (k : Below w.heap.size w W)=>impl_copiedNode ⟨bk,mm,ph,mn,ol,nw,tm,bu,lg,ap⟩ e m9 b g lo W (oN.kept k) okx)
    obtain ⟨e0,e1,e2⟩:=e
    obtain ⟨t0,t1,t2⟩:=m9
    obtain ⟨b0,b1,b2⟩:=b
    obtain ⟨g0,g1,g2⟩:=g
    simp only [Nd.nv,Nd.nc,sv] at c0 c1 c2 c3 c4 c5 c6 c7 c8 c9 CC
    have HTK:=hidIt htk
    have HNd : Hid (∀ W,Below w.heap.size w W → W.cell? ⟨q,i * 10,none⟩ = some (.slice e0 e1 e2) ∧ W.cell? ⟨q,i * 10 + 1,none⟩ = some (.slice t0 t1 t2) ∧ W.cell? ⟨q,i * 10 + 2,none⟩ = some (.int .i64 ph) ∧ W.cell? ⟨q,i * 10 + 3,none⟩ = some (.int .i64 mn) ∧ W.cell? ⟨q,i * 10 + 4,none⟩ = some (.int .i64 ol) ∧ W.cell? ⟨q,i * 10 + 5,none⟩ = some (.int .i64 nw) ∧ W.cell? ⟨q,i * 10 + 6,none⟩ = some (.int .i64 tm) ∧ W.cell? ⟨q,i * 10 + 7,none⟩ = some (.slice b0 b1 b2) ∧ W.cell? ⟨q,i * 10 + 8,none⟩ = some (.slice g0 g1 g2) ∧ W.cell? ⟨q,i * 10 + 9,none⟩ = some (.string ap)):=hidIt (fun W k=>⟨(k.cell bq).trans c0,(k.cell bq).trans c1,(k.cell bq).trans c2,(k.cell bq).trans c3,(k.cell bq).trans c4,(k.cell bq).trans c5,(k.cell bq).trans c6,(k.cell bq).trans c7,(k.cell bq).trans c8,(k.cell bq).trans c9⟩)
    clear htk okx oN bq c0 c1 c2 c3 c4 c5 c6 c7 c8 c9 hcn egq fq eqq hn0 ocn rNs hq0 hq1
    obtain ⟨hi2,C,oc0⟩:=OX.out.out
    have hvr : ∀ g,(Value.slice va i vc).ownBlock = some g → w.heap.size + 2 ≤ g ∧ g < wr.heap.size:=fun g hg=>World.ownsRow.lt oc0.row g hg
    have HMl : Hid ((ns.take i).length = i):=hidIt (by rw [List.length_take]; omega)
    have HLn : Hid (C.length ≤ 4):=hidIt (by rw [oc0.len,HMl.out]; have:=HN.out; omega)
    have HIN:=hidIt hin'
    have HI0:=hidIt hi0'
    have hgb2:=TY.out.lt
    have kB : Below wr.heap.size wr (wr.alloc (.cells #[.slice e0 e1 e2,.slice t0 t1 t2,.int .i64 ph,.int .i64 mn,.int .i64 ol,.int .i64 nw,.int .i64 tm,.slice b0 b1 b2,.slice g0 g1 g2,.string ap] 49)):=(Below.refl wr.heap.size wr).alloc (Nat.le_refl _) _
    have OC6:=hidIt (oc0.kept kB)
    have BP6:=hidIt (BPx.out.kept kB)
    have BX6:=hidIt (BX.out.kept kB)
    have BR6:=hidIt (BR.out.kept kB)
    have TY6:=hidIt (TY.out.kept kB)
    have OK6:=hidIt (OK.out.kept kB)
    have HB6:=hidIt (HBx.out.trans (kB.mono HBx.out.size))
    have BN6:=hidIt (Bo.Box.new wr #[.slice e0 e1 e2,.slice t0 t1 t2,.int .i64 ph,.int .i64 mn,.int .i64 ol,.int .i64 nw,.int .i64 tm,.slice b0 b1 b2,.slice g0 g1 g2,.string ap] 49)
    have HL0 : Hid (w.heap.size + 2 ≤ (wr.alloc (.cells #[.slice e0 e1 e2,.slice t0 t1 t2,.int .i64 ph,.int .i64 mn,.int .i64 ol,.int .i64 nw,.int .i64 tm,.slice b0 b1 b2,.slice g0 g1 g2,.string ap] 49)).heap.size):=hidIt (by have:=kB.size; have:=HGw.out; omega)
    have HHI : Hid (hi2 ≤ (wr.alloc (.cells #[.slice e0 e1 e2,.slice t0 t1 t2,.int .i64 ph,.int .i64 mn,.int .i64 ol,.int .i64 nw,.int .i64 tm,.slice b0 b1 b2,.slice g0 g1 g2,.string ap] 49)).heap.size):=hidIt (Nat.le_trans oc0.hi' kB.size)
    have HV : Hid ((∀ g,(Value.slice va i vc).ownBlock = some g → w.heap.size + 2 ≤ g) ∧ ∀ g,(Value.slice va i vc).ownBlock = some g → g = wr.heap.size → False):=hidIt ⟨fun g hg=>(hvr g hg).1,fun g hg e=>by have:=(hvr g hg).2; omega⟩
    have HLO : Hid (w.heap.size ≤ w.heap.size + 2):=hidIt (by omega)
    have HGB : Hid (w.heap.size < w.heap.size + 2 ∧ w.heap.size + 1 < w.heap.size + 2 ∧ w.heap.size + 2 ≤ gb):=hidIt ⟨by omega,by omega,HGw.out⟩
    have HGW : Hid (w.heap.size ≤ gb):=hidIt (by have:=HGw.out; omega)
    have HGN : Hid (wr.heap.size ≠ gb):=hidIt (by omega)
    obtain ⟨c0,c1,c2,c3,c4,c5,c6,c7,c8,c9⟩:=HNd.out wr HBx.out
    have d1q:=HQ.out
    subst d1q
    clear oc0 kB hvr BPx BX BR TY OX OK HBx hgb2
    go_wp2_with (fail)
    generalize wr.alloc (.cells #[.slice e0 e1 e2,.slice t0 t1 t2,.int .i64 ph,.int .i64 mn,.int .i64 ol,.int .i64 nw,.int .i64 tm,.slice b0 b1 b2,.slice g0 g1 g2,.string ap] 49) = W6 at OC6 BP6 BX6 BR6 TY6 OK6 HB6 BN6 HL0 HHI ⊢
    clear c0 c1 c2 c3 c4 c5 c6 c7 c8 c9
    have kd : Below W6.heap.size W6 W6.drew:=(Below.refl _ _).drew
    refine wp_region_inv (by kernel_rfl) (by kernel_rfl) (KMI w.heap.size (w.heap.size + 1) gb wr.heap.size (w.heap.size + 2) hi2 no (some ⟨q,0,none⟩) n1 n2 s0 s1 s2 va i vc ka kc ck q C (ns.take i) bk mm ph mn ol nw tm bu lg ap e0 e1 e2 t0 t1 t2 b0 b1 b2 g0 g1 g2 w W6 _ _ _ _ _ _ _ _ _ _ _ _ _ _ _ _ _ _ _ _ _ _ _) ⟨_,_,_,_,_,_,_,rfl,⟨(fun q0=>by cases q0),(fun q0=>by cases q0),(fun q0=>by cases q0),(fun q0=>by cases q0),(HB6.out.trans (kd.mono HB6.out.size)),(Nat.le_refl _),(BP6.out.kept kd),(BR6.out.kept kd),(fun _=>BX6.out.kept kd),(fun q0=>by cases q0),(TY6.out.kept kd),(BN6.out.kept kd),(fun _=>OC6.out.kept kd),(fun q0=>by cases q0),(OK6.out.kept kd),(fun q0 q1=>by cases q0),(fun q0 q1=>by cases q0),(fun q0=>by cases q0),(fun q0=>by cases q0),(fun q0=>by cases q0),(fun q0=>by cases q0)⟩⟩ ?_ ?_
    case refine_1 =>
     intro Lb a' W j hj hI hL hD
     have hcases : j = 0 ∨ j = 1 ∨ j = 2 ∨ j = 3 ∨ j = 4 ∨ j = 5 ∨ j = 6 ∨ j = 7:=by simp at hj; omega
     clear hj
     obtain ⟨u21,u22,u23,u24,u25,u26,u27,rfl,R⟩:=hI
     rcases hcases with rfl | rfl | rfl | rfl | rfl | rfl | rfl | rfl
     ·
      skip
      refine op_at rfl (fun K hK=>?_)
      go_simp
      refine hK _ _ ?_
      exact ⟨_,_,_,_,_,_,_,rfl,{ R with k0:=(fun _=>rfl) }⟩
     ·
      skip
      have e0:=R.k0 (hD 0 (by kernel_rfl))
      subst e0
      have n7 : Lb 7 = false:=by
       cases q : Lb 7 with
       | false=>rfl
       | true=>have z:=R.p5_1 (R.p7_5 (q)); rw [hL] at z; cases z
      have d1:=(R.bb n7).c 1 (v:=.slice va i vc) rfl
      refine op_at rfl (fun K hK=>?_)
      go_simp
      refine hK _ _ ?_
      exact ⟨_,_,_,_,_,_,_,rfl,{ R with k1:=(fun _=>rfl),p5_1:=(fun _=>rfl) }⟩
     ·
      skip
      have d0:=R.bn.c 0 (v:=.slice e0 e1 e2) rfl
      have d1:=R.bn.c 1 (v:=.slice t0 t1 t2) rfl
      have d2:=R.bn.c 2 (v:=.int .i64 ph) rfl
      have d3:=R.bn.c 3 (v:=.int .i64 mn) rfl
      have d4:=R.bn.c 4 (v:=.int .i64 ol) rfl
      have d5:=R.bn.c 5 (v:=.int .i64 nw) rfl
      have d6:=R.bn.c 6 (v:=.int .i64 tm) rfl
      have d7:=R.bn.c 7 (v:=.slice b0 b1 b2) rfl
      have d8:=R.bn.c 8 (v:=.slice g0 g1 g2) rfl
      have d9:=R.bn.c 9 (v:=.string ap) rfl
      refine op_at rfl (fun K hK=>?_)
      go_simp
      refine hK _ _ ?_
      exact ⟨_,_,_,_,_,_,_,rfl,{ R with k2:=(fun _=>rfl) }⟩
     ·
      skip
      have e2:=R.k2 (hD 2 (by kernel_rfl))
      subst e2
      have n4 : Lb 4 = false:=by
       cases q : Lb 4 with
       | false=>rfl
       | true=>have z:=R.p4_3 (q); rw [hL] at z; cases z
      have n7 : Lb 7 = false:=by
       cases q : Lb 7 with
       | false=>rfl
       | true=>have z:=R.p4_3 (R.p5_4 (R.p7_5 (q))); rw [hL] at z; cases z
      have hsz:=R.sz
      refine op_at rfl (fun K hK=>?_)
      go_simp
      refine (CC.out W R.kb).mono ?_
      intro en W' hz
      obtain ⟨⟨x0,x1,x2⟩,⟨y0,y1,y2⟩,⟨z0,z1,z2⟩,⟨v0,v1,v2⟩,rfl,oN1,kA⟩:=hz.out
      have oN2 : OwnN W' W6.heap.size _ _ _ _ _:=⟨oN1.e.mono hsz,oN1.m.mono hsz,oN1.b.mono hsz,oN1.g.mono hsz⟩
      go_simp
      refine hK _ _ ?_
      exact ⟨_,_,_,_,_,_,_,rfl,⟨R.k0,R.k1,R.k2,R.k6,(R.kb.trans (kA.mono R.kb.size)),(Nat.le_trans R.sz kA.size),(R.bp.kept kA),(R.br.kept kA),(fun q0=>(R.bb q0).kept kA),(fun q0=>no1 n7 q0),(R.ty.kept kA),(R.bn.kept kA),(fun q0=>(R.on q0).kept kA),(fun q0=>(R.oN q0).kept kA),(R.ok.kept kA),(fun _ _=>⟨_,_,_,_,rfl,oN2⟩),(fun q0 q1=>no1 n4 q0),(fun _=>rfl),R.p5_4,R.p5_1,(fun q0=>no1 n7 q0)⟩⟩
     ·
      skip
      have n5 : Lb 5 = false:=by
       cases q : Lb 5 with
       | false=>rfl
       | true=>have z:=R.p5_4 (q); rw [hL] at z; cases z
      have n7 : Lb 7 = false:=by
       cases q : Lb 7 with
       | false=>rfl
       | true=>have z:=R.p5_4 (R.p7_5 (q)); rw [hL] at z; cases z
      obtain ⟨⟨x0,x1,x2⟩,⟨y0,y1,y2⟩,⟨z0,z1,z2⟩,⟨v0,v1,v2⟩,e7,oN1⟩:=R.f7 (hD 3 (by kernel_rfl)) hL
      simp only [Nd.nv,Nd.nc,sv] at e7
      subst e7
      have kA:=(Below.refl W.heap.size W).alloc (Nat.le_refl _) (.cells #[.slice x0 x1 x2,.slice y0 y1 y2,.int .i64 ph,.int .i64 mn,.int .i64 ol,.int .i64 nw,.int .i64 tm,.slice z0 z1 z2,.slice v0 v1 v2,.string ap] 49)
      have hsz:=R.sz
      refine op_at rfl (fun K hK=>?_)
      go_simp
      refine hK _ _ ?_
      exact ⟨_,_,_,_,_,_,_,rfl,⟨R.k0,R.k1,R.k2,R.k6,(R.kb.trans (kA.mono R.kb.size)),(Nat.le_trans R.sz kA.size),(R.bp.kept kA),(R.br.kept kA),(fun q0=>(R.bb q0).kept kA),(fun q0=>no1 n7 q0),(R.ty.kept kA),(R.bn.kept kA),(fun q0=>(R.on q0).kept kA),(fun q0=>no1 n5 q0),(R.ok.kept kA),(fun q0 q1=>by cases q1),(fun _ _=>⟨(x0,x1,x2),(y0,y1,y2),(z0,z1,z2),(v0,v1,v2),One.new _ 49 hsz,oN1.kept kA⟩),(fun _=>hD 3 (by kernel_rfl)),(fun _=>rfl),(fun q0=>no1 n5 q0),(fun q0=>no1 n7 q0)⟩⟩
     ·
      skip
      have e1:=R.k1 (hD 1 (by kernel_rfl))
      subst e1
      have n7 : Lb 7 = false:=by
       cases q : Lb 7 with
       | false=>rfl
       | true=>have z:=R.p7_5 (q); rw [hL] at z; cases z
      obtain ⟨⟨x0,x1,x2⟩,⟨y0,y1,y2⟩,⟨z0,z1,z2⟩,⟨v0,v1,v2⟩,⟨bl,e8,h8,x8⟩,oN1⟩:=R.f8 (hD 4 (by kernel_rfl)) hL
      subst e8
      have oc:=R.on hL
      have ow:=oc.row
      have hlC:=oc.len
      have hhi:=oc.hi'
      refine op_at rfl (fun K hK=>?_)
      refine step_row (by rfl) (.tmp 22) (.tmp 25) 28 (by rfl) 49 i0 (.agg #[sv (none,0,0),sv (none,0,0),.int .i64 0,.int .i64 0,.int .i64 0,.int .i64 0,.int .i64 0,sv (none,0,0),sv (none,0,0),.string ByteArray.empty]) 10 152 Tryz.underlying28 hi0 hz0 hz1 hz2 rfl (by decide) (w.heap.size + 2) (.slice va i vc) C.length (Nv.rcells C) (by simp [Act.eval]) ow ⟨bl,0,none⟩ 1 1 (Nv.rcells [(Ns.nrw ⟨bk,mm,ph,mn,ol,nw,tm,bu,lg,ap⟩ (x0,x1,x2) (y0,y1,y2) (z0,z1,z2) (v0,v1,v2))]) (by simp [Act.eval]) rfl (box_cells x8) (Nv.rcells_one _) (by unfold maxLen; have:=HLn.out; omega) (by have:=HLn.out; omega) (Nat.le_trans HL0.out R.sz) ?_
      intro v' W' hown hgrow hnil
      have oo : Nv.Own W' (w.heap.size + 2) v' (C ++ [Ns.nrw ⟨bk,mm,ph,mn,ol,nw,tm,bu,lg,ap⟩ (x0,x1,x2) (y0,y1,y2) (z0,z1,z2) (v0,v1,v2)]):=Nv.Own.more (L:=C) (M:=[Ns.nrw ⟨bk,mm,ph,mn,ol,nw,tm,bu,lg,ap⟩ (x0,x1,x2) (y0,y1,y2) (z0,z1,z2) (v0,v1,v2)]) hown
      have pc:=oc.push (x:=⟨bk,mm,ph,mn,ol,nw,tm,bu,lg,ap⟩) (e:=(x0,x1,x2)) (m:=(y0,y1,y2)) (b:=(z0,z1,z2)) (g:=(v0,v1,v2)) ⟨oN1.e.mono HHI.out,oN1.m.mono HHI.out,oN1.b.mono HHI.out,oN1.g.mono HHI.out⟩ oo hgrow
      refine hK _ _ ?_
      exact ⟨_,_,_,_,_,_,_,rfl,⟨R.k0,R.k1,R.k2,R.k6,(below_grown R.kb hgrow R.kb.size (fun g hg=>Nat.le_trans HLO.out (HV.out.1 g hg))),(Nat.le_trans R.sz hgrow.size),(box_grown R.bp hgrow (fun e=>by have h1:=HV.out.1 _ e; have h2:=HGB.out; omega)),(box_grown R.br hgrow (fun e=>by have h1:=HV.out.1 _ e; have h2:=HGB.out; omega)),(fun q0=>box_grown (R.bb q0) hgrow (R.ty.apart ow (by decide))),(fun q0=>no1 n7 q0),(R.ty.grown hgrow (R.ty.apart ow (by decide))),(box_grown R.bn hgrow (fun e=>HV.out.2 _ e rfl)),(fun q0=>by cases q0),(fun _=>⟨_,_,pc⟩),(row_grown R.ok hgrow (own_apart R.ok ow (by decide))),(fun q0 q1=>no1 q1 (hD 4 (by kernel_rfl))),(fun q0 q1=>by cases q1),R.p4_3,(fun _=>hD 4 (by kernel_rfl)),(fun _=>hD 1 (by kernel_rfl)),(fun _=>rfl)⟩⟩
     ·
      skip
      refine op_at rfl (fun K hK=>?_)
      go_simp
      refine hK _ _ ?_
      exact ⟨_,_,_,_,_,_,_,rfl,{ R with k6:=(fun _=>rfl) }⟩
     ·
      skip
      have e6:=R.k6 (hD 6 (by kernel_rfl))
      subst e6
      obtain ⟨a6,c6,e6⟩:=(R.oN (hD 5 (by kernel_rfl))).form
      rw [show ((ns.take i) ++ [(⟨bk,mm,ph,mn,ol,nw,tm,bu,lg,ap⟩ : Nw)]).length = i + 1 by rw [List.length_append,HMl.out]; rfl] at e6
      subst e6
      have bx:=R.bb hL
      have d1:=bx.c 1 (v:=.slice va i vc) rfl
      have f1:=bx.fr 1
      have Y:=(Only.refl gb W).setCell 1 (.slice a6 (i + 1) c6)
      refine op_at rfl (fun K hK=>?_)
      go_simp
      refine hK _ _ ?_
      exact ⟨_,_,_,_,_,_,_,rfl,⟨R.k0,R.k1,R.k2,R.k6,(below_only R.kb Y R.kb.size HGW.out),(Nat.le_trans R.sz Y.size),(box_only R.bp Y (by have h2:=HGB.out; omega)),(box_only R.br Y (by have h2:=HGB.out; omega)),(fun q0=>by cases q0),(fun _=>bx.put (c':=#[.int .i64 no,.slice a6 (i + 1) c6,.slice ka s1 kc]) 1 (.slice a6 (i + 1) c6) (by simp) rfl),(R.ty.self 1 _),(box_only R.bn Y HGN.out),(fun q0=>no1 q0 (hD 5 (by kernel_rfl))),(fun q0=>(R.oN q0).box R.ty Y),(R.ty.row R.ok (by decide) Y),(fun q0 q1=>no1 q1 (R.p5_4 (hD 5 (by kernel_rfl)))),(fun q0 q1=>no1 q1 (hD 5 (by kernel_rfl))),R.p4_3,R.p5_4,R.p5_1,(fun _=>hD 5 (by kernel_rfl))⟩⟩
    case refine_2 =>
     intro Lb a' W hI hall
     obtain ⟨u21,u22,u23,u24,u25,u26,u27,rfl,R⟩:=hI
     have bx:=R.bS (hall 7)
     have br:=R.br
     have bp:=R.bp
     have ty:=R.ty
     have ox:=R.oN (hall 5)
     have ok:=R.ok
     have kb:=R.kb
     clear R hall
     rw [← HTK.out] at ox
     obtain ⟨za,zc,e1⟩:=ox.form
     rw [List.length_take,Nat.min_eq_left (by have:=HN.out; omega)] at e1
     subst e1
     have BXs:=hidIt bx
     have BRs:=hidIt br
     have BPs:=hidIt bp
     have TYs:=hidIt ty
     have OXs:=hidIt ox
     have OKs:=hidIt ok
     have HBs:=hidIt kb
     clear bx br bp ty ox ok kb
     go_wp2_with (fail)
     exact ⟨⟨i + 1,za,zc,by simp,by omega,BPs,BRs,BXs,TYs,OXs,OKs,HBs⟩,by simp [intOf]; omega⟩
   ·
    have hin' : ¬ (i : Int) < (n1 : Int):=by omega
    obtain rfl : i = n1:=by omega
    skip
    have a0z:=BX.out.c 0 (v:=.int .i64 no) rfl
    have a1z:=BX.out.c 1 (v:=.slice va i vc) rfl
    have a2z:=BX.out.c 2 (v:=.slice ka s1 kc) rfl
    have c0z:=BR.out.c 0 (v:=.int .i64 0) rfl
    have c1z:=BR.out.c 1 (v:=.slice none 0 0) rfl
    have c2z:=BR.out.c 2 (v:=.slice none 0 0) rfl
    have z0z:=BR.out.fr 0
    have z1z:=BR.out.fr 1
    have z2z:=BR.out.fr 2
    have RZ:=hidIt ((((BR.out).put (c':=#[.int .i64 no,.slice none 0 0,.slice none 0 0]) 0 (.int .i64 no) (by simp) rfl).put (c':=#[.int .i64 no,.slice va i vc,.slice none 0 0]) 1 (.slice va i vc) (by simp) rfl).put (c':=#[.int .i64 no,.slice va i vc,.slice ka s1 kc]) 2 (.slice ka s1 kc) (by simp) rfl)
    have HZ:=hidIt ((((HBx.out).setCell (p:=⟨w.heap.size + 1,0,none⟩) (by show w.heap.size ≤ w.heap.size + 1; omega) (.int .i64 no)).setCell (p:=⟨w.heap.size + 1,1,none⟩) (by show w.heap.size ≤ w.heap.size + 1; omega) (.slice va i vc)).setCell (p:=⟨w.heap.size + 1,2,none⟩) (by show w.heap.size ≤ w.heap.size + 1; omega) (.slice ka s1 kc))
    have YZ:=hidIt ((((Only.refl (w.heap.size + 1) wr).setCell 0 (.int .i64 no)).setCell 1 (.slice va i vc)).setCell 2 (.slice ka s1 kc))
    go_wp2_with (fail)
    generalize (((wr).setCell ⟨w.heap.size + 1,0,none⟩ (.int .i64 no)).setCell ⟨w.heap.size + 1,1,none⟩ (.slice va i vc)).setCell ⟨w.heap.size + 1,2,none⟩ (.slice ka s1 kc) = wz at RZ HZ YZ ⊢
    clear a0z c0z z0z a1z c1z z1z a2z c2z z2z
    have q0c:=RZ.out.c 0 (v:=.int .i64 no) rfl
    have q1c:=RZ.out.c 1 (v:=.slice va i vc) rfl
    have q2c:=RZ.out.c 2 (v:=.slice ka s1 kc) rfl
    refine bodyPost_ret (v:=.agg #[.int .i64 no,.slice va i vc,.slice ka s1 kc]) (by simp [results,Tryz.results29,go_sem,q0c,q1c,q2c]) rfl ?_
    have OXz:=hidIt (OX.out.low YZ.out (by omega))
    have OKz : Hid (Iv.Own wz (w.heap.size + 2) (.slice ka s1 kc) ck):=hidIt (OK.out.only YZ.out (.inl (by omega)))
    have hns : ns.take i = ns:=by rw [← HN.out]; exact List.take_length
    rw [hns] at OXz
    exact KluP.of (n:=(va,i,vc)) (k:=(ka,s1,kc)) rfl ⟨OXz.out.done (by omega),OKz.out.mono (by omega),fun g hg=>(World.ownsRow.lt OKz.out g hg).2⟩ HZ.out
end Go.Proofs.YtgbnkkjjgodilaaGreatDoor.Kc
