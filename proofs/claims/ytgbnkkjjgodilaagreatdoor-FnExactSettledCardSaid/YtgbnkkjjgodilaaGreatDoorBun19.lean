/- A Cluster that came in. (Written by wip/mkKc.py.) -/
import Derived.Test.YtgbnkkjjgodilaaGreatDoorBun17
import Derived.Test.YtgbnkkjjgodilaaGreatDoorBun18
import Derived.Test.YtgbnkkjjgodilaaGreatDoorBun10
import Derived.Test.YtgbnkkjjgodilaaGreatDoorBun14
set_option maxRecDepth 100000
set_option maxHeartbeats 32000000
set_option linter.unusedVariables false
namespace Go.Proofs.YtgbnkkjjgodilaaGreatDoor.Kc
open Go.ChangeShapes Go.WideShapes Go.ChangeAt Go.RowKit
open Vv (Sl sv hidIt)
open Nd (Nw RdN OwnN ShortN SmallN)
structure In (w : World) (c : Cw) (n k : Sl) : Prop where
 rd : RdK w c n k
 short : ShortK c
theorem array3 {cs : Array Value} (h : cs.size = 3) : ∃ a b c,cs = #[a,b,c]:=by
 obtain ⟨l⟩:=cs
 match l,h with
 | [a,b,c],_=>exact ⟨a,b,c,rfl⟩
theorem cellsK : Tryz.prog.cellsOf 25 = 3:=by kernel_rfl
theorem cellsNs : Tryz.prog.cellsOf 22 = 1:=by kernel_rfl
theorem cellsIs : Tryz.prog.cellsOf 23 = 1:=by kernel_rfl
theorem cellsI1 : Tryz.prog.cellsOf 2 = 1:=by kernel_rfl
theorem open_cluster {H : Type} {enc : TypeId × Value → H} {w : World} {r : Reach} {b0 base : Nat} {spare : Nat → Bool} {held : Bool} {v : Value} {d : DataW H} {p : List MemPlace} (hv : Value.okWide Tryz.prog w r b0 25 v) (h : DataW.Trod enc Tryz.prog w base spare held 25 v d p) :
  ∃ (c : Cw) (n k : Sl),v = kv c n k ∧ In w c n k:=by
 obtain ⟨cs,rfl,hsz⟩:=okWide_struct Tryz.underlying25 hv
 obtain ⟨c0,c1,c2,rfl⟩:=array3 (hsz.trans cellsK)
 obtain ⟨fuel,hf⟩:=h
 have hf0 : DataW.trod enc Tryz.prog w base spare held fuel 25 [c0,c1,c2] = some (d,p):=by simpa [Value.cells] using hf
 obtain ⟨xs,k,hk,hxy,_,hxl,hf'⟩:=DataW.trod_struct Tryz.underlying25 hf0
 match xs,hxl with
 | [y0,y1,y2],_ =>
  have g0:=hf' 0 _ rfl
  have g1:=hf' 1 _ rfl
  have g2:=hf' 2 _ rfl
  simp [cellsNs,cellsIs,cellsI1] at g0 g1 g2
  obtain ⟨q0,e0,_,_⟩:=DataW.trod_int Tryz.underlying2 g0
  simp at e0
  obtain ⟨a1,k1,L1,e1,I1⟩:=Ns.open_nodes_in g1
  obtain ⟨a2,k2,L2,e2,I2⟩:=Zn.open_ints_in Tryz.underlying23 Tryz.underlying2 cellsI1 g2
  subst e0 e1 e2
  have h1:=I1.le
  have h2:=I1.cap
  have h3:=I2.le
  have h4:=I2.cap
  exact ⟨⟨q0,L1,L2⟩,(a1,L1.length,k1),(a2,L2.length,k2),rfl,⟨rfl,I1.rd,by show L1.length ≤ _; omega,rfl,I2.rd,by show L2.length ≤ _; omega⟩,I1.short⟩
end Go.Proofs.YtgbnkkjjgodilaaGreatDoor.Kc
namespace Go.Proofs.YtgbnkkjjgodilaaGreatDoor.Ns
open Go.ChangeShapes Go.WideShapes Go.ChangeAt Go.RowKit
open Vv (Sl sv hidIt)
open Nd (Nw RdN OwnN)
open Rp (OnlyIn own_apart row_in row_other)
theorem rat_app {L : List Nv.Rw} {x : Nv.Rw} {i : Nat} (h : i < L.length) : Nv.rat (L ++ [x]) i = Nv.rat L i:=by
 unfold Nv.rat
 rw [List.getD_eq_getElem?_getD,List.getD_eq_getElem?_getD,List.getElem?_append_left h]
theorem rat_last (L : List Nv.Rw) (x : Nv.Rw) : Nv.rat (L ++ [x]) L.length = x:=by
 unfold Nv.rat
 rw [List.getD_eq_getElem?_getD,List.getElem?_append_right (Nat.le_refl _)]
 simp
theorem row_grown {w w' : World} {b e s n : Nat} {u : Value} {xs : List Value} {r : Option Nat} (hu : w.ownsRow b e s u n xs) (k : w.grownBy w' r) (hd : ∀ g,u.ownBlock = some g → r ≠ some g) : w'.ownsRow b e s u n xs:=by
 refine World.ownsRow.kept hu k ?_
 cases hub : u.ownBlock with
 | none=>exact .inl rfl
 | some g=>exact .inr (fun e=>hd g hub e.symm)
theorem OwnR.grown {w w' : World} {lo lo' : Nat} {r : Nv.Rw} {x : Nw} {v : Value} {C : List Nv.Rw} (h : OwnR w lo r x) (hv : Nv.Own w lo' v C) (k : w.grownBy w' v.ownBlock) : OwnR w' lo r x :=
 ⟨row_grown h.e k (h.far hv 0),row_grown h.m k (h.far hv 1),row_grown h.b k (h.far hv 2),row_grown h.g k (h.far hv 3)⟩
theorem OwnC.push {w w' : World} {lo hi : Nat} {v v' : Value} {C : List Nv.Rw} {L : List Nw} (h : OwnC w lo hi v C L) {x : Nw} {e m b g : Sl} (o : OwnN w hi x e m b g) (ho : Nv.Own w' lo v' (C ++ [nrw x e m b g])) (k : w.grownBy w' v.ownBlock) : OwnC w' lo w'.heap.size v' (C ++ [nrw x e m b g]) (L ++ [x]):=by
 have O : OwnR w hi (nrw x e m b g) x:=o
 have hlo:=h.lo'
 have hsz:=k.size
 have hh:=h.hi'
 have hlen : (L ++ [x]).length = L.length + 1:=by simp
 have hc : ∀ i,i < (L ++ [x]).length → i < L.length ∨ i = L.length:=fun i hi=>by rw [hlen] at hi; omega
 have eL : ∀ i,i < L.length → Nv.rat (C ++ [nrw x e m b g]) i = Nv.rat C i:=fun i hi=>rat_app (by rw [h.len]; exact hi)
 have eX : Nv.rat (C ++ [nrw x e m b g]) L.length = nrw x e m b g:=by rw [← h.len]; exact rat_last _ _
 refine ⟨by rw [List.length_append,h.len,hlen]; rfl,ho,fun y hy=>(World.ownsRow.lt ho y hy).2,fun j hj=>?_,fun j hj=>?_,fun j hj t y hy=>?_,fun j k' hj hk hne t y hy hz=>?_,Nat.le_refl _,by omega⟩
 ·
  rcases hc j hj with q | q
  ·
   rw [eL j q,nod_app q]
   exact h.fl j q
  ·
   subst q
   rw [eX,nod_last]
   rfl
 ·
  rcases hc j hj with q | q
  ·
   rw [eL j q,nod_app q]
   exact (h.nd j q).grown h.row k
  ·
   subst q
   rw [eX,nod_last]
   exact (O.grown h.row k).mono hlo
 ·
  rcases hc j hj with q | q
  ·
   rw [eL j q] at hy
   have:=h.bd j q t y hy
   omega
  ·
   subst q
   rw [eX] at hy
   have:=(O.lt t y hy).2
   omega
 ·
  rcases hc j hj with q | q
  ·
   rw [eL j q] at hy
   rcases hc k' hk with p | p
   ·
    rw [eL k' p] at hz
    exact h.dj j k' q p hne t y hy hz
   ·
    subst p
    rw [eX] at hz
    have h1:=(O.lt t y hz).1
    have h2:=h.bd j q t y hy
    omega
  ·
   subst q
   rw [eX] at hy
   rcases hc k' hk with p | p
   ·
    rw [eL k' p] at hz
    have h1:=(O.lt t y hy).1
    have h2:=h.bd k' p t y hz
    omega
   ·
    omega
end Go.Proofs.YtgbnkkjjgodilaaGreatDoor.Ns
namespace Go.Proofs.YtgbnkkjjgodilaaGreatDoor.Kc
open Go.ChangeShapes Go.WideShapes Go.ChangeAt Go.RowKit
open Vv (Sl sv hidIt)
open Nd (Nw RdN OwnN ShortN SmallN)
open Ns (nod)
open Rp (OnlyIn own_apart row_in row_other)
theorem infoK : (Tryz.prog.info? 2).map (fun i=>(i.zero,i.size,i.bytes)) = some (some (.int .i64 0),1,8):=by kernel_rfl
def OwnX (W : World) (lo : Nat) (v : Value) (L : List Nw) : Prop:=∃ hi,Ns.Own W lo hi v L
theorem OwnX.out {W : World} {lo : Nat} {v : Value} {L : List Nw} (h : OwnX W lo v L) : ∃ hi C,Ns.OwnC W lo hi v C L:=by
 obtain ⟨hi,C,c⟩:=h
 exact ⟨hi,C,c⟩
theorem OwnX.kept {w w' : World} {lo : Nat} {v : Value} {L : List Nw} (h : OwnX w lo v L) (k : Below w.heap.size w w') : OwnX w' lo v L:=by
 obtain ⟨hi,h⟩:=h
 exact ⟨hi,h.kept k⟩
theorem OwnX.low {w w' : World} {lo c : Nat} {v : Value} {L : List Nw} (h : OwnX w lo v L) (k : Only c w w') (hc : c < lo) : OwnX w' lo v L:=by
 obtain ⟨hi,h⟩:=h
 exact ⟨hi,h.apart (OnlyIn.of_only (lo:=c) (hi:=c + 1) k (.inr ⟨Nat.le_refl _,Nat.lt_succ_self _⟩)) (.inr hc)⟩
theorem OwnX.form {w : World} {lo : Nat} {v : Value} {L : List Nw} (h : OwnX w lo v L) : ∃ a cap,v = .slice a L.length cap:=by
 obtain ⟨hi,h⟩:=h
 obtain ⟨a,c,e,_⟩:=h.form
 exact ⟨a,c,e⟩
theorem OwnX.done {w : World} {lo base : Nat} {v : Value} {L : List Nw} (h : OwnX w lo v L) (hb : base ≤ lo) : Ns.Own w base w.heap.size v L:=by
 obtain ⟨hi,h⟩:=h
 exact h.grow.mono hb (Nat.le_refl _) (Nat.le_refl _)
end Go.Proofs.YtgbnkkjjgodilaaGreatDoor.Kc
namespace Go.Proofs.YtgbnkkjjgodilaaGreatDoor.Ns
open Go.ChangeShapes Go.WideShapes Go.ChangeAt Go.RowKit
open Vv (Sl sv hidIt)
open Nd (Nw RdN OwnN)
open Rp (OnlyIn own_apart row_in row_other)
open Nd (SmallN on)
def LstP (w : World) (L : List Nw) (e : Ending) (w' : World) : Prop:=∃ v,e = .returned v ∧ Own w' w.heap.size w'.heap.size v L ∧ Below w.heap.size w w'
theorem LstP.of {w w' : World} {L : List Nw} {e : Ending} {v : Value} (h : e = .returned v) (h1 : Own w' w.heap.size w'.heap.size v L) (h2 : Below w.heap.size w w') : LstP w L e w':=⟨v,h,h1,h2⟩
theorem LstP.out {w w' : World} {L : List Nw} {e : Ending} (h : LstP w L e w') : ∃ v,e = .returned v ∧ Own w' w.heap.size w'.heap.size v L ∧ Below w.heap.size w w':=h
theorem pcells_zero (m : Nat) : Nv.rcells (List.replicate m ((none,0,0),(none,0,0),0,0,0,0,0,(none,0,0),(none,0,0),ByteArray.empty)) = (madeCells #[.slice none 0 0,.slice none 0 0,.int .i64 0,.int .i64 0,.int .i64 0,.int .i64 0,.int .i64 0,.slice none 0 0,.slice none 0 0,.string ByteArray.empty] (m * 10)).toList:=by
 apply List.ext_getElem?
 intro x
 by_cases hx : x < m * 10
 ·
  have e : x = x / 10 * 10 + x % 10:=by omega
  have h1:=Nv.rcells_get (List.replicate m ((none,0,0),(none,0,0),0,0,0,0,0,(none,0,0),(none,0,0),ByteArray.empty)) (x / 10) (x % 10) (by rw [List.length_replicate]; omega) (by omega)
  rw [← e] at h1
  have h2 : Nv.rat (List.replicate m ((none,0,0),(none,0,0),0,0,0,0,0,(none,0,0),(none,0,0),ByteArray.empty)) (x / 10) = ((none,0,0),(none,0,0),0,0,0,0,0,(none,0,0),(none,0,0),ByteArray.empty):=by
   rw [Nv.rat_at (by rw [List.length_replicate]; omega),List.getElem_replicate]
  rw [h1,h2]
  have h3 : x % 10 = 0 ∨ x % 10 = 1 ∨ x % 10 = 2 ∨ x % 10 = 3 ∨ x % 10 = 4 ∨ x % 10 = 5 ∨ x % 10 = 6 ∨ x % 10 = 7 ∨ x % 10 = 8 ∨ x % 10 = 9:=by omega
  rcases h3 with h | h | h | h | h | h | h | h | h | h <;> simp [madeCells,hx,h,Nv.rcell]
 ·
  rw [List.getElem?_eq_none (by rw [Nv.rcells_length,List.length_replicate]; omega),List.getElem?_eq_none (by simp [madeCells]; omega)]
theorem toS_any (a : Option Addr) (cap : Nat) (L : List Nw) (w : World) (h : Rd w a L) (hl : L.length ≤ 1048576) (hb : ∀ i,i < L.length → SmallN (nod L i)) :
  Calls Tryz.prog 20 #[.slice a L.length cap] w fun e w'=>LstP w L e w':=by
 have HS:=hidIt hb
 generalize hn : L.length = m at *
 obtain ⟨i0,hi,hz0,hz1,hz2⟩:=info_parts Nv.infoRw
 have HR:=hidIt h
 have HN:=hidIt hn
 clear h hn hb
 go_enter Tryz.func20,Tryz.ntmps20
 go_wp2_with (first
  | (at_make; refine wpList_make_full _ rfl _ _ 28 rfl w.heap.size 49 i0 (.agg #[.slice none 0 0,.slice none 0 0,.int .i64 0,.int .i64 0,.int .i64 0,.int .i64 0,.int .i64 0,.slice none 0 0,.slice none 0 0,.string ByteArray.empty]) 10 Tryz.underlying28 hi hz0 hz1 _ _ _ _ m rfl rfl (by omega) (by omega) (by rw [hz2]; omega) (by unfold maxLen; omega) (Nat.le_refl _) ?_)
  | fail)
 intro w1 hown hgrow
 have HV : Nv.Own w1 w.heap.size (.slice (some ⟨w.heap.size,0,none⟩) m m) (List.replicate m ((none,0,0),(none,0,0),0,0,0,0,0,(none,0,0),(none,0,0),ByteArray.empty)):=by
  unfold Nv.Own
  rw [List.length_replicate,pcells_zero]
  exact hown
 have HB:=hidIt ((Below.refl w.heap.size w).grown hgrow (Nat.le_refl _) (fun k hk=>by cases hk))
 have HO:=hidIt (Own.made HV HB.out.size)
 clear hown hgrow HV
 go_wp2_with (fail)
 go_loopw [4] (fun y wx=>∃ (i : Nat) (M : List Nw),y = .int .i64 i ∧ i ≤ m ∧ M.length = m ∧ Hid (∀ j,j < i → nod M j = nod L j) ∧ Hid (Own wx w.heap.size wx.heap.size (.slice (some ⟨w.heap.size,0,none⟩) m m) M) ∧ Hid (Below w.heap.size w wx)) (fun y _=>(m - intOf y).toNat)
 case atStart=>exact ⟨0,_,rfl,by omega,by simp,hidIt (fun j hj=>by omega),HO,HB⟩
 case round =>
  obtain ⟨i,M,rfl,hin0,hM,hE,HOx,HBx⟩:=hrel
  have HM:=hidIt hM
  clear HO HB hM
  by_cases hin : i < m
  ·
   have hin' : (i : Int) < (m : Int):=by omega
   obtain ⟨q,off,e,mm',b,g,rfl,c0,c1,c2,c3,c4,c5,c6,c7,c8,c9,rN⟩:=(HR.out.kept HBx.out).one (i:=i) (by rw [HN.out]; exact hin)
   have HC:=hidIt (Nd.to_any (nod L i) e mm' b g wr rN (HS.out i hin))
   have hiM : i < M.length:=by rw [HM.out]; exact hin
   generalize hx : nod L i = x at *
   have HX:=hidIt hx
   clear rN hx
   obtain ⟨bk,mm,ph,mn,ol,nw,tm,bu,lg,ap⟩:=x
   obtain ⟨e0,e1,e2⟩:=e
   obtain ⟨t0,t1,t2⟩:=mm'
   obtain ⟨b0,b1,b2⟩:=b
   obtain ⟨g0,g1,g2⟩:=g
   simp only [Nd.nv,Nd.nc,sv] at c0 c1 c2 c3 c4 c5 c6 c7 c8 c9 HC
   go_wp2_with (fail)
   refine HC.out.mono ?_
   intro en w2 hz
   obtain ⟨⟨x0,x1,x2⟩,⟨y0,y1,y2⟩,⟨u0,u1,u2⟩,⟨v0,v1,v2⟩,rfl,oN,hb2⟩:=hz.out
   have HB2:=hidIt (on HBx.out hb2)
   have HO2:=hidIt (HOx.out.kept hb2)
   have HO3:=hidIt (HO2.out.put hiM oN)
   obtain ⟨e',m',b',g',z0,z1,z2,z3,z4,z5,z6,z7,z8,z9,k0,k1,k2,k3,k4,k5,k6,k7,k8,k9,_⟩:=HO2.out.cells hiM
   have HB3:=hidIt (((((((((((HB2.out).setCell (p:=⟨w.heap.size,i * 10,none⟩) (Nat.le_refl _) (.slice x0 x1 x2)).setCell (p:=⟨w.heap.size,i * 10 + 1,none⟩) (Nat.le_refl _) (.slice y0 y1 y2)).setCell (p:=⟨w.heap.size,i * 10 + 2,none⟩) (Nat.le_refl _) (.int .i64 ph)).setCell (p:=⟨w.heap.size,i * 10 + 3,none⟩) (Nat.le_refl _) (.int .i64 mn)).setCell (p:=⟨w.heap.size,i * 10 + 4,none⟩) (Nat.le_refl _) (.int .i64 ol)).setCell (p:=⟨w.heap.size,i * 10 + 5,none⟩) (Nat.le_refl _) (.int .i64 nw)).setCell (p:=⟨w.heap.size,i * 10 + 6,none⟩) (Nat.le_refl _) (.int .i64 tm)).setCell (p:=⟨w.heap.size,i * 10 + 7,none⟩) (Nat.le_refl _) (.slice u0 u1 u2)).setCell (p:=⟨w.heap.size,i * 10 + 8,none⟩) (Nat.le_refl _) (.slice v0 v1 v2)).setCell (p:=⟨w.heap.size,i * 10 + 9,none⟩) (Nat.le_refl _) (.string ap))
   have HO4:=hidIt HO3.out.grow
   clear hz oN hb2 HC HO2 HB2 HOx HBx HO3 c0 c1 c2 c3 c4 c5 c6 c7 c8 c9
   generalize nod M i = xm at z0 z1 z2 z3 z4 z5 z6 z7 z8 z9
   obtain ⟨bk',mm',ph',mn',ol',nw',tm',bu',lg',ap'⟩:=xm
   obtain ⟨p0,p1,p2⟩:=e'
   obtain ⟨r0,r1,r2⟩:=m'
   obtain ⟨s0,s1,s2⟩:=b'
   obtain ⟨j0,j1,j2⟩:=g'
   simp only [Nd.nv,Nd.nc,sv] at z0 z1 z2 z3 z4 z5 z6 z7 z8 z9 HO4 ⊢
   go_wp2_with (fail)
   refine ⟨⟨i + 1,M.set i ⟨bk,mm,ph,mn,ol,nw,tm,bu,lg,ap⟩,by simp,by omega,by rw [List.length_set]; exact HM.out,hidIt (fun j hj=>?_),HO4,HB3⟩,by simp [intOf]; omega⟩
   rw [nod_set hiM]
   split
   ·
    rename_i e'; rw [← e',HX.out]
   ·
    exact hE.out j (by omega)
  ·
   have hin' : ¬ (i : Int) < (m : Int):=by omega
   have eM : M = L:=ext_nod (by rw [HM.out,HN.out]) (fun j hj=>hE.out j (by rw [HM.out] at hj; omega))
   subst eM
   go_wp2_with (fail)
   go_ret
   exact LstP.of rfl HOx.out HBx.out
end Go.Proofs.YtgbnkkjjgodilaaGreatDoor.Ns
namespace Go.Proofs.YtgbnkkjjgodilaaGreatDoor.Kc
open Go.ChangeShapes Go.WideShapes Go.ChangeAt Go.RowKit
open Vv (Sl sv hidIt)
open Nd (Nw RdN OwnN ShortN SmallN)
open Nd (on)
theorem eq_same (c : Cw) (n k n' k' : Sl) (w : World) (h : RdK w c n k) (h' : RdK w c n' k') (hs : SmallK c) :
  Calls Tryz.prog 9 #[kv c n k,kv c n' k'] w fun en w'=>en = .returned (.bool true) ∧ Below w.heap.size w w':=by
 obtain ⟨nw,ns,ck⟩:=c
 obtain ⟨n0,n1,n2⟩:=n
 obtain ⟨k0,k1,k2⟩:=k
 obtain ⟨x0,x1,x2⟩:=n'
 obtain ⟨y0,y1,y2⟩:=k'
 obtain ⟨z1,rN,cN,z2,rK,cK⟩:=h
 obtain ⟨z3,rN',_,z4,rK',_⟩:=h'
 obtain ⟨s1,s2,s3⟩:=hs
 simp only at z1 rN cN z2 rK cK z3 rN' z4 rK' s1 s2 s3
 have C1:=hidIt (fun W (r : Ns.Rd W n0 ns) (r' : Ns.Rd W x0 ns)=>Ns.eqS_same n0 x0 n2 x2 ns W r r' cN (fun i hi=>by have:=(s2 i hi).g; omega))
 have C2:=hidIt (fun W (r : Iv.Rd W k0 ck) (r' : Iv.Rd W y0 ck)=>Iv.eqInt64S_any k0 y0 k2 y2 ck W r r' (by omega))
 have RN:=hidIt rN
 have RN':=hidIt rN'
 have RK:=hidIt rK
 have RK':=hidIt rK'
 subst z1 z2 z3 z4
 clear rN rN' rK rK' s1 s2 s3 cN cK
 generalize ns.length = m1 at C1 ⊢
 generalize ck.length = m2 at C2 ⊢
 have hq : (nw != nw) = false:=by simp
 have BA:=hidIt ((Bo.Box.new w #[.int .i64 nw,.slice n0 m1 n2,.slice k0 m2 k2] 30).alloc (.cells #[.int .i64 nw,.slice x0 m1 x2,.slice y0 m2 y2] 30))
 have BB : Hid (Bo.Box ((w.alloc (.cells #[.int .i64 nw,.slice n0 m1 n2,.slice k0 m2 k2] 30)).alloc (.cells #[.int .i64 nw,.slice x0 m1 x2,.slice y0 m2 y2] 30)) (w.heap.size + 1) #[.int .i64 nw,.slice x0 m1 x2,.slice y0 m2 y2]):=hidIt (Bo.Box.newAt (by simp))
 have HB : Hid (Below w.heap.size w ((w.alloc (.cells #[.int .i64 nw,.slice n0 m1 n2,.slice k0 m2 k2] 30)).alloc (.cells #[.int .i64 nw,.slice x0 m1 x2,.slice y0 m2 y2] 30))):=hidIt (((Below.refl w.heap.size w).alloc (Nat.le_refl _) _).alloc (by simp) _)
 have a0:=BA.out.c 0 (v:=.int .i64 nw) rfl
 have b0:=BB.out.c 0 (v:=.int .i64 nw) rfl
 have a1:=BA.out.c 1 (v:=.slice n0 m1 n2) rfl
 have b1:=BB.out.c 1 (v:=.slice x0 m1 x2) rfl
 simp only [kv,kc,sv]
 go_enter Tryz.func9,Tryz.ntmps9
 go_wp2_with (fail)
 refine (C1.out _ (RN.out.kept HB.out) (RN'.out.kept HB.out)).mono ?_
 rintro en w1 ⟨rfl,k1⟩
 have HB1:=hidIt (on HB.out k1)
 have BA1:=hidIt (BA.out.kept k1)
 have BB1:=hidIt (BB.out.kept k1)
 clear k1 a0 b0 a1 b1 HB BA BB
 have a2:=BA1.out.c 2 (v:=.slice k0 m2 k2) rfl
 have b2:=BB1.out.c 2 (v:=.slice y0 m2 y2) rfl
 go_wp2_with (fail)
 refine (C2.out _ (RK.out.kept HB1.out) (RK'.out.kept HB1.out)).mono ?_
 rintro en w2 ⟨rfl,k1⟩
 have HB2:=hidIt (on HB1.out k1)
 clear k1
 go_wp2_with (fail)
 go_ret
 exact ⟨rfl,HB2.out⟩
theorem to_any (c : Cw) (n k : Sl) (w : World) (h : RdK w c n k) (hs : SmallK c) :
  Calls Tryz.prog 7 #[kv c n k] w fun en w'=>KluP w c en w':=by
 obtain ⟨nw,ns,ck⟩:=c
 obtain ⟨n0,n1,n2⟩:=n
 obtain ⟨k0,k1,k2⟩:=k
 obtain ⟨z1,rN,cN,z2,rK,cK⟩:=h
 simp only at z1 rN cN z2 rK cK
 obtain ⟨s1,s2,s3⟩:=hs
 simp only at s1 s2 s3
 have C1:=hidIt (fun W (r : Ns.Rd W n0 ns)=>Ns.toS_any n0 n2 ns W r s1 s2)
 have C2:=hidIt (fun W (r : Iv.Rd W k0 ck)=>Iv.toInt64S_any k0 k2 ck W r s3)
 have RN:=hidIt rN
 have RK:=hidIt rK
 subst z1 z2
 clear rN rK s1 s2 s3 cN cK
 generalize hm1 : ns.length = m1 at C1 ⊢
 generalize hm2 : ck.length = m2 at C2 ⊢
 have H1:=hidIt hm1
 have H2:=hidIt hm2
 clear hm1 hm2
 have BA : Hid (Bo.Box (((w.alloc (.cells #[.int .i64 nw,.slice n0 m1 n2,.slice k0 m2 k2] 25)).alloc (.cells #[.int .i64 0,.slice none 0 0,.slice none 0 0] 30)).alloc (.cells #[.int .i64 nw,.slice none 0 0,.slice none 0 0] 30)) w.heap.size #[.int .i64 nw,.slice n0 m1 n2,.slice k0 m2 k2]):=hidIt (((Bo.Box.new w _ _).alloc _).alloc _)
 have BR : Hid (Bo.Box (((w.alloc (.cells #[.int .i64 nw,.slice n0 m1 n2,.slice k0 m2 k2] 25)).alloc (.cells #[.int .i64 0,.slice none 0 0,.slice none 0 0] 30)).alloc (.cells #[.int .i64 nw,.slice none 0 0,.slice none 0 0] 30)) (w.heap.size + 1) #[.int .i64 0,.slice none 0 0,.slice none 0 0]):=hidIt ((Bo.Box.newAt (by simp)).alloc _)
 have BO : Hid (Bo.Box (((w.alloc (.cells #[.int .i64 nw,.slice n0 m1 n2,.slice k0 m2 k2] 25)).alloc (.cells #[.int .i64 0,.slice none 0 0,.slice none 0 0] 30)).alloc (.cells #[.int .i64 nw,.slice none 0 0,.slice none 0 0] 30)) (w.heap.size + 1 + 1) #[.int .i64 nw,.slice none 0 0,.slice none 0 0]):=hidIt (Bo.Box.newAt (by simp))
 have HB : Hid (Below w.heap.size w (((w.alloc (.cells #[.int .i64 nw,.slice n0 m1 n2,.slice k0 m2 k2] 25)).alloc (.cells #[.int .i64 0,.slice none 0 0,.slice none 0 0] 30)).alloc (.cells #[.int .i64 nw,.slice none 0 0,.slice none 0 0] 30))):=hidIt ((((Below.refl w.heap.size w).alloc (Nat.le_refl _) _).alloc (by simp) _).alloc (by simp; omega) _)
 have hw3 : (((w.alloc (.cells #[.int .i64 nw,.slice n0 m1 n2,.slice k0 m2 k2] 25)).alloc (.cells #[.int .i64 0,.slice none 0 0,.slice none 0 0] 30)).alloc (.cells #[.int .i64 nw,.slice none 0 0,.slice none 0 0] 30)).heap.size = w.heap.size + 1 + 1 + 1:=by simp
 have hs3 : w.heap.size + 1 + 1 + 1 ≤ (((w.alloc (.cells #[.int .i64 nw,.slice n0 m1 n2,.slice k0 m2 k2] 25)).alloc (.cells #[.int .i64 0,.slice none 0 0,.slice none 0 0] 30)).alloc (.cells #[.int .i64 nw,.slice none 0 0,.slice none 0 0] 30)).heap.size:=by omega
 have ne20 : w.heap.size + 1 + 1 ≠ w.heap.size:=by omega
 have ne21 : w.heap.size + 1 + 1 ≠ w.heap.size + 1:=by omega
 have hle : w.heap.size ≤ w.heap.size + 1 + 1:=by omega
 have hle1 : w.heap.size ≤ w.heap.size + 1:=by omega
 have a0 : ((w.alloc (.cells #[.int .i64 nw,.slice n0 m1 n2,.slice k0 m2 k2] 25)).alloc (.cells #[.int .i64 0,.slice none 0 0,.slice none 0 0] 30)).cell? ⟨w.heap.size,0,none⟩ = some (.int .i64 nw):=((Bo.Box.new w #[.int .i64 nw,.slice n0 m1 n2,.slice k0 m2 k2] 25).alloc _).c 0 rfl
 have a1:=BA.out.c 1 (v:=.slice n0 m1 n2) rfl
 simp only [kv,kc,sv]
 go_enter Tryz.func7,Tryz.ntmps7
 go_wp2_with (fail)
 clear a0 hw3
 have BA1:=BA
 have BR1:=BR
 have BO1:=BO
 have HB1:=HB
 clear BA BR BO HB
 generalize (((w.alloc (.cells #[.int .i64 nw,.slice n0 m1 n2,.slice k0 m2 k2] 25)).alloc (.cells #[.int .i64 0,.slice none 0 0,.slice none 0 0] 30)).alloc (.cells #[.int .i64 nw,.slice none 0 0,.slice none 0 0] 30)) = W0 at BA1 BR1 BO1 HB1 a1 hs3 ⊢
 refine (C1.out _ (RN.out.kept HB1.out)).mono ?_
 intro en w1 hz
 obtain ⟨v1,rfl,oN,k1⟩:=hz.out
 obtain ⟨x0,x2,ex,_⟩:=oN.form
 rw [H1.out] at ex
 subst ex
 have HB2:=hidIt (on HB1.out k1)
 have BA2:=hidIt (BA1.out.kept k1)
 have BR2:=hidIt (BR1.out.kept k1)
 have BO2:=hidIt (BO1.out.kept k1)
 have hs4 : w.heap.size + 1 + 1 + 1 ≤ w1.heap.size:=Nat.le_trans hs3 k1.size
 have ON:=hidIt (oN.mono hs3 (Nat.le_refl _) (Nat.le_refl _))
 clear hz k1 oN a1 C1 HB1 BA1 BR1 BO1
 have o1:=BO2.out.c 1 (v:=.slice none 0 0) rfl
 have p1:=BO2.out.fr 1
 have Y1:=hidIt ((Only.refl (w.heap.size + 1 + 1) w1).setCell 1 (.slice x0 m1 x2))
 have ON2:=hidIt (ON.out.apart (Rp.OnlyIn.of_only (lo:=w.heap.size + 1 + 1) (hi:=w.heap.size + 1 + 1 + 1) Y1.out (.inr ⟨Nat.le_refl _,Nat.lt_succ_self _⟩)) (.inr (Nat.le_refl _)))
 have BA3:=hidIt (BA2.out.other (v:=.slice x0 m1 x2) (i:=1) ne20)
 have BR3:=hidIt (BR2.out.other (v:=.slice x0 m1 x2) (i:=1) ne21)
 have BO3:=hidIt (BO2.out.put (c':=#[.int .i64 nw,.slice x0 m1 x2,.slice none 0 0]) 1 (.slice x0 m1 x2) (by simp) rfl)
 have HB3:=hidIt (HB2.out.setCell (p:=⟨w.heap.size + 1 + 1,1,none⟩) hle (.slice x0 m1 x2))
 have hsz : (w1.setCell ⟨w.heap.size + 1 + 1,1,none⟩ (.slice x0 m1 x2)).heap.size = w1.heap.size:=by simp [World.setCell]
 have a2:=BA3.out.c 2 (v:=.slice k0 m2 k2) rfl
 clear HB2 BA2 BR2 BO2 ON Y1
 go_wp2_with (fail)
 generalize w1.setCell ⟨w.heap.size + 1 + 1,1,none⟩ (.slice x0 m1 x2) = W1 at BA3 BR3 BO3 HB3 ON2 a2 hsz ⊢
 clear o1 p1
 refine (C2.out _ (RK.out.kept HB3.out)).mono ?_
 rintro en w2 ⟨v2,rfl,oK,k1⟩
 obtain ⟨y0,y2,ey,_⟩:=oK.form
 rw [H2.out] at ey
 subst ey
 have HB4:=hidIt (on HB3.out k1)
 have BR4:=hidIt (BR3.out.kept k1)
 have BO4:=hidIt (BO3.out.kept k1)
 have hs5 : w.heap.size + 1 + 1 + 1 ≤ W1.heap.size:=by omega
 have ON4:=hidIt ((ON2.out.kept k1).mono (Nat.le_refl _) (by have:=k1.size; omega) (Nat.le_refl _))
 have OK4:=hidIt (oK.mono hs5)
 clear k1 oK a2 C2 BA3 HB3 BR3 BO3 ON2 hsz
 have o2:=BO4.out.c 2 (v:=.slice none 0 0) rfl
 have p2:=BO4.out.fr 2
 have CV : Hid (Bo.Box (w2.setCell ⟨w.heap.size + 1 + 1,2,none⟩ (.slice y0 m2 y2)) (w.heap.size + 1 + 1) #[.int .i64 nw,.slice x0 m1 x2,.slice y0 m2 y2]):=hidIt (BO4.out.put (c':=#[.int .i64 nw,.slice x0 m1 x2,.slice y0 m2 y2]) 2 (.slice y0 m2 y2) (by simp) rfl)
 have BR5:=hidIt (BR4.out.other (v:=.slice y0 m2 y2) (i:=2) ne21)
 have HB5:=hidIt (HB4.out.setCell (p:=⟨w.heap.size + 1 + 1,2,none⟩) hle (.slice y0 m2 y2))
 have Y2:=hidIt ((Only.refl (w.heap.size + 1 + 1) w2).setCell 2 (.slice y0 m2 y2))
 have ON5:=hidIt (ON4.out.apart (Rp.OnlyIn.of_only (lo:=w.heap.size + 1 + 1) (hi:=w.heap.size + 1 + 1 + 1) Y2.out (.inr ⟨Nat.le_refl _,Nat.lt_succ_self _⟩)) (.inr (Nat.le_refl _)))
 have OK5:=hidIt (OK4.out.only Y2.out (.inl (Nat.lt_succ_self _)))
 have e0:=CV.out.c 0 (v:=.int .i64 nw) rfl
 have e1:=CV.out.c 1 (v:=.slice x0 m1 x2) rfl
 have e2:=CV.out.c 2 (v:=.slice y0 m2 y2) rfl
 have r0:=BR5.out.c 0 (v:=.int .i64 0) rfl
 have r1:=BR5.out.c 1 (v:=.slice none 0 0) rfl
 have r2:=BR5.out.c 2 (v:=.slice none 0 0) rfl
 have f0:=BR5.out.fr 0
 have f1:=BR5.out.fr 1
 have f2:=BR5.out.fr 2
 have hsz2 : (w2.setCell ⟨w.heap.size + 1 + 1,2,none⟩ (.slice y0 m2 y2)).heap.size = w2.heap.size:=by simp [World.setCell]
 have BR6:=hidIt (((BR5.out.put (c':=#[.int .i64 nw,.slice none 0 0,.slice none 0 0]) 0 (.int .i64 nw) (by simp) rfl).put (c':=#[.int .i64 nw,.slice x0 m1 x2,.slice none 0 0]) 1 (.slice x0 m1 x2) (by simp) rfl).put (c':=#[.int .i64 nw,.slice x0 m1 x2,.slice y0 m2 y2]) 2 (.slice y0 m2 y2) (by simp) rfl)
 have HB6:=hidIt (((HB5.out.setCell (p:=⟨w.heap.size + 1,0,none⟩) hle1 (.int .i64 nw)).setCell (p:=⟨w.heap.size + 1,1,none⟩) hle1 (.slice x0 m1 x2)).setCell (p:=⟨w.heap.size + 1,2,none⟩) hle1 (.slice y0 m2 y2))
 have Y3:=hidIt ((((Only.refl (w.heap.size + 1) (w2.setCell ⟨w.heap.size + 1 + 1,2,none⟩ (.slice y0 m2 y2))).setCell 0 (.int .i64 nw)).setCell 1 (.slice x0 m1 x2)).setCell 2 (.slice y0 m2 y2))
 have ON6:=hidIt (ON5.out.apart (Rp.OnlyIn.of_only (lo:=w.heap.size + 1) (hi:=w.heap.size + 1 + 1) Y3.out (.inr ⟨Nat.le_refl _,Nat.lt_succ_self _⟩)) (.inr (by omega)))
 have OK6:=hidIt (OK5.out.only Y3.out (.inl (by omega)))
 have hsz3 : ((((w2.setCell ⟨w.heap.size + 1 + 1,2,none⟩ (.slice y0 m2 y2)).setCell ⟨w.heap.size + 1,0,none⟩ (.int .i64 nw)).setCell ⟨w.heap.size + 1,1,none⟩ (.slice x0 m1 x2)).setCell ⟨w.heap.size + 1,2,none⟩ (.slice y0 m2 y2)).heap.size = w2.heap.size:=by simp [World.setCell]
 clear HB4 BR4 BO4 ON4 OK4 CV BR5 HB5 ON5 OK5 Y2 Y3 hsz2
 go_wp2_with (fail)
 generalize (((w2.setCell ⟨w.heap.size + 1 + 1,2,none⟩ (.slice y0 m2 y2)).setCell ⟨w.heap.size + 1,0,none⟩ (.int .i64 nw)).setCell ⟨w.heap.size + 1,1,none⟩ (.slice x0 m1 x2)).setCell ⟨w.heap.size + 1,2,none⟩ (.slice y0 m2 y2) = W3 at BR6 HB6 ON6 OK6 hsz3 ⊢
 clear o2 p2 e0 e1 e2 r0 r1 r2 f0 f1 f2
 have x0':=BR6.out.c 0 (v:=.int .i64 nw) rfl
 have x1':=BR6.out.c 1 (v:=.slice x0 m1 x2) rfl
 have x2':=BR6.out.c 2 (v:=.slice y0 m2 y2) rfl
 refine bodyPost_ret (v:=.agg #[.int .i64 nw,.slice x0 m1 x2,.slice y0 m2 y2]) (by simp [results,Tryz.results7,go_sem,x0',x1',x2']) rfl ?_
 have q1:=H1.out
 have q2:=H2.out
 subst q1 q2
 have hn3 : w.heap.size ≤ w.heap.size + 1 + 1 + 1:=by omega
 exact KluP.of (n:=(x0,ns.length,x2)) (k:=(y0,ck.length,y2)) rfl ⟨ON6.out.mono hn3 (by omega) (Nat.le_refl _),OK6.out.mono hn3,fun g hg=>(World.ownsRow.lt OK6.out g hg).2⟩ HB6.out
end Go.Proofs.YtgbnkkjjgodilaaGreatDoor.Kc
