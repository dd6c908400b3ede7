/- FnGossip's law: what each operation of its region 9 to 12 hands on. -/
import Derived.Test.YtkeapmmochpcfaaGreatBun29
set_option maxRecDepth 100000
set_option maxHeartbeats 32000000
set_option linter.unusedVariables false
set_option linter.unusedSimpArgs false
namespace Go.Proofs.YtkeapmmochpcfaaGreat.Gg
open Go Go.Conc Go.ChangeShapes Go.WideShapes Go.ChangeAt Go.RowKit
open Nf (Stand Bel Pz cutN restN EndQ HasEnd on)
open Bo (Box)
open Vv (Sl sv hidIt)
open Sd (K good quiets whole_stand)
variable {m0 : Machine} {k : List Item} {cs : List Frame}
def D9 (i:Nat):Nat:=([61,62,63]:List Nat).getD i 0
def V9 (e:Pr) (z:Unit) (i:Nat):Option Value:=([pG e,.bool (Rp.okG e.L),.bool (!Rp.okG e.L)]:List Value)[i]?
def U9 (e:Pr):Unit->(Nat->Bool)->World->Prop:=Nf.Uc 999 [] (fun _ _=>True)
def I9 (e:Pr) (v0:World) (B0:Nat->Prop):=Nf.Ki 3 151 D9 (V9 e) (base6 e) (Nf.Xc v0 B0 (U9 e))
theorem h9_0 (e:Pr) (v0:World) (B0:Nat->Prop) (hE:Ev e v0):Nf.Hands Tryz.prog m0 (base 3) k cs (ops 9) (I9 e v0 B0) 0:=by
 refine Nf.hands_op good (fun i=>rfl) (o:=((ops 9)[0]?).getD default) (by kernel_rfl) (by kernel_rfl) (by decide) (by decide) (by rfl) (x:=fun z=>pG e) (fun z=>rfl) (by decide) (by kernel_rfl) ?_ (fun z L a hk hD=>Nf.wanted_none (by kernel_rfl)) ?_
 ·
  exact fun z L v hu hD=>hu.put (by decide) (fun h=>absurd h (by decide))
 ·
  intro z L a v hk be hu hD t d
  have x3:a.eval (.tmp 3)=pG e:=Nf.eval_tmp (hk.bs (3,pG e) (by simp[base6]))
  exact Nf.ev_move (x:=.tmp 3) (by kernel_rfl) x3
theorem h9_1 (e:Pr) (v0:World) (B0:Nat->Prop) (hE:Ev e v0):Nf.Hands Tryz.prog m0 (base 3) k cs (ops 9) (I9 e v0 B0) 1:=by
 refine Nf.hands_plain good quiets (o:=((ops 9)[1]?).getD default) (by kernel_rfl) (by kernel_rfl) (by decide) (by decide) (by rfl) (by decide) (f:=12) (args:=#[.tmp 61]) (ats:=#[24]) (by kernel_rfl) Tryz.func12 (by decide) rfl (by kernel_rfl) (by kernel_rfl) (fun i=>rfl) (x:=fun z=>.bool (Rp.okG e.L)) (fun z=>rfl) ?_ (fun z L a hk hD=>Nf.wanted_none (by kernel_rfl)) ?_
 ·
  exact fun z L v v' hu kb=>(hu.bel (fun _=>trivial)).put (by decide) (fun h=>absurd h (by decide))
 ·
  intro z L a v hk be hu hD t d
  have x61:a.eval (.tmp 61)=pG e:=Nf.eval_tmp (hk.kn 0 _ (by decide) (Nf.dep_at hD (by kernel_rfl)) rfl)
  rw[show ((#[.tmp 61]:Array Operand).map a.eval)=#[pG e] from by simp[x61]]
  have E:=(hE.bel be).tape t d
  have C:=Rp.spec_GroupOk e.p e.q e.L _ E.rg E.sm.s E.sm.l E.sm.lb
  rw[E.ml] at C
  exact C
theorem h9_2 (e:Pr) (v0:World) (B0:Nat->Prop) (hE:Ev e v0):Nf.Hands Tryz.prog m0 (base 3) k cs (ops 9) (I9 e v0 B0) 2:=by
 refine Nf.hands_op good (fun i=>rfl) (o:=((ops 9)[2]?).getD default) (by kernel_rfl) (by kernel_rfl) (by decide) (by decide) (by rfl) (x:=fun z=>.bool (!Rp.okG e.L)) (fun z=>rfl) (by decide) (by kernel_rfl) ?_ (fun z L a hk hD=>Nf.wanted_none (by kernel_rfl)) ?_
 ·
  exact fun z L v hu hD=>hu.put (by decide) (fun h=>absurd h (by decide))
 ·
  intro z L a v hk be hu hD t d
  have x62:a.eval (.tmp 62)=.bool (Rp.okG e.L):=Nf.eval_tmp (hk.kn 1 _ (by decide) (Nf.dep_at hD (by kernel_rfl)) rfl)
  exact ev_not (T:=4) (x:=.tmp 62) (c:=(Rp.okG e.L)) (by kernel_rfl) x62
theorem hands9 (e:Pr) (v0:World) (B0:Nat->Prop) (hE:Ev e v0):∀ i,i<(ops 9).size->Nf.Hands Tryz.prog m0 (base 3) k cs (ops 9) (I9 e v0 B0) i:=by
 intro i hi
 have hi':i<3:=by
  have e:(ops 9).size=3:=by kernel_rfl
  omega
 clear hi
 match i,hi' with
 | 0,_=>exact h9_0 e v0 B0 hE
 | 1,_=>exact h9_1 e v0 B0 hE
 | 2,_=>exact h9_2 e v0 B0 hE
 | _+3,h=>exact absurd h (by omega)
def baseN (e:Pr):List (Nat × Value):=[(0,.slice e.a0 e.len0 e.cap0),(3,pG e),(4,.int .i64 e.f),(5,.int .i64 e.t),(6,pX e),(7,.bool e.b),(8,.pointer (some ⟨e.b8,0,none⟩))]
def D10 (i:Nat):Nat:=([64,65,66,67,68,69,70,71,2]:List Nat).getD i 0
def V10 (e:Pr) (z:Unit) (i:Nat):Option Value:=([pX e,.int .i64 (e.m2:Int),.bool true,.bool true,.agg #[sv e.s,sv e.r],.agg #[.slice none 0 0,.slice none 0 0],.bool true,.bool true,.bool true]:List Value)[i]?
def U10 (e:Pr):Unit->(Nat->Bool)->World->Prop:=Nf.Uc 999 [] (fun _ _=>True)
def I10 (e:Pr) (v0:World) (B0:Nat->Prop):=Nf.Ki 9 151 D10 (V10 e) (baseN e) (Nf.Xc v0 B0 (U10 e))
theorem h10_0 (e:Pr) (v0:World) (B0:Nat->Prop) (hE:Ev e v0) (ok:Rp.okG e.L=false):Nf.Hands Tryz.prog m0 (base 3) k cs (ops 10) (I10 e v0 B0) 0:=by
 refine Nf.hands_op good (fun i=>rfl) (o:=((ops 10)[0]?).getD default) (by kernel_rfl) (by kernel_rfl) (by decide) (by decide) (by rfl) (x:=fun z=>pX e) (fun z=>rfl) (by decide) (by kernel_rfl) ?_ (fun z L a hk hD=>Nf.wanted_none (by kernel_rfl)) ?_
 ·
  exact fun z L v hu hD=>hu.put (by decide) (fun h=>absurd h (by decide))
 ·
  intro z L a v hk be hu hD t d
  have x6:a.eval (.tmp 6)=pX e:=Nf.eval_tmp (hk.bs (6,pX e) (by simp[baseN]))
  exact Nf.ev_move (x:=.tmp 6) (by kernel_rfl) x6
theorem h10_1 (e:Pr) (v0:World) (B0:Nat->Prop) (hE:Ev e v0) (ok:Rp.okG e.L=false):Nf.Hands Tryz.prog m0 (base 3) k cs (ops 10) (I10 e v0 B0) 1:=by
 refine Nf.hands_op good (fun i=>rfl) (o:=((ops 10)[1]?).getD default) (by kernel_rfl) (by kernel_rfl) (by decide) (by decide) (by rfl) (x:=fun z=>.int .i64 (e.m2:Int)) (fun z=>rfl) (by decide) (by kernel_rfl) ?_ (fun z L a hk hD=>Nf.wanted_none (by kernel_rfl)) ?_
 ·
  exact fun z L v hu hD=>hu.put (by decide) (fun h=>absurd h (by decide))
 ·
  intro z L a v hk be hu hD t d
  have x64:a.eval (.tmp 64)=pX e:=Nf.eval_tmp (hk.kn 0 _ (by decide) (Nf.dep_at hD (by kernel_rfl)) rfl)
  exact ev_len (by kernel_rfl) x64
theorem h10_2 (e:Pr) (v0:World) (B0:Nat->Prop) (hE:Ev e v0) (ok:Rp.okG e.L=false):Nf.Hands Tryz.prog m0 (base 3) k cs (ops 10) (I10 e v0 B0) 2:=by
 refine Nf.hands_op good (fun i=>rfl) (o:=((ops 10)[2]?).getD default) (by kernel_rfl) (by kernel_rfl) (by decide) (by decide) (by rfl) (x:=fun z=>.bool true) (fun z=>rfl) (by decide) (by kernel_rfl) ?_ (fun z L a hk hD=>Nf.wanted_none (by kernel_rfl)) ?_
 ·
  exact fun z L v hu hD=>hu.put (by decide) (fun h=>absurd h (by decide))
 ·
  intro z L a v hk be hu hD t d
  have x65:a.eval (.tmp 65)=.int .i64 (e.m2:Int):=Nf.eval_tmp (hk.kn 1 _ (by decide) (Nf.dep_at hD (by kernel_rfl)) rfl)
  exact ev_eq0 (x:=.tmp 65) (by kernel_rfl) x65 (by rw[<- hE.ml2,(hE.tr.no ok).1];rfl)
theorem h10_3 (e:Pr) (v0:World) (B0:Nat->Prop) (hE:Ev e v0) (ok:Rp.okG e.L=false):Nf.Hands Tryz.prog m0 (base 3) k cs (ops 10) (I10 e v0 B0) 3:=by
 refine Nf.hands_op good (fun i=>rfl) (o:=((ops 10)[3]?).getD default) (by kernel_rfl) (by kernel_rfl) (by decide) (by decide) (by rfl) (x:=fun z=>.bool true) (fun z=>rfl) (by decide) (by kernel_rfl) ?_ (fun z L a hk hD=>Nf.wanted_none (by kernel_rfl)) ?_
 ·
  exact fun z L v hu hD=>hu.put (by decide) (fun h=>absurd h (by decide))
 ·
  intro z L a v hk be hu hD t d
  have x66:a.eval (.tmp 66)=.bool true:=Nf.eval_tmp (hk.kn 2 _ (by decide) (Nf.dep_at hD (by kernel_rfl)) rfl)
  exact Nf.ev_move (x:=.tmp 66) (by kernel_rfl) x66
theorem h10_4 (e:Pr) (v0:World) (B0:Nat->Prop) (hE:Ev e v0) (ok:Rp.okG e.L=false):Nf.Hands Tryz.prog m0 (base 3) k cs (ops 10) (I10 e v0 B0) 4:=by
 refine Nf.hands_op good (fun i=>rfl) (o:=((ops 10)[4]?).getD default) (by kernel_rfl) (by kernel_rfl) (by decide) (by decide) (by rfl) (x:=fun z=>.agg #[sv e.s,sv e.r]) (fun z=>rfl) (by decide) (by kernel_rfl) ?_ (fun z L a hk hD=>Nf.wanted_of (j:=3) (by kernel_rfl) (og:=((ops 10)[3]?).getD default) (by kernel_rfl) (d:=67) (by kernel_rfl) (hk.kn 3 (.bool true) (by decide) (Nf.dep_at hD (by kernel_rfl)) rfl)) ?_
 ·
  exact fun z L v hu hD=>hu.put (by decide) (fun h=>absurd h (by decide))
 ·
  intro z L a v hk be hu hD t d
  have x8:a.eval (.tmp 8)=.pointer (some ⟨e.b8,0,none⟩):=Nf.eval_tmp (hk.bs (8,.pointer (some ⟨e.b8,0,none⟩)) (by simp[baseN]))
  exact Go.Proofs.YtkeapmmochpcfaaGreat.Sd.run_load (x:=.tmp 8) (q:=0) (u:=sv e.s) (v:=sv e.r) (by kernel_rfl) x8 (((hE.bel be).tape t d).bx.c 0 (v:=sv e.s) rfl) (((hE.bel be).tape t d).bx.c 1 (v:=sv e.r) rfl)
theorem h10_5 (e:Pr) (v0:World) (B0:Nat->Prop) (hE:Ev e v0) (ok:Rp.okG e.L=false):Nf.Hands Tryz.prog m0 (base 3) k cs (ops 10) (I10 e v0 B0) 5:=by
 refine Nf.hands_op good (fun i=>rfl) (o:=((ops 10)[5]?).getD default) (by kernel_rfl) (by kernel_rfl) (by decide) (by decide) (by rfl) (x:=fun z=>.agg #[.slice none 0 0,.slice none 0 0]) (fun z=>rfl) (by decide) (by kernel_rfl) ?_ (fun z L a hk hD=>Nf.wanted_of (j:=3) (by kernel_rfl) (og:=((ops 10)[3]?).getD default) (by kernel_rfl) (d:=67) (by kernel_rfl) (hk.kn 3 (.bool true) (by decide) (Nf.dep_at hD (by kernel_rfl)) rfl)) ?_
 ·
  exact fun z L v hu hD=>hu.put (by decide) (fun h=>absurd h (by decide))
 ·
  intro z L a v hk be hu hD t d
  exact ev_zero (by kernel_rfl)
theorem h10_6 (e:Pr) (v0:World) (B0:Nat->Prop) (hE:Ev e v0) (ok:Rp.okG e.L=false):Nf.Hands Tryz.prog m0 (base 3) k cs (ops 10) (I10 e v0 B0) 6:=by
 refine Nf.hands_plain good quiets (o:=((ops 10)[6]?).getD default) (by kernel_rfl) (by kernel_rfl) (by decide) (by decide) (by rfl) (by decide) (f:=13) (args:=#[.tmp 68,.tmp 69]) (ats:=#[32,32]) (by kernel_rfl) Tryz.func13 (by decide) rfl (by kernel_rfl) (by kernel_rfl) (fun i=>rfl) (x:=fun z=>.bool true) (fun z=>rfl) ?_ (fun z L a hk hD=>Nf.wanted_of (j:=3) (by kernel_rfl) (og:=((ops 10)[3]?).getD default) (by kernel_rfl) (d:=67) (by kernel_rfl) (hk.kn 3 (.bool true) (by decide) (Nf.dep_at hD (by kernel_rfl)) rfl)) ?_
 ·
  exact fun z L v v' hu kb=>(hu.bel (fun _=>trivial)).put (by decide) (fun h=>absurd h (by decide))
 ·
  intro z L a v hk be hu hD t d
  have x68:a.eval (.tmp 68)=.agg #[sv e.s,sv e.r]:=Nf.eval_tmp (hk.kn 4 _ (by decide) (Nf.dep_at hD (by kernel_rfl)) rfl)
  have x69:a.eval (.tmp 69)=.agg #[.slice none 0 0,.slice none 0 0]:=Nf.eval_tmp (hk.kn 5 _ (by decide) (Nf.dep_at hD (by kernel_rfl)) rfl)
  rw[show ((#[.tmp 68,.tmp 69]:Array Operand).map a.eval)=#[.agg #[sv e.s,sv e.r],.agg #[.slice none 0 0,.slice none 0 0]] from by simp[x68,x69]]
  have E:=(hE.bel be).tape t d
  have hJ:=E.hJ.no ok
  have C:=Rp.likeReplica_same e.s e.r (none,0,0) (none,0,0) e.J _ E.hE E.hM (by rw[hJ];exact Rp.rdE_of (En.Own.ofNil _ 0)) (by rw[hJ];exact Rp.rdM_of (Mm.Own.ofNil _ 0)) (whl_small E.hJ)
  exact C
theorem h10_7 (e:Pr) (v0:World) (B0:Nat->Prop) (hE:Ev e v0) (ok:Rp.okG e.L=false):Nf.Hands Tryz.prog m0 (base 3) k cs (ops 10) (I10 e v0 B0) 7:=by
 refine Nf.hands_op good (fun i=>rfl) (o:=((ops 10)[7]?).getD default) (by kernel_rfl) (by kernel_rfl) (by decide) (by decide) (by rfl) (x:=fun z=>.bool true) (fun z=>rfl) (by decide) (by kernel_rfl) ?_ (fun z L a hk hD=>Nf.wanted_none (by kernel_rfl)) ?_
 ·
  exact fun z L v hu hD=>hu.put (by decide) (fun h=>absurd h (by decide))
 ·
  intro z L a v hk be hu hD t d
  have x67:a.eval (.tmp 67)=.bool true:=Nf.eval_tmp (hk.kn 3 _ (by decide) (Nf.dep_at hD (by kernel_rfl)) rfl)
  have x70:a.eval (.tmp 70)=.bool true:=Nf.eval_tmp (hk.kn 6 _ (by decide) (Nf.dep_at hD (by kernel_rfl)) rfl)
  exact Nf.ev_pick (x:=.tmp 67) (y:=.tmp 70) (z:=.const (.bool false)) (t:=true) (by kernel_rfl) x67 x70
theorem h10_8 (e:Pr) (v0:World) (B0:Nat->Prop) (hE:Ev e v0) (ok:Rp.okG e.L=false):Nf.Hands Tryz.prog m0 (base 3) k cs (ops 10) (I10 e v0 B0) 8:=by
 refine Nf.hands_op good (fun i=>rfl) (o:=((ops 10)[8]?).getD default) (by kernel_rfl) (by kernel_rfl) (by decide) (by decide) (by rfl) (x:=fun z=>.bool true) (fun z=>rfl) (by decide) (by kernel_rfl) ?_ (fun z L a hk hD=>Nf.wanted_none (by kernel_rfl)) ?_
 ·
  exact fun z L v hu hD=>hu.put (by decide) (fun h=>absurd h (by decide))
 ·
  intro z L a v hk be hu hD t d
  have x71:a.eval (.tmp 71)=.bool true:=Nf.eval_tmp (hk.kn 7 _ (by decide) (Nf.dep_at hD (by kernel_rfl)) rfl)
  exact Nf.ev_assign (x:=.tmp 71) (by kernel_rfl) x71
theorem hands10 (e:Pr) (v0:World) (B0:Nat->Prop) (hE:Ev e v0) (ok:Rp.okG e.L=false):∀ i,i<(ops 10).size->Nf.Hands Tryz.prog m0 (base 3) k cs (ops 10) (I10 e v0 B0) i:=by
 intro i hi
 have hi':i<9:=by
  have e:(ops 10).size=9:=by kernel_rfl
  omega
 clear hi
 match i,hi' with
 | 0,_=>exact h10_0 e v0 B0 hE ok
 | 1,_=>exact h10_1 e v0 B0 hE ok
 | 2,_=>exact h10_2 e v0 B0 hE ok
 | 3,_=>exact h10_3 e v0 B0 hE ok
 | 4,_=>exact h10_4 e v0 B0 hE ok
 | 5,_=>exact h10_5 e v0 B0 hE ok
 | 6,_=>exact h10_6 e v0 B0 hE ok
 | 7,_=>exact h10_7 e v0 B0 hE ok
 | 8,_=>exact h10_8 e v0 B0 hE ok
 | _+9,h=>exact absurd h (by omega)
def D11 (i:Nat):Nat:=([72,73]:List Nat).getD i 0
def V11 (e:Pr) (z:Unit) (i:Nat):Option Value:=([.bool e.b,.bool (!e.b)]:List Value)[i]?
def U11 (e:Pr):Unit->(Nat->Bool)->World->Prop:=Nf.Uc 999 [] (fun _ _=>True)
def I11 (e:Pr) (v0:World) (B0:Nat->Prop):=Nf.Ki 2 151 D11 (V11 e) (base6 e) (Nf.Xc v0 B0 (U11 e))
theorem h11_0 (e:Pr) (v0:World) (B0:Nat->Prop) (hE:Ev e v0):Nf.Hands Tryz.prog m0 (base 3) k cs (ops 11) (I11 e v0 B0) 0:=by
 refine Nf.hands_op good (fun i=>rfl) (o:=((ops 11)[0]?).getD default) (by kernel_rfl) (by kernel_rfl) (by decide) (by decide) (by rfl) (x:=fun z=>.bool e.b) (fun z=>rfl) (by decide) (by kernel_rfl) ?_ (fun z L a hk hD=>Nf.wanted_none (by kernel_rfl)) ?_
 ·
  exact fun z L v hu hD=>hu.put (by decide) (fun h=>absurd h (by decide))
 ·
  intro z L a v hk be hu hD t d
  have x7:a.eval (.tmp 7)=.bool e.b:=Nf.eval_tmp (hk.bs (7,.bool e.b) (by simp[base6]))
  exact Nf.ev_move (x:=.tmp 7) (by kernel_rfl) x7
theorem h11_1 (e:Pr) (v0:World) (B0:Nat->Prop) (hE:Ev e v0):Nf.Hands Tryz.prog m0 (base 3) k cs (ops 11) (I11 e v0 B0) 1:=by
 refine Nf.hands_op good (fun i=>rfl) (o:=((ops 11)[1]?).getD default) (by kernel_rfl) (by kernel_rfl) (by decide) (by decide) (by rfl) (x:=fun z=>.bool (!e.b)) (fun z=>rfl) (by decide) (by kernel_rfl) ?_ (fun z L a hk hD=>Nf.wanted_none (by kernel_rfl)) ?_
 ·
  exact fun z L v hu hD=>hu.put (by decide) (fun h=>absurd h (by decide))
 ·
  intro z L a v hk be hu hD t d
  have x72:a.eval (.tmp 72)=.bool e.b:=Nf.eval_tmp (hk.kn 0 _ (by decide) (Nf.dep_at hD (by kernel_rfl)) rfl)
  exact ev_not (T:=4) (x:=.tmp 72) (c:=e.b) (by kernel_rfl) x72
theorem hands11 (e:Pr) (v0:World) (B0:Nat->Prop) (hE:Ev e v0):∀ i,i<(ops 11).size->Nf.Hands Tryz.prog m0 (base 3) k cs (ops 11) (I11 e v0 B0) i:=by
 intro i hi
 have hi':i<2:=by
  have e:(ops 11).size=2:=by kernel_rfl
  omega
 clear hi
 match i,hi' with
 | 0,_=>exact h11_0 e v0 B0 hE
 | 1,_=>exact h11_1 e v0 B0 hE
 | _+2,h=>exact absurd h (by omega)
def D12 (i:Nat):Nat:=([74,75,76,2]:List Nat).getD i 0
def V12 (e:Pr) (z:Unit) (i:Nat):Option Value:=([pX e,pG e,.bool true,.bool true]:List Value)[i]?
def U12 (e:Pr):Unit->(Nat->Bool)->World->Prop:=Nf.Uc 999 [] (fun _ _=>True)
def I12 (e:Pr) (v0:World) (B0:Nat->Prop):=Nf.Ki 4 151 D12 (V12 e) (baseN e) (Nf.Xc v0 B0 (U12 e))
theorem h12_0 (e:Pr) (v0:World) (B0:Nat->Prop) (hE:Ev e v0) (hML:e.M=e.L):Nf.Hands Tryz.prog m0 (base 3) k cs (ops 12) (I12 e v0 B0) 0:=by
 refine Nf.hands_op good (fun i=>rfl) (o:=((ops 12)[0]?).getD default) (by kernel_rfl) (by kernel_rfl) (by decide) (by decide) (by rfl) (x:=fun z=>pX e) (fun z=>rfl) (by decide) (by kernel_rfl) ?_ (fun z L a hk hD=>Nf.wanted_none (by kernel_rfl)) ?_
 ·
  exact fun z L v hu hD=>hu.put (by decide) (fun h=>absurd h (by decide))
 ·
  intro z L a v hk be hu hD t d
  have x6:a.eval (.tmp 6)=pX e:=Nf.eval_tmp (hk.bs (6,pX e) (by simp[baseN]))
  exact Nf.ev_move (x:=.tmp 6) (by kernel_rfl) x6
theorem h12_1 (e:Pr) (v0:World) (B0:Nat->Prop) (hE:Ev e v0) (hML:e.M=e.L):Nf.Hands Tryz.prog m0 (base 3) k cs (ops 12) (I12 e v0 B0) 1:=by
 refine Nf.hands_op good (fun i=>rfl) (o:=((ops 12)[1]?).getD default) (by kernel_rfl) (by kernel_rfl) (by decide) (by decide) (by rfl) (x:=fun z=>pG e) (fun z=>rfl) (by decide) (by kernel_rfl) ?_ (fun z L a hk hD=>Nf.wanted_none (by kernel_rfl)) ?_
 ·
  exact fun z L v hu hD=>hu.put (by decide) (fun h=>absurd h (by decide))
 ·
  intro z L a v hk be hu hD t d
  have x3:a.eval (.tmp 3)=pG e:=Nf.eval_tmp (hk.bs (3,pG e) (by simp[baseN]))
  exact Nf.ev_move (x:=.tmp 3) (by kernel_rfl) x3
theorem h12_2 (e:Pr) (v0:World) (B0:Nat->Prop) (hE:Ev e v0) (hML:e.M=e.L):Nf.Hands Tryz.prog m0 (base 3) k cs (ops 12) (I12 e v0 B0) 2:=by
 refine Nf.hands_plain good quiets (o:=((ops 12)[2]?).getD default) (by kernel_rfl) (by kernel_rfl) (by decide) (by decide) (by rfl) (by decide) (f:=10) (args:=#[.tmp 74,.tmp 75]) (ats:=#[24,24]) (by kernel_rfl) Tryz.func10 (by decide) rfl (by kernel_rfl) (by kernel_rfl) (fun i=>rfl) (x:=fun z=>.bool true) (fun z=>rfl) ?_ (fun z L a hk hD=>Nf.wanted_none (by kernel_rfl)) ?_
 ·
  exact fun z L v v' hu kb=>(hu.bel (fun _=>trivial)).put (by decide) (fun h=>absurd h (by decide))
 ·
  intro z L a v hk be hu hD t d
  have x74:a.eval (.tmp 74)=pX e:=Nf.eval_tmp (hk.kn 0 _ (by decide) (Nf.dep_at hD (by kernel_rfl)) rfl)
  have x75:a.eval (.tmp 75)=pG e:=Nf.eval_tmp (hk.kn 1 _ (by decide) (Nf.dep_at hD (by kernel_rfl)) rfl)
  rw[show ((#[.tmp 74,.tmp 75]:Array Operand).map a.eval)=#[pX e,pG e] from by simp[x74,x75]]
  have E:=(hE.bel be).tape t d
  have hl:e.m2=e.m:=by rw[<- E.ml2,<- E.ml,hML]
  have C:=Rp.likeGroup_same e.p2 e.p e.q2 e.q e.M _ E.rx (by rw[hML];exact E.rg) E.sM
  rw[E.ml2] at C
  show Calls Tryz.prog 10 #[.slice e.p2 e.m2 e.q2,.slice e.p e.m e.q] _ _
  rw[<- hl]
  exact C
theorem h12_3 (e:Pr) (v0:World) (B0:Nat->Prop) (hE:Ev e v0) (hML:e.M=e.L):Nf.Hands Tryz.prog m0 (base 3) k cs (ops 12) (I12 e v0 B0) 3:=by
 refine Nf.hands_op good (fun i=>rfl) (o:=((ops 12)[3]?).getD default) (by kernel_rfl) (by kernel_rfl) (by decide) (by decide) (by rfl) (x:=fun z=>.bool true) (fun z=>rfl) (by decide) (by kernel_rfl) ?_ (fun z L a hk hD=>Nf.wanted_none (by kernel_rfl)) ?_
 ·
  exact fun z L v hu hD=>hu.put (by decide) (fun h=>absurd h (by decide))
 ·
  intro z L a v hk be hu hD t d
  have x76:a.eval (.tmp 76)=.bool true:=Nf.eval_tmp (hk.kn 2 _ (by decide) (Nf.dep_at hD (by kernel_rfl)) rfl)
  exact Nf.ev_assign (x:=.tmp 76) (by kernel_rfl) x76
theorem hands12 (e:Pr) (v0:World) (B0:Nat->Prop) (hE:Ev e v0) (hML:e.M=e.L):∀ i,i<(ops 12).size->Nf.Hands Tryz.prog m0 (base 3) k cs (ops 12) (I12 e v0 B0) i:=by
 intro i hi
 have hi':i<4:=by
  have e:(ops 12).size=4:=by kernel_rfl
  omega
 clear hi
 match i,hi' with
 | 0,_=>exact h12_0 e v0 B0 hE hML
 | 1,_=>exact h12_1 e v0 B0 hE hML
 | 2,_=>exact h12_2 e v0 B0 hE hML
 | 3,_=>exact h12_3 e v0 B0 hE hML
 | _+4,h=>exact absurd h (by omega)
end Go.Proofs.YtkeapmmochpcfaaGreat.Gg
namespace Go.Proofs.YtkeapmmochpcfaaGreat.Gg
open Go Go.Conc Go.ChangeShapes Go.WideShapes Go.ChangeAt Go.RowKit
open Nf (Stand Bel Pz cutN restN EndQ HasEnd on)
open Bo (Box)
open Vv (Sl sv hidIt)
open Sd (K good quiets whole_stand)
variable {m0 : Machine} {k : List Item} {cs : List Frame}
structure Ix where
 bg:Nat
 og:Nat
 bx:Nat
 ox:Nat
 tn:Nat
 fn:Nat
 s1:Sl
 r1:Sl
 s2:Sl
 r2:Sl
 s3:Sl
 r3:Sl
structure Ei (e:Pr) (x:Ix) (v:World):Prop where
 ev:Ev e v
 ok:Rp.okG e.L=true
 tl:Rp.TellR e.L e.M x.fn x.tn
 pg:e.p=some ⟨x.bg,x.og,none⟩
 px:e.p2=some ⟨x.bx,x.ox,none⟩
 ft:e.t=(x.tn:Int)
 ff:e.f=(x.fn:Int)
 lt:x.tn<e.m
 lf:x.fn<e.m
 lx:x.tn<e.m2
 c1:v.cell? ⟨x.bg,x.og+x.tn*2,none⟩=some (sv x.s1)
 d1:v.cell? ⟨x.bg,x.og+x.tn*2+1,none⟩=some (sv x.r1)
 c2:v.cell? ⟨x.bg,x.og+x.fn*2,none⟩=some (sv x.s2)
 d2:v.cell? ⟨x.bg,x.og+x.fn*2+1,none⟩=some (sv x.r2)
 c3:v.cell? ⟨x.bx,x.ox+x.tn*2,none⟩=some (sv x.s3)
 d3:v.cell? ⟨x.bx,x.ox+x.tn*2+1,none⟩=some (sv x.r3)
 E1:Rp.RdE v x.s1 (Rp.rat e.L x.tn).1
 M1:Rp.RdM v x.r1 (Rp.rat e.L x.tn).2
 E2:Rp.RdE v x.s2 (Rp.rat e.L x.fn).1
 M2:Rp.RdM v x.r2 (Rp.rat e.L x.fn).2
 E3:Rp.RdE v x.s3 (Rp.rat e.M x.tn).1
 M3:Rp.RdM v x.r3 (Rp.rat e.M x.tn).2
theorem cell_bel {v v':World} {b o:Nat} {u:Value} (h:v.cell? ⟨b,o,none⟩=some u) (k:Bel v.heap.size v v'):v'.cell? ⟨b,o,none⟩=some u:=by
 rw[World.cell?_of_block (w:=v) (k.block b (World.block_lt_of_cell? _ _ h))]
 exact h
theorem Ei.bel {e:Pr} {x:Ix} {v v':World} (h:Ei e x v) (k:Bel v.heap.size v v'):Ei e x v':=⟨h.ev.bel k,h.ok,h.tl,h.pg,h.px,h.ft,h.ff,h.lt,h.lf,h.lx,cell_bel h.c1 k,cell_bel h.d1 k,cell_bel h.c2 k,cell_bel h.d2 k,cell_bel h.c3 k,cell_bel h.d3 k,h.E1.bel k,h.M1.bel k,h.E2.bel k,h.M2.bel k,h.E3.bel k,h.M3.bel k⟩
theorem Ei.tape {e:Pr} {x:Ix} {v:World} (h:Ei e x v) (t:Nf.Tp) (d:Nat):Ei e x (on v t d):=⟨h.ev.tape t d,h.ok,h.tl,h.pg,h.px,h.ft,h.ff,h.lt,h.lf,h.lx,h.c1,h.d1,h.c2,h.d2,h.c3,h.d3,h.E1.tape,h.M1.tape,h.E2.tape,h.M2.tape,h.E3.tape,h.M3.tape⟩
theorem Ei.ml {e:Pr} {x:Ix} {v:World} (h:Ei e x v):x.tn<e.L.length∧x.fn<e.L.length:=⟨by rw[h.ev.ml];exact h.lt,by rw[h.ev.ml];exact h.lf⟩
def D18 (i:Nat):Nat:=([99,100,101,102,103,104,105,106,107,108,109,98,110,111,12,13]:List Nat).getD i 0
def V18 (e:Pr) (x:Ix) (z:Sl) (i:Nat):Option Value:=([pG e,.int .i64 e.t,.pointer (some ⟨x.bg,x.og+x.tn*2,none⟩),.pointer (some ⟨x.bg,x.og+x.tn*2,none⟩),sv x.s1,pG e,.int .i64 e.f,.pointer (some ⟨x.bg,x.og+x.fn*2,none⟩),.pointer (some ⟨x.bg,x.og+x.fn*2,none⟩),sv x.s2,.tuple #[sv z,.bool true],.tuple #[sv z,.bool true],sv z,.bool true,sv z,.bool true]:List Value)[i]?
def U18 (e:Pr) (x:Ix):Sl->(Nat->Bool)->World->Prop:=Nf.Uc 10 [11,12,14] (fun z v=>Rp.RdE v z (Rp.rat e.M x.tn).1)
def I18 (e:Pr) (x:Ix) (v0:World) (B0:Nat->Prop):=Nf.Ki 16 151 D18 (V18 e x) (base6 e) (Nf.Xc v0 B0 (U18 e x))
theorem V18_ne {e:Pr} {x:Ix} {z z':Sl} {j:Nat} (hj0:j≠10) (hj1:j≠11) (hj2:j≠12) (hj3:j≠14):V18 e x z j=V18 e x z' j:=by
 match j,hj0,hj1,hj2,hj3 with
 | 0,hj0,hj1,hj2,hj3=>exact rfl
 | 1,hj0,hj1,hj2,hj3=>exact rfl
 | 2,hj0,hj1,hj2,hj3=>exact rfl
 | 3,hj0,hj1,hj2,hj3=>exact rfl
 | 4,hj0,hj1,hj2,hj3=>exact rfl
 | 5,hj0,hj1,hj2,hj3=>exact rfl
 | 6,hj0,hj1,hj2,hj3=>exact rfl
 | 7,hj0,hj1,hj2,hj3=>exact rfl
 | 8,hj0,hj1,hj2,hj3=>exact rfl
 | 9,hj0,hj1,hj2,hj3=>exact rfl
 | 10,hj0,hj1,hj2,hj3=>exact absurd rfl hj0
 | 11,hj0,hj1,hj2,hj3=>exact absurd rfl hj1
 | 12,hj0,hj1,hj2,hj3=>exact absurd rfl hj2
 | 13,hj0,hj1,hj2,hj3=>exact rfl
 | 14,hj0,hj1,hj2,hj3=>exact absurd rfl hj3
 | 15,hj0,hj1,hj2,hj3=>exact rfl
 | _+16,_,_,_,_=>exact rfl
theorem h18_0 (e:Pr) (x:Ix) (v0:World) (B0:Nat->Prop) (hE:Ei e x v0):Nf.Hands Tryz.prog m0 (base 3) k cs (ops 18) (I18 e x v0 B0) 0:=by
 refine Nf.hands_op good (fun i=>rfl) (o:=((ops 18)[0]?).getD default) (by kernel_rfl) (by kernel_rfl) (by decide) (by decide) (by rfl) (x:=fun z=>pG e) (fun z=>rfl) (by decide) (by kernel_rfl) ?_ (fun z L a hk hD=>Nf.wanted_none (by kernel_rfl)) ?_
 ·
  exact fun z L v hu hD=>hu.put (by decide) (fun h=>absurd h (by decide))
 ·
  intro z L a v hk be hu hD t d
  have x3:a.eval (.tmp 3)=pG e:=Nf.eval_tmp (hk.bs (3,pG e) (by simp[base6]))
  exact Nf.ev_move (x:=.tmp 3) (by kernel_rfl) x3
theorem h18_1 (e:Pr) (x:Ix) (v0:World) (B0:Nat->Prop) (hE:Ei e x v0):Nf.Hands Tryz.prog m0 (base 3) k cs (ops 18) (I18 e x v0 B0) 1:=by
 refine Nf.hands_op good (fun i=>rfl) (o:=((ops 18)[1]?).getD default) (by kernel_rfl) (by kernel_rfl) (by decide) (by decide) (by rfl) (x:=fun z=>.int .i64 e.t) (fun z=>rfl) (by decide) (by kernel_rfl) ?_ (fun z L a hk hD=>Nf.wanted_none (by kernel_rfl)) ?_
 ·
  exact fun z L v hu hD=>hu.put (by decide) (fun h=>absurd h (by decide))
 ·
  intro z L a v hk be hu hD t d
  have x5:a.eval (.tmp 5)=.int .i64 e.t:=Nf.eval_tmp (hk.bs (5,.int .i64 e.t) (by simp[base6]))
  exact Nf.ev_move (x:=.tmp 5) (by kernel_rfl) x5
theorem h18_2 (e:Pr) (x:Ix) (v0:World) (B0:Nat->Prop) (hE:Ei e x v0):Nf.Hands Tryz.prog m0 (base 3) k cs (ops 18) (I18 e x v0 B0) 2:=by
 refine Nf.hands_op good (fun i=>rfl) (o:=((ops 18)[2]?).getD default) (by kernel_rfl) (by kernel_rfl) (by decide) (by decide) (by rfl) (x:=fun z=>.pointer (some ⟨x.bg,x.og+x.tn*2,none⟩)) (fun z=>rfl) (by decide) (by kernel_rfl) ?_ (fun z L a hk hD=>Nf.wanted_none (by kernel_rfl)) ?_
 ·
  exact fun z L v hu hD=>hu.put (by decide) (fun h=>absurd h (by decide))
 ·
  intro z L a v hk be hu hD t d
  have x99:a.eval (.tmp 99)=pG e:=Nf.eval_tmp (hk.kn 0 _ (by decide) (Nf.dep_at hD (by kernel_rfl)) rfl)
  have x100:a.eval (.tmp 100)=.int .i64 e.t:=Nf.eval_tmp (hk.kn 1 _ (by decide) (Nf.dep_at hD (by kernel_rfl)) rfl)
  exact ev_index (x:=.tmp 99) (y:=.tmp 100) (by kernel_rfl) (x99.trans (show pG e=.slice (some ⟨x.bg,x.og,none⟩) _ _ by rw[pG,hE.pg])) x100 hE.ft hE.lt
theorem h18_3 (e:Pr) (x:Ix) (v0:World) (B0:Nat->Prop) (hE:Ei e x v0):Nf.Hands Tryz.prog m0 (base 3) k cs (ops 18) (I18 e x v0 B0) 3:=by
 refine Nf.hands_op good (fun i=>rfl) (o:=((ops 18)[3]?).getD default) (by kernel_rfl) (by kernel_rfl) (by decide) (by decide) (by rfl) (x:=fun z=>.pointer (some ⟨x.bg,x.og+x.tn*2,none⟩)) (fun z=>rfl) (by decide) (by kernel_rfl) ?_ (fun z L a hk hD=>Nf.wanted_none (by kernel_rfl)) ?_
 ·
  exact fun z L v hu hD=>hu.put (by decide) (fun h=>absurd h (by decide))
 ·
  intro z L a v hk be hu hD t d
  have x101:a.eval (.tmp 101)=.pointer (some ⟨x.bg,x.og+x.tn*2,none⟩):=Nf.eval_tmp (hk.kn 2 _ (by decide) (Nf.dep_at hD (by kernel_rfl)) rfl)
  exact ev_field0 (x:=.tmp 101) (by kernel_rfl) x101
theorem h18_4 (e:Pr) (x:Ix) (v0:World) (B0:Nat->Prop) (hE:Ei e x v0):Nf.Hands Tryz.prog m0 (base 3) k cs (ops 18) (I18 e x v0 B0) 4:=by
 refine Nf.hands_op good (fun i=>rfl) (o:=((ops 18)[4]?).getD default) (by kernel_rfl) (by kernel_rfl) (by decide) (by decide) (by rfl) (x:=fun z=>sv x.s1) (fun z=>rfl) (by decide) (by kernel_rfl) ?_ (fun z L a hk hD=>Nf.wanted_none (by kernel_rfl)) ?_
 ·
  exact fun z L v hu hD=>hu.put (by decide) (fun h=>absurd h (by decide))
 ·
  intro z L a v hk be hu hD t d
  have x102:a.eval (.tmp 102)=.pointer (some ⟨x.bg,x.og+x.tn*2,none⟩):=Nf.eval_tmp (hk.kn 3 _ (by decide) (Nf.dep_at hD (by kernel_rfl)) rfl)
  exact ev_loadE (x:=.tmp 102) (by kernel_rfl) x102 ((hE.bel be).tape t d).c1
theorem h18_5 (e:Pr) (x:Ix) (v0:World) (B0:Nat->Prop) (hE:Ei e x v0):Nf.Hands Tryz.prog m0 (base 3) k cs (ops 18) (I18 e x v0 B0) 5:=by
 refine Nf.hands_op good (fun i=>rfl) (o:=((ops 18)[5]?).getD default) (by kernel_rfl) (by kernel_rfl) (by decide) (by decide) (by rfl) (x:=fun z=>pG e) (fun z=>rfl) (by decide) (by kernel_rfl) ?_ (fun z L a hk hD=>Nf.wanted_none (by kernel_rfl)) ?_
 ·
  exact fun z L v hu hD=>hu.put (by decide) (fun h=>absurd h (by decide))
 ·
  intro z L a v hk be hu hD t d
  have x3:a.eval (.tmp 3)=pG e:=Nf.eval_tmp (hk.bs (3,pG e) (by simp[base6]))
  exact Nf.ev_move (x:=.tmp 3) (by kernel_rfl) x3
theorem h18_6 (e:Pr) (x:Ix) (v0:World) (B0:Nat->Prop) (hE:Ei e x v0):Nf.Hands Tryz.prog m0 (base 3) k cs (ops 18) (I18 e x v0 B0) 6:=by
 refine Nf.hands_op good (fun i=>rfl) (o:=((ops 18)[6]?).getD default) (by kernel_rfl) (by kernel_rfl) (by decide) (by decide) (by rfl) (x:=fun z=>.int .i64 e.f) (fun z=>rfl) (by decide) (by kernel_rfl) ?_ (fun z L a hk hD=>Nf.wanted_none (by kernel_rfl)) ?_
 ·
  exact fun z L v hu hD=>hu.put (by decide) (fun h=>absurd h (by decide))
 ·
  intro z L a v hk be hu hD t d
  have x4:a.eval (.tmp 4)=.int .i64 e.f:=Nf.eval_tmp (hk.bs (4,.int .i64 e.f) (by simp[base6]))
  exact Nf.ev_move (x:=.tmp 4) (by kernel_rfl) x4
theorem h18_7 (e:Pr) (x:Ix) (v0:World) (B0:Nat->Prop) (hE:Ei e x v0):Nf.Hands Tryz.prog m0 (base 3) k cs (ops 18) (I18 e x v0 B0) 7:=by
 refine Nf.hands_op good (fun i=>rfl) (o:=((ops 18)[7]?).getD default) (by kernel_rfl) (by kernel_rfl) (by decide) (by decide) (by rfl) (x:=fun z=>.pointer (some ⟨x.bg,x.og+x.fn*2,none⟩)) (fun z=>rfl) (by decide) (by kernel_rfl) ?_ (fun z L a hk hD=>Nf.wanted_none (by kernel_rfl)) ?_
 ·
  exact fun z L v hu hD=>hu.put (by decide) (fun h=>absurd h (by decide))
 ·
  intro z L a v hk be hu hD t d
  have x104:a.eval (.tmp 104)=pG e:=Nf.eval_tmp (hk.kn 5 _ (by decide) (Nf.dep_at hD (by kernel_rfl)) rfl)
  have x105:a.eval (.tmp 105)=.int .i64 e.f:=Nf.eval_tmp (hk.kn 6 _ (by decide) (Nf.dep_at hD (by kernel_rfl)) rfl)
  exact ev_index (x:=.tmp 104) (y:=.tmp 105) (by kernel_rfl) (x104.trans (show pG e=.slice (some ⟨x.bg,x.og,none⟩) _ _ by rw[pG,hE.pg])) x105 hE.ff hE.lf
theorem h18_8 (e:Pr) (x:Ix) (v0:World) (B0:Nat->Prop) (hE:Ei e x v0):Nf.Hands Tryz.prog m0 (base 3) k cs (ops 18) (I18 e x v0 B0) 8:=by
 refine Nf.hands_op good (fun i=>rfl) (o:=((ops 18)[8]?).getD default) (by kernel_rfl) (by kernel_rfl) (by decide) (by decide) (by rfl) (x:=fun z=>.pointer (some ⟨x.bg,x.og+x.fn*2,none⟩)) (fun z=>rfl) (by decide) (by kernel_rfl) ?_ (fun z L a hk hD=>Nf.wanted_none (by kernel_rfl)) ?_
 ·
  exact fun z L v hu hD=>hu.put (by decide) (fun h=>absurd h (by decide))
 ·
  intro z L a v hk be hu hD t d
  have x106:a.eval (.tmp 106)=.pointer (some ⟨x.bg,x.og+x.fn*2,none⟩):=Nf.eval_tmp (hk.kn 7 _ (by decide) (Nf.dep_at hD (by kernel_rfl)) rfl)
  exact ev_field0 (x:=.tmp 106) (by kernel_rfl) x106
theorem h18_9 (e:Pr) (x:Ix) (v0:World) (B0:Nat->Prop) (hE:Ei e x v0):Nf.Hands Tryz.prog m0 (base 3) k cs (ops 18) (I18 e x v0 B0) 9:=by
 refine Nf.hands_op good (fun i=>rfl) (o:=((ops 18)[9]?).getD default) (by kernel_rfl) (by kernel_rfl) (by decide) (by decide) (by rfl) (x:=fun z=>sv x.s2) (fun z=>rfl) (by decide) (by kernel_rfl) ?_ (fun z L a hk hD=>Nf.wanted_none (by kernel_rfl)) ?_
 ·
  exact fun z L v hu hD=>hu.put (by decide) (fun h=>absurd h (by decide))
 ·
  intro z L a v hk be hu hD t d
  have x107:a.eval (.tmp 107)=.pointer (some ⟨x.bg,x.og+x.fn*2,none⟩):=Nf.eval_tmp (hk.kn 8 _ (by decide) (Nf.dep_at hD (by kernel_rfl)) rfl)
  exact ev_loadE (x:=.tmp 107) (by kernel_rfl) x107 ((hE.bel be).tape t d).c2
theorem h18_10 (e:Pr) (x:Ix) (v0:World) (B0:Nat->Prop) (hE:Ei e x v0):Nf.Hands Tryz.prog m0 (base 3) k cs (ops 18) (I18 e x v0 B0) 10:=by
 refine Nf.hands_call good quiets (o:=((ops 18)[10]?).getD default) (by kernel_rfl) (by kernel_rfl) (by decide) (by decide) (by rfl) (by decide) (f:=15) (args:=#[.tmp 103,.tmp 108]) (ats:=#[29,29]) (by kernel_rfl) Tryz.func15 (by decide) rfl (by kernel_rfl) (by kernel_rfl) (fun i=>rfl) (R:=fun z v u w=>∃ y:Sl,u=.tuple #[sv y,.bool true]∧Rp.RdE w y (Rp.rat e.M x.tn).1∧Bel v.heap.size v w) ?_ ?_ (fun z L a hk hD=>Nf.wanted_none (by kernel_rfl)) ?_
 ·
  exact fun z v u w t d ⟨y,h1,h2,h3⟩=>⟨y,h1,h2.tape,h3.on v.tape t v.drawn d⟩
 ·
  rintro z L v B u v' ⟨be,bb,hu⟩ hD hL ⟨y,rfl,hq,kb⟩
  refine⟨y,rfl,fun j u hj hv=>?_,be.trans (kb.mono be.size),bb,Nf.Uc.brought hq⟩
  by_cases h0:j=10
  ·
   subst h0;rw[hL] at hj;cases hj
  ·
   by_cases h1:j=11
   ·
    subst h1;have:=hu.2 11 (by decide) hj;rw[hL] at this;cases this
   ·
    by_cases h2:j=12
    ·
     subst h2;have:=hu.2 12 (by decide) hj;rw[hL] at this;cases this
    ·
     by_cases h3:j=14
     ·
      subst h3;have:=hu.2 14 (by decide) hj;rw[hL] at this;cases this
     ·
      rw[<- hv]
      exact V18_ne h0 h1 h2 h3
 ·
  rintro z L a v B hk ⟨be,_,hu⟩ hD t d
  have x103:a.eval (.tmp 103)=sv x.s1:=Nf.eval_tmp (hk.kn 4 _ (by decide) (Nf.dep_at hD (by kernel_rfl)) rfl)
  have x108:a.eval (.tmp 108)=sv x.s2:=Nf.eval_tmp (hk.kn 9 _ (by decide) (Nf.dep_at hD (by kernel_rfl)) rfl)
  rw[show ((#[.tmp 103,.tmp 108]:Array Operand).map a.eval)=#[sv x.s1,sv x.s2] from by simp[x103,x108]]
  have E:=(hE.bel be).tape t d
  have C:=En.impl_Joined x.s1.1 x.s2.1 x.s1.2.2 x.s2.2.2 (Rp.rat e.L x.tn).1 (Rp.rat e.L x.fn).1 _ E.E1.rd E.E2.rd E.E1.le E.E2.le (Nat.le_trans E.E1.le E.E1.cap) (Nat.le_trans E.E2.le E.E2.cap) (fun j hj=>E.ev.sm.s x.tn E.ml.1 j hj) (fun j hj=>E.ev.sm.s x.fn E.ml.2 j hj)
  rw[<- E.E1.len,<- E.E2.len] at C
  have tj:=Rp.told_join E.ok E.tl E.ml.2 E.ml.1
  refine C.mono (fun en w' hz=>?_)
  obtain⟨u,J,rfl,h1,o,kk⟩:=hz
  rw[tj.1]
  rw[tj.2] at h1
  obtain⟨y,rfl⟩:=Rp.slE o
  refine⟨_,rfl,y,rfl,?_,Nf.from_below kk⟩
  rw[<- En.toB_inj h1]
  exact Rp.rdE_of o
theorem h18_11 (e:Pr) (x:Ix) (v0:World) (B0:Nat->Prop) (hE:Ei e x v0):Nf.Hands Tryz.prog m0 (base 3) k cs (ops 18) (I18 e x v0 B0) 11:=by
 refine Nf.hands_op good (fun i=>rfl) (o:=((ops 18)[11]?).getD default) (by kernel_rfl) (by kernel_rfl) (by decide) (by decide) (by rfl) (x:=fun z=>.tuple #[sv z,.bool true]) (fun z=>rfl) (by decide) (by kernel_rfl) ?_ (fun z L a hk hD=>Nf.wanted_none (by kernel_rfl)) ?_
 ·
  exact fun z L v hu hD=>hu.put (by decide) (fun _=>Nf.dep_at (j:=10) hD (by kernel_rfl))
 ·
  intro z L a v hk be hu hD t d
  have x109:a.eval (.tmp 109)=.tuple #[sv z,.bool true]:=Nf.eval_tmp (hk.kn 10 _ (by decide) (Nf.dep_at hD (by kernel_rfl)) rfl)
  exact Nf.ev_move (x:=.tmp 109) (by kernel_rfl) x109
theorem h18_12 (e:Pr) (x:Ix) (v0:World) (B0:Nat->Prop) (hE:Ei e x v0):Nf.Hands Tryz.prog m0 (base 3) k cs (ops 18) (I18 e x v0 B0) 12:=by
 refine Nf.hands_op good (fun i=>rfl) (o:=((ops 18)[12]?).getD default) (by kernel_rfl) (by kernel_rfl) (by decide) (by decide) (by rfl) (x:=fun z=>sv z) (fun z=>rfl) (by decide) (by kernel_rfl) ?_ (fun z L a hk hD=>Nf.wanted_none (by kernel_rfl)) ?_
 ·
  exact fun z L v hu hD=>hu.put (by decide) (fun _=>hu.2 11 (by decide) (Nf.dep_at (j:=11) hD (by kernel_rfl)))
 ·
  intro z L a v hk be hu hD t d
  have x98:a.eval (.tmp 98)=.tuple #[sv z,.bool true]:=Nf.eval_tmp (hk.kn 11 _ (by decide) (Nf.dep_at hD (by kernel_rfl)) rfl)
  exact Nf.ev_extract (x:=.tmp 98) (i:=0) (by kernel_rfl) x98 rfl
theorem h18_13 (e:Pr) (x:Ix) (v0:World) (B0:Nat->Prop) (hE:Ei e x v0):Nf.Hands Tryz.prog m0 (base 3) k cs (ops 18) (I18 e x v0 B0) 13:=by
 refine Nf.hands_op good (fun i=>rfl) (o:=((ops 18)[13]?).getD default) (by kernel_rfl) (by kernel_rfl) (by decide) (by decide) (by rfl) (x:=fun z=>.bool true) (fun z=>rfl) (by decide) (by kernel_rfl) ?_ (fun z L a hk hD=>Nf.wanted_none (by kernel_rfl)) ?_
 ·
  exact fun z L v hu hD=>hu.put (by decide) (fun h=>absurd h (by decide))
 ·
  intro z L a v hk be hu hD t d
  have x98:a.eval (.tmp 98)=.tuple #[sv z,.bool true]:=Nf.eval_tmp (hk.kn 11 _ (by decide) (Nf.dep_at hD (by kernel_rfl)) rfl)
  exact Nf.ev_extract (x:=.tmp 98) (i:=1) (by kernel_rfl) x98 rfl
theorem h18_14 (e:Pr) (x:Ix) (v0:World) (B0:Nat->Prop) (hE:Ei e x v0):Nf.Hands Tryz.prog m0 (base 3) k cs (ops 18) (I18 e x v0 B0) 14:=by
 refine Nf.hands_op good (fun i=>rfl) (o:=((ops 18)[14]?).getD default) (by kernel_rfl) (by kernel_rfl) (by decide) (by decide) (by rfl) (x:=fun z=>sv z) (fun z=>rfl) (by decide) (by kernel_rfl) ?_ (fun z L a hk hD=>Nf.wanted_none (by kernel_rfl)) ?_
 ·
  exact fun z L v hu hD=>hu.put (by decide) (fun _=>Nf.dep_at (j:=10) hD (by kernel_rfl))
 ·
  intro z L a v hk be hu hD t d
  have x110:a.eval (.tmp 110)=sv z:=Nf.eval_tmp (hk.kn 12 _ (by decide) (Nf.dep_at hD (by kernel_rfl)) rfl)
  exact Nf.ev_assign (x:=.tmp 110) (by kernel_rfl) x110
theorem h18_15 (e:Pr) (x:Ix) (v0:World) (B0:Nat->Prop) (hE:Ei e x v0):Nf.Hands Tryz.prog m0 (base 3) k cs (ops 18) (I18 e x v0 B0) 15:=by
 refine Nf.hands_op good (fun i=>rfl) (o:=((ops 18)[15]?).getD default) (by kernel_rfl) (by kernel_rfl) (by decide) (by decide) (by rfl) (x:=fun z=>.bool true) (fun z=>rfl) (by decide) (by kernel_rfl) ?_ (fun z L a hk hD=>Nf.wanted_none (by kernel_rfl)) ?_
 ·
  exact fun z L v hu hD=>hu.put (by decide) (fun h=>absurd h (by decide))
 ·
  intro z L a v hk be hu hD t d
  have x111:a.eval (.tmp 111)=.bool true:=Nf.eval_tmp (hk.kn 13 _ (by decide) (Nf.dep_at hD (by kernel_rfl)) rfl)
  exact Nf.ev_assign (x:=.tmp 111) (by kernel_rfl) x111
theorem hands18 (e:Pr) (x:Ix) (v0:World) (B0:Nat->Prop) (hE:Ei e x v0):∀ i,i<(ops 18).size->Nf.Hands Tryz.prog m0 (base 3) k cs (ops 18) (I18 e x v0 B0) i:=by
 intro i hi
 have hi':i<16:=by
  have e:(ops 18).size=16:=by kernel_rfl
  omega
 clear hi
 match i,hi' with
 | 0,_=>exact h18_0 e x v0 B0 hE
 | 1,_=>exact h18_1 e x v0 B0 hE
 | 2,_=>exact h18_2 e x v0 B0 hE
 | 3,_=>exact h18_3 e x v0 B0 hE
 | 4,_=>exact h18_4 e x v0 B0 hE
 | 5,_=>exact h18_5 e x v0 B0 hE
 | 6,_=>exact h18_6 e x v0 B0 hE
 | 7,_=>exact h18_7 e x v0 B0 hE
 | 8,_=>exact h18_8 e x v0 B0 hE
 | 9,_=>exact h18_9 e x v0 B0 hE
 | 10,_=>exact h18_10 e x v0 B0 hE
 | 11,_=>exact h18_11 e x v0 B0 hE
 | 12,_=>exact h18_12 e x v0 B0 hE
 | 13,_=>exact h18_13 e x v0 B0 hE
 | 14,_=>exact h18_14 e x v0 B0 hE
 | 15,_=>exact h18_15 e x v0 B0 hE
 | _+16,h=>exact absurd h (by omega)
end Go.Proofs.YtkeapmmochpcfaaGreat.Gg
namespace Go.Proofs.YtkeapmmochpcfaaGreat.Gg
open Go Go.Conc Go.ChangeShapes Go.WideShapes Go.ChangeAt Go.RowKit
open Nf (Stand Bel Pz cutN restN EndQ HasEnd on)
open Bo (Box)
open Vv (Sl sv hidIt)
open Sd (K good quiets whole_stand)
variable {m0 : Machine} {k : List Item} {cs : List Frame}
def base19 (e:Pr) (j:Sl):List (Nat × Value):=[(3,pG e),(4,.int .i64 e.f),(5,.int .i64 e.t),(6,pX e),(8,.pointer (some ⟨e.b8,0,none⟩)),(12,sv j),(13,.bool true)]
def D19 (i:Nat):Nat:=([112,113,114,115,116,117,118,119,120,121,122,123,124,125,126,127,128,129,130,131,132,133,134,135,136,137,138,139,140,141,142,143,144,145,146,147,148,149,150,2]:List Nat).getD i 0
def V19 (e:Pr) (x:Ix) (j:Sl) (z:(Sl × Sl × Sl)) (i:Nat):Option Value:=([.bool true,.bool true,pX e,.int .i64 e.t,.pointer (some ⟨x.bx,x.ox+x.tn*2,none⟩),.pointer (some ⟨x.bx,x.ox+x.tn*2,none⟩),sv x.s3,sv j,.bool true,.bool true,.bool true,pX e,.int .i64 e.t,.pointer (some ⟨x.bx,x.ox+x.tn*2,none⟩),.pointer (some ⟨x.bx,x.ox+x.tn*2+1,none⟩),sv x.r3,pG e,.int .i64 e.t,.pointer (some ⟨x.bg,x.og+x.tn*2,none⟩),.pointer (some ⟨x.bg,x.og+x.tn*2+1,none⟩),sv x.r1,pG e,.int .i64 e.f,.pointer (some ⟨x.bg,x.og+x.fn*2,none⟩),.pointer (some ⟨x.bg,x.og+x.fn*2+1,none⟩),sv x.r2,sv z.1,.bool true,.bool true,.bool true,pX e,.agg #[sv z.2.1,sv z.2.2],.agg #[sv e.s,sv e.r],.bool true,.bool true,.bool true,pX e,.bool true,.bool true,.bool true]:List Value)[i]?
def U19 (e:Pr) (x:Ix) (j:Sl):(Sl × Sl × Sl)->(Nat->Bool)->World->Prop:=fun z L v=>Nf.Uc 26 [] (fun (z:Sl × Sl × Sl) v=>Rp.RdM v z.1 (Rp.rat e.M x.tn).2) z L v∧Nf.Uc 31 [] (fun (z:Sl × Sl × Sl) v=>Rp.RdE v z.2.1 e.J.1∧Rp.RdM v z.2.2 e.J.2) z L v
def I19 (e:Pr) (x:Ix) (j:Sl) (v0:World) (B0:Nat->Prop):=Nf.Ki 40 151 D19 (V19 e x j) (base19 e j) (Nf.Xc v0 B0 (U19 e x j))
theorem V19_ne {e:Pr} {x:Ix} {j:Sl} {y:Sl} {z:Sl × Sl × Sl} {i:Nat} (h:i≠26):V19 e x j z i=V19 e x j (y,z.2) i:=by
 match i,h with
 | 0,h=>exact rfl
 | 1,h=>exact rfl
 | 2,h=>exact rfl
 | 3,h=>exact rfl
 | 4,h=>exact rfl
 | 5,h=>exact rfl
 | 6,h=>exact rfl
 | 7,h=>exact rfl
 | 8,h=>exact rfl
 | 9,h=>exact rfl
 | 10,h=>exact rfl
 | 11,h=>exact rfl
 | 12,h=>exact rfl
 | 13,h=>exact rfl
 | 14,h=>exact rfl
 | 15,h=>exact rfl
 | 16,h=>exact rfl
 | 17,h=>exact rfl
 | 18,h=>exact rfl
 | 19,h=>exact rfl
 | 20,h=>exact rfl
 | 21,h=>exact rfl
 | 22,h=>exact rfl
 | 23,h=>exact rfl
 | 24,h=>exact rfl
 | 25,h=>exact rfl
 | 26,h=>exact absurd rfl h
 | 27,h=>exact rfl
 | 28,h=>exact rfl
 | 29,h=>exact rfl
 | 30,h=>exact rfl
 | 31,h=>exact rfl
 | 32,h=>exact rfl
 | 33,h=>exact rfl
 | 34,h=>exact rfl
 | 35,h=>exact rfl
 | 36,h=>exact rfl
 | 37,h=>exact rfl
 | 38,h=>exact rfl
 | 39,h=>exact rfl
 | _+40,_=>exact rfl
theorem V19_ne31 {e:Pr} {x:Ix} {j:Sl} {r:Sl × Sl} {z:Sl × Sl × Sl} {i:Nat} (h:i≠31):V19 e x j z i=V19 e x j (z.1,r) i:=by
 match i,h with
 | 0,h=>exact rfl
 | 1,h=>exact rfl
 | 2,h=>exact rfl
 | 3,h=>exact rfl
 | 4,h=>exact rfl
 | 5,h=>exact rfl
 | 6,h=>exact rfl
 | 7,h=>exact rfl
 | 8,h=>exact rfl
 | 9,h=>exact rfl
 | 10,h=>exact rfl
 | 11,h=>exact rfl
 | 12,h=>exact rfl
 | 13,h=>exact rfl
 | 14,h=>exact rfl
 | 15,h=>exact rfl
 | 16,h=>exact rfl
 | 17,h=>exact rfl
 | 18,h=>exact rfl
 | 19,h=>exact rfl
 | 20,h=>exact rfl
 | 21,h=>exact rfl
 | 22,h=>exact rfl
 | 23,h=>exact rfl
 | 24,h=>exact rfl
 | 25,h=>exact rfl
 | 26,h=>exact rfl
 | 27,h=>exact rfl
 | 28,h=>exact rfl
 | 29,h=>exact rfl
 | 30,h=>exact rfl
 | 31,h=>exact absurd rfl h
 | 32,h=>exact rfl
 | 33,h=>exact rfl
 | 34,h=>exact rfl
 | 35,h=>exact rfl
 | 36,h=>exact rfl
 | 37,h=>exact rfl
 | 38,h=>exact rfl
 | 39,h=>exact rfl
 | _+40,_=>exact rfl
theorem h19_0 (e:Pr) (x:Ix) (j:Sl) (v0:World) (B0:Nat->Prop) (hE:Ei e x v0) (hj:Rp.RdE v0 j (Rp.rat e.M x.tn).1):Nf.Hands Tryz.prog m0 (base 3) k cs (ops 19) (I19 e x j v0 B0) 0:=by
 refine Nf.hands_op good (fun i=>rfl) (o:=((ops 19)[0]?).getD default) (by kernel_rfl) (by kernel_rfl) (by decide) (by decide) (by rfl) (x:=fun z=>.bool true) (fun z=>rfl) (by decide) (by kernel_rfl) ?_ (fun z L a hk hD=>Nf.wanted_none (by kernel_rfl)) ?_
 ·
  exact fun z L v hu hD=>⟨hu.1.put (by decide) (fun h=>absurd h (by decide)),hu.2.put (by decide) (fun h=>absurd h (by decide))⟩
 ·
  intro z L a v hk be hu hD t d
  have x13:a.eval (.tmp 13)=.bool true:=Nf.eval_tmp (hk.bs (13,.bool true) (by simp[base19]))
  exact Nf.ev_move (x:=.tmp 13) (by kernel_rfl) x13
theorem h19_1 (e:Pr) (x:Ix) (j:Sl) (v0:World) (B0:Nat->Prop) (hE:Ei e x v0) (hj:Rp.RdE v0 j (Rp.rat e.M x.tn).1):Nf.Hands Tryz.prog m0 (base 3) k cs (ops 19) (I19 e x j v0 B0) 1:=by
 refine Nf.hands_op good (fun i=>rfl) (o:=((ops 19)[1]?).getD default) (by kernel_rfl) (by kernel_rfl) (by decide) (by decide) (by rfl) (x:=fun z=>.bool true) (fun z=>rfl) (by decide) (by kernel_rfl) ?_ (fun z L a hk hD=>Nf.wanted_none (by kernel_rfl)) ?_
 ·
  exact fun z L v hu hD=>⟨hu.1.put (by decide) (fun h=>absurd h (by decide)),hu.2.put (by decide) (fun h=>absurd h (by decide))⟩
 ·
  intro z L a v hk be hu hD t d
  have x112:a.eval (.tmp 112)=.bool true:=Nf.eval_tmp (hk.kn 0 _ (by decide) (Nf.dep_at hD (by kernel_rfl)) rfl)
  exact Nf.ev_move (x:=.tmp 112) (by kernel_rfl) x112
theorem h19_2 (e:Pr) (x:Ix) (j:Sl) (v0:World) (B0:Nat->Prop) (hE:Ei e x v0) (hj:Rp.RdE v0 j (Rp.rat e.M x.tn).1):Nf.Hands Tryz.prog m0 (base 3) k cs (ops 19) (I19 e x j v0 B0) 2:=by
 refine Nf.hands_op good (fun i=>rfl) (o:=((ops 19)[2]?).getD default) (by kernel_rfl) (by kernel_rfl) (by decide) (by decide) (by rfl) (x:=fun z=>pX e) (fun z=>rfl) (by decide) (by kernel_rfl) ?_ (fun z L a hk hD=>Nf.wanted_of (j:=1) (by kernel_rfl) (og:=((ops 19)[1]?).getD default) (by kernel_rfl) (d:=113) (by kernel_rfl) (hk.kn 1 (.bool true) (by decide) (Nf.dep_at hD (by kernel_rfl)) rfl)) ?_
 ·
  exact fun z L v hu hD=>⟨hu.1.put (by decide) (fun h=>absurd h (by decide)),hu.2.put (by decide) (fun h=>absurd h (by decide))⟩
 ·
  intro z L a v hk be hu hD t d
  have x6:a.eval (.tmp 6)=pX e:=Nf.eval_tmp (hk.bs (6,pX e) (by simp[base19]))
  exact Nf.ev_move (x:=.tmp 6) (by kernel_rfl) x6
theorem h19_3 (e:Pr) (x:Ix) (j:Sl) (v0:World) (B0:Nat->Prop) (hE:Ei e x v0) (hj:Rp.RdE v0 j (Rp.rat e.M x.tn).1):Nf.Hands Tryz.prog m0 (base 3) k cs (ops 19) (I19 e x j v0 B0) 3:=by
 refine Nf.hands_op good (fun i=>rfl) (o:=((ops 19)[3]?).getD default) (by kernel_rfl) (by kernel_rfl) (by decide) (by decide) (by rfl) (x:=fun z=>.int .i64 e.t) (fun z=>rfl) (by decide) (by kernel_rfl) ?_ (fun z L a hk hD=>Nf.wanted_of (j:=1) (by kernel_rfl) (og:=((ops 19)[1]?).getD default) (by kernel_rfl) (d:=113) (by kernel_rfl) (hk.kn 1 (.bool true) (by decide) (Nf.dep_at hD (by kernel_rfl)) rfl)) ?_
 ·
  exact fun z L v hu hD=>⟨hu.1.put (by decide) (fun h=>absurd h (by decide)),hu.2.put (by decide) (fun h=>absurd h (by decide))⟩
 ·
  intro z L a v hk be hu hD t d
  have x5:a.eval (.tmp 5)=.int .i64 e.t:=Nf.eval_tmp (hk.bs (5,.int .i64 e.t) (by simp[base19]))
  exact Nf.ev_move (x:=.tmp 5) (by kernel_rfl) x5
theorem h19_4 (e:Pr) (x:Ix) (j:Sl) (v0:World) (B0:Nat->Prop) (hE:Ei e x v0) (hj:Rp.RdE v0 j (Rp.rat e.M x.tn).1):Nf.Hands Tryz.prog m0 (base 3) k cs (ops 19) (I19 e x j v0 B0) 4:=by
 refine Nf.hands_op good (fun i=>rfl) (o:=((ops 19)[4]?).getD default) (by kernel_rfl) (by kernel_rfl) (by decide) (by decide) (by rfl) (x:=fun z=>.pointer (some ⟨x.bx,x.ox+x.tn*2,none⟩)) (fun z=>rfl) (by decide) (by kernel_rfl) ?_ (fun z L a hk hD=>Nf.wanted_of (j:=1) (by kernel_rfl) (og:=((ops 19)[1]?).getD default) (by kernel_rfl) (d:=113) (by kernel_rfl) (hk.kn 1 (.bool true) (by decide) (Nf.dep_at hD (by kernel_rfl)) rfl)) ?_
 ·
  exact fun z L v hu hD=>⟨hu.1.put (by decide) (fun h=>absurd h (by decide)),hu.2.put (by decide) (fun h=>absurd h (by decide))⟩
 ·
  intro z L a v hk be hu hD t d
  have x114:a.eval (.tmp 114)=pX e:=Nf.eval_tmp (hk.kn 2 _ (by decide) (Nf.dep_at hD (by kernel_rfl)) rfl)
  have x115:a.eval (.tmp 115)=.int .i64 e.t:=Nf.eval_tmp (hk.kn 3 _ (by decide) (Nf.dep_at hD (by kernel_rfl)) rfl)
  exact ev_index (x:=.tmp 114) (y:=.tmp 115) (by kernel_rfl) (x114.trans (show pX e=.slice (some ⟨x.bx,x.ox,none⟩) _ _ by rw[pX,hE.px])) x115 hE.ft hE.lx
theorem h19_5 (e:Pr) (x:Ix) (j:Sl) (v0:World) (B0:Nat->Prop) (hE:Ei e x v0) (hj:Rp.RdE v0 j (Rp.rat e.M x.tn).1):Nf.Hands Tryz.prog m0 (base 3) k cs (ops 19) (I19 e x j v0 B0) 5:=by
 refine Nf.hands_op good (fun i=>rfl) (o:=((ops 19)[5]?).getD default) (by kernel_rfl) (by kernel_rfl) (by decide) (by decide) (by rfl) (x:=fun z=>.pointer (some ⟨x.bx,x.ox+x.tn*2,none⟩)) (fun z=>rfl) (by decide) (by kernel_rfl) ?_ (fun z L a hk hD=>Nf.wanted_of (j:=1) (by kernel_rfl) (og:=((ops 19)[1]?).getD default) (by kernel_rfl) (d:=113) (by kernel_rfl) (hk.kn 1 (.bool true) (by decide) (Nf.dep_at hD (by kernel_rfl)) rfl)) ?_
 ·
  exact fun z L v hu hD=>⟨hu.1.put (by decide) (fun h=>absurd h (by decide)),hu.2.put (by decide) (fun h=>absurd h (by decide))⟩
 ·
  intro z L a v hk be hu hD t d
  have x116:a.eval (.tmp 116)=.pointer (some ⟨x.bx,x.ox+x.tn*2,none⟩):=Nf.eval_tmp (hk.kn 4 _ (by decide) (Nf.dep_at hD (by kernel_rfl)) rfl)
  exact ev_field0 (x:=.tmp 116) (by kernel_rfl) x116
theorem h19_6 (e:Pr) (x:Ix) (j:Sl) (v0:World) (B0:Nat->Prop) (hE:Ei e x v0) (hj:Rp.RdE v0 j (Rp.rat e.M x.tn).1):Nf.Hands Tryz.prog m0 (base 3) k cs (ops 19) (I19 e x j v0 B0) 6:=by
 refine Nf.hands_op good (fun i=>rfl) (o:=((ops 19)[6]?).getD default) (by kernel_rfl) (by kernel_rfl) (by decide) (by decide) (by rfl) (x:=fun z=>sv x.s3) (fun z=>rfl) (by decide) (by kernel_rfl) ?_ (fun z L a hk hD=>Nf.wanted_of (j:=1) (by kernel_rfl) (og:=((ops 19)[1]?).getD default) (by kernel_rfl) (d:=113) (by kernel_rfl) (hk.kn 1 (.bool true) (by decide) (Nf.dep_at hD (by kernel_rfl)) rfl)) ?_
 ·
  exact fun z L v hu hD=>⟨hu.1.put (by decide) (fun h=>absurd h (by decide)),hu.2.put (by decide) (fun h=>absurd h (by decide))⟩
 ·
  intro z L a v hk be hu hD t d
  have x117:a.eval (.tmp 117)=.pointer (some ⟨x.bx,x.ox+x.tn*2,none⟩):=Nf.eval_tmp (hk.kn 5 _ (by decide) (Nf.dep_at hD (by kernel_rfl)) rfl)
  exact ev_loadE (x:=.tmp 117) (by kernel_rfl) x117 ((hE.bel be).tape t d).c3
theorem h19_7 (e:Pr) (x:Ix) (j:Sl) (v0:World) (B0:Nat->Prop) (hE:Ei e x v0) (hj:Rp.RdE v0 j (Rp.rat e.M x.tn).1):Nf.Hands Tryz.prog m0 (base 3) k cs (ops 19) (I19 e x j v0 B0) 7:=by
 refine Nf.hands_op good (fun i=>rfl) (o:=((ops 19)[7]?).getD default) (by kernel_rfl) (by kernel_rfl) (by decide) (by decide) (by rfl) (x:=fun z=>sv j) (fun z=>rfl) (by decide) (by kernel_rfl) ?_ (fun z L a hk hD=>Nf.wanted_of (j:=1) (by kernel_rfl) (og:=((ops 19)[1]?).getD default) (by kernel_rfl) (d:=113) (by kernel_rfl) (hk.kn 1 (.bool true) (by decide) (Nf.dep_at hD (by kernel_rfl)) rfl)) ?_
 ·
  exact fun z L v hu hD=>⟨hu.1.put (by decide) (fun h=>absurd h (by decide)),hu.2.put (by decide) (fun h=>absurd h (by decide))⟩
 ·
  intro z L a v hk be hu hD t d
  have x12:a.eval (.tmp 12)=sv j:=Nf.eval_tmp (hk.bs (12,sv j) (by simp[base19]))
  exact Nf.ev_move (x:=.tmp 12) (by kernel_rfl) x12
theorem h19_8 (e:Pr) (x:Ix) (j:Sl) (v0:World) (B0:Nat->Prop) (hE:Ei e x v0) (hj:Rp.RdE v0 j (Rp.rat e.M x.tn).1):Nf.Hands Tryz.prog m0 (base 3) k cs (ops 19) (I19 e x j v0 B0) 8:=by
 refine Nf.hands_plain good quiets (o:=((ops 19)[8]?).getD default) (by kernel_rfl) (by kernel_rfl) (by decide) (by decide) (by rfl) (by decide) (f:=16) (args:=#[.tmp 118,.tmp 119]) (ats:=#[29,29]) (by kernel_rfl) Tryz.func16 (by decide) rfl (by kernel_rfl) (by kernel_rfl) (fun i=>rfl) (x:=fun z=>.bool true) (fun z=>rfl) ?_ (fun z L a hk hD=>Nf.wanted_of (j:=1) (by kernel_rfl) (og:=((ops 19)[1]?).getD default) (by kernel_rfl) (d:=113) (by kernel_rfl) (hk.kn 1 (.bool true) (by decide) (Nf.dep_at hD (by kernel_rfl)) rfl)) ?_
 ·
  exact fun z L v v' hu kb=>⟨(hu.1.bel (fun q=>q.bel kb)).put (by decide) (fun h=>absurd h (by decide)),(hu.2.bel (fun q=>⟨q.1.bel kb,q.2.bel kb⟩)).put (by decide) (fun h=>absurd h (by decide))⟩
 ·
  intro z L a v hk be hu hD t d
  have x118:a.eval (.tmp 118)=sv x.s3:=Nf.eval_tmp (hk.kn 6 _ (by decide) (Nf.dep_at hD (by kernel_rfl)) rfl)
  have x119:a.eval (.tmp 119)=sv j:=Nf.eval_tmp (hk.kn 7 _ (by decide) (Nf.dep_at hD (by kernel_rfl)) rfl)
  rw[show ((#[.tmp 118,.tmp 119]:Array Operand).map a.eval)=#[sv x.s3,sv j] from by simp[x118,x119]]
  have E:=(hE.bel be).tape t d
  have C:=En.likeBook_same x.s3.1 j.1 x.s3.2.2 j.2.2 (Rp.rat e.M x.tn).1 _ E.E3.rd ((hj.bel be).tape (t:=t) (d:=d)).rd (by have:=E.ev.sM.one x.tn (by rw[E.ev.ml2];exact E.lx);unfold Rp.bulk1 at this;omega)
  have e3:=E.E3.len
  have e4:=hj.len
  show Calls Tryz.prog 16 #[.slice x.s3.1 x.s3.2.1 x.s3.2.2,.slice j.1 j.2.1 j.2.2] _ _
  rw[e3,e4]
  exact C
theorem h19_9 (e:Pr) (x:Ix) (j:Sl) (v0:World) (B0:Nat->Prop) (hE:Ei e x v0) (hj:Rp.RdE v0 j (Rp.rat e.M x.tn).1):Nf.Hands Tryz.prog m0 (base 3) k cs (ops 19) (I19 e x j v0 B0) 9:=by
 refine Nf.hands_op good (fun i=>rfl) (o:=((ops 19)[9]?).getD default) (by kernel_rfl) (by kernel_rfl) (by decide) (by decide) (by rfl) (x:=fun z=>.bool true) (fun z=>rfl) (by decide) (by kernel_rfl) ?_ (fun z L a hk hD=>Nf.wanted_none (by kernel_rfl)) ?_
 ·
  exact fun z L v hu hD=>⟨hu.1.put (by decide) (fun h=>absurd h (by decide)),hu.2.put (by decide) (fun h=>absurd h (by decide))⟩
 ·
  intro z L a v hk be hu hD t d
  have x113:a.eval (.tmp 113)=.bool true:=Nf.eval_tmp (hk.kn 1 _ (by decide) (Nf.dep_at hD (by kernel_rfl)) rfl)
  have x120:a.eval (.tmp 120)=.bool true:=Nf.eval_tmp (hk.kn 8 _ (by decide) (Nf.dep_at hD (by kernel_rfl)) rfl)
  exact Nf.ev_pick (x:=.tmp 113) (y:=.tmp 120) (z:=.const (.bool false)) (t:=true) (by kernel_rfl) x113 x120
theorem h19_10 (e:Pr) (x:Ix) (j:Sl) (v0:World) (B0:Nat->Prop) (hE:Ei e x v0) (hj:Rp.RdE v0 j (Rp.rat e.M x.tn).1):Nf.Hands Tryz.prog m0 (base 3) k cs (ops 19) (I19 e x j v0 B0) 10:=by
 refine Nf.hands_op good (fun i=>rfl) (o:=((ops 19)[10]?).getD default) (by kernel_rfl) (by kernel_rfl) (by decide) (by decide) (by rfl) (x:=fun z=>.bool true) (fun z=>rfl) (by decide) (by kernel_rfl) ?_ (fun z L a hk hD=>Nf.wanted_none (by kernel_rfl)) ?_
 ·
  exact fun z L v hu hD=>⟨hu.1.put (by decide) (fun h=>absurd h (by decide)),hu.2.put (by decide) (fun h=>absurd h (by decide))⟩
 ·
  intro z L a v hk be hu hD t d
  have x121:a.eval (.tmp 121)=.bool true:=Nf.eval_tmp (hk.kn 9 _ (by decide) (Nf.dep_at hD (by kernel_rfl)) rfl)
  exact Nf.ev_move (x:=.tmp 121) (by kernel_rfl) x121
theorem h19_11 (e:Pr) (x:Ix) (j:Sl) (v0:World) (B0:Nat->Prop) (hE:Ei e x v0) (hj:Rp.RdE v0 j (Rp.rat e.M x.tn).1):Nf.Hands Tryz.prog m0 (base 3) k cs (ops 19) (I19 e x j v0 B0) 11:=by
 refine Nf.hands_op good (fun i=>rfl) (o:=((ops 19)[11]?).getD default) (by kernel_rfl) (by kernel_rfl) (by decide) (by decide) (by rfl) (x:=fun z=>pX e) (fun z=>rfl) (by decide) (by kernel_rfl) ?_ (fun z L a hk hD=>Nf.wanted_of (j:=10) (by kernel_rfl) (og:=((ops 19)[10]?).getD default) (by kernel_rfl) (d:=122) (by kernel_rfl) (hk.kn 10 (.bool true) (by decide) (Nf.dep_at hD (by kernel_rfl)) rfl)) ?_
 ·
  exact fun z L v hu hD=>⟨hu.1.put (by decide) (fun h=>absurd h (by decide)),hu.2.put (by decide) (fun h=>absurd h (by decide))⟩
 ·
  intro z L a v hk be hu hD t d
  have x6:a.eval (.tmp 6)=pX e:=Nf.eval_tmp (hk.bs (6,pX e) (by simp[base19]))
  exact Nf.ev_move (x:=.tmp 6) (by kernel_rfl) x6
theorem h19_12 (e:Pr) (x:Ix) (j:Sl) (v0:World) (B0:Nat->Prop) (hE:Ei e x v0) (hj:Rp.RdE v0 j (Rp.rat e.M x.tn).1):Nf.Hands Tryz.prog m0 (base 3) k cs (ops 19) (I19 e x j v0 B0) 12:=by
 refine Nf.hands_op good (fun i=>rfl) (o:=((ops 19)[12]?).getD default) (by kernel_rfl) (by kernel_rfl) (by decide) (by decide) (by rfl) (x:=fun z=>.int .i64 e.t) (fun z=>rfl) (by decide) (by kernel_rfl) ?_ (fun z L a hk hD=>Nf.wanted_of (j:=10) (by kernel_rfl) (og:=((ops 19)[10]?).getD default) (by kernel_rfl) (d:=122) (by kernel_rfl) (hk.kn 10 (.bool true) (by decide) (Nf.dep_at hD (by kernel_rfl)) rfl)) ?_
 ·
  exact fun z L v hu hD=>⟨hu.1.put (by decide) (fun h=>absurd h (by decide)),hu.2.put (by decide) (fun h=>absurd h (by decide))⟩
 ·
  intro z L a v hk be hu hD t d
  have x5:a.eval (.tmp 5)=.int .i64 e.t:=Nf.eval_tmp (hk.bs (5,.int .i64 e.t) (by simp[base19]))
  exact Nf.ev_move (x:=.tmp 5) (by kernel_rfl) x5
theorem h19_13 (e:Pr) (x:Ix) (j:Sl) (v0:World) (B0:Nat->Prop) (hE:Ei e x v0) (hj:Rp.RdE v0 j (Rp.rat e.M x.tn).1):Nf.Hands Tryz.prog m0 (base 3) k cs (ops 19) (I19 e x j v0 B0) 13:=by
 refine Nf.hands_op good (fun i=>rfl) (o:=((ops 19)[13]?).getD default) (by kernel_rfl) (by kernel_rfl) (by decide) (by decide) (by rfl) (x:=fun z=>.pointer (some ⟨x.bx,x.ox+x.tn*2,none⟩)) (fun z=>rfl) (by decide) (by kernel_rfl) ?_ (fun z L a hk hD=>Nf.wanted_of (j:=10) (by kernel_rfl) (og:=((ops 19)[10]?).getD default) (by kernel_rfl) (d:=122) (by kernel_rfl) (hk.kn 10 (.bool true) (by decide) (Nf.dep_at hD (by kernel_rfl)) rfl)) ?_
 ·
  exact fun z L v hu hD=>⟨hu.1.put (by decide) (fun h=>absurd h (by decide)),hu.2.put (by decide) (fun h=>absurd h (by decide))⟩
 ·
  intro z L a v hk be hu hD t d
  have x123:a.eval (.tmp 123)=pX e:=Nf.eval_tmp (hk.kn 11 _ (by decide) (Nf.dep_at hD (by kernel_rfl)) rfl)
  have x124:a.eval (.tmp 124)=.int .i64 e.t:=Nf.eval_tmp (hk.kn 12 _ (by decide) (Nf.dep_at hD (by kernel_rfl)) rfl)
  exact ev_index (x:=.tmp 123) (y:=.tmp 124) (by kernel_rfl) (x123.trans (show pX e=.slice (some ⟨x.bx,x.ox,none⟩) _ _ by rw[pX,hE.px])) x124 hE.ft hE.lx
theorem h19_14 (e:Pr) (x:Ix) (j:Sl) (v0:World) (B0:Nat->Prop) (hE:Ei e x v0) (hj:Rp.RdE v0 j (Rp.rat e.M x.tn).1):Nf.Hands Tryz.prog m0 (base 3) k cs (ops 19) (I19 e x j v0 B0) 14:=by
 refine Nf.hands_op good (fun i=>rfl) (o:=((ops 19)[14]?).getD default) (by kernel_rfl) (by kernel_rfl) (by decide) (by decide) (by rfl) (x:=fun z=>.pointer (some ⟨x.bx,x.ox+x.tn*2+1,none⟩)) (fun z=>rfl) (by decide) (by kernel_rfl) ?_ (fun z L a hk hD=>Nf.wanted_of (j:=10) (by kernel_rfl) (og:=((ops 19)[10]?).getD default) (by kernel_rfl) (d:=122) (by kernel_rfl) (hk.kn 10 (.bool true) (by decide) (Nf.dep_at hD (by kernel_rfl)) rfl)) ?_
 ·
  exact fun z L v hu hD=>⟨hu.1.put (by decide) (fun h=>absurd h (by decide)),hu.2.put (by decide) (fun h=>absurd h (by decide))⟩
 ·
  intro z L a v hk be hu hD t d
  have x125:a.eval (.tmp 125)=.pointer (some ⟨x.bx,x.ox+x.tn*2,none⟩):=Nf.eval_tmp (hk.kn 13 _ (by decide) (Nf.dep_at hD (by kernel_rfl)) rfl)
  exact ev_field1 (x:=.tmp 125) (by kernel_rfl) x125
theorem h19_15 (e:Pr) (x:Ix) (j:Sl) (v0:World) (B0:Nat->Prop) (hE:Ei e x v0) (hj:Rp.RdE v0 j (Rp.rat e.M x.tn).1):Nf.Hands Tryz.prog m0 (base 3) k cs (ops 19) (I19 e x j v0 B0) 15:=by
 refine Nf.hands_op good (fun i=>rfl) (o:=((ops 19)[15]?).getD default) (by kernel_rfl) (by kernel_rfl) (by decide) (by decide) (by rfl) (x:=fun z=>sv x.r3) (fun z=>rfl) (by decide) (by kernel_rfl) ?_ (fun z L a hk hD=>Nf.wanted_of (j:=10) (by kernel_rfl) (og:=((ops 19)[10]?).getD default) (by kernel_rfl) (d:=122) (by kernel_rfl) (hk.kn 10 (.bool true) (by decide) (Nf.dep_at hD (by kernel_rfl)) rfl)) ?_
 ·
  exact fun z L v hu hD=>⟨hu.1.put (by decide) (fun h=>absurd h (by decide)),hu.2.put (by decide) (fun h=>absurd h (by decide))⟩
 ·
  intro z L a v hk be hu hD t d
  have x126:a.eval (.tmp 126)=.pointer (some ⟨x.bx,x.ox+x.tn*2+1,none⟩):=Nf.eval_tmp (hk.kn 14 _ (by decide) (Nf.dep_at hD (by kernel_rfl)) rfl)
  exact ev_loadM (x:=.tmp 126) (by kernel_rfl) x126 ((hE.bel be).tape t d).d3
theorem h19_16 (e:Pr) (x:Ix) (j:Sl) (v0:World) (B0:Nat->Prop) (hE:Ei e x v0) (hj:Rp.RdE v0 j (Rp.rat e.M x.tn).1):Nf.Hands Tryz.prog m0 (base 3) k cs (ops 19) (I19 e x j v0 B0) 16:=by
 refine Nf.hands_op good (fun i=>rfl) (o:=((ops 19)[16]?).getD default) (by kernel_rfl) (by kernel_rfl) (by decide) (by decide) (by rfl) (x:=fun z=>pG e) (fun z=>rfl) (by decide) (by kernel_rfl) ?_ (fun z L a hk hD=>Nf.wanted_of (j:=10) (by kernel_rfl) (og:=((ops 19)[10]?).getD default) (by kernel_rfl) (d:=122) (by kernel_rfl) (hk.kn 10 (.bool true) (by decide) (Nf.dep_at hD (by kernel_rfl)) rfl)) ?_
 ·
  exact fun z L v hu hD=>⟨hu.1.put (by decide) (fun h=>absurd h (by decide)),hu.2.put (by decide) (fun h=>absurd h (by decide))⟩
 ·
  intro z L a v hk be hu hD t d
  have x3:a.eval (.tmp 3)=pG e:=Nf.eval_tmp (hk.bs (3,pG e) (by simp[base19]))
  exact Nf.ev_move (x:=.tmp 3) (by kernel_rfl) x3
theorem h19_17 (e:Pr) (x:Ix) (j:Sl) (v0:World) (B0:Nat->Prop) (hE:Ei e x v0) (hj:Rp.RdE v0 j (Rp.rat e.M x.tn).1):Nf.Hands Tryz.prog m0 (base 3) k cs (ops 19) (I19 e x j v0 B0) 17:=by
 refine Nf.hands_op good (fun i=>rfl) (o:=((ops 19)[17]?).getD default) (by kernel_rfl) (by kernel_rfl) (by decide) (by decide) (by rfl) (x:=fun z=>.int .i64 e.t) (fun z=>rfl) (by decide) (by kernel_rfl) ?_ (fun z L a hk hD=>Nf.wanted_of (j:=10) (by kernel_rfl) (og:=((ops 19)[10]?).getD default) (by kernel_rfl) (d:=122) (by kernel_rfl) (hk.kn 10 (.bool true) (by decide) (Nf.dep_at hD (by kernel_rfl)) rfl)) ?_
 ·
  exact fun z L v hu hD=>⟨hu.1.put (by decide) (fun h=>absurd h (by decide)),hu.2.put (by decide) (fun h=>absurd h (by decide))⟩
 ·
  intro z L a v hk be hu hD t d
  have x5:a.eval (.tmp 5)=.int .i64 e.t:=Nf.eval_tmp (hk.bs (5,.int .i64 e.t) (by simp[base19]))
  exact Nf.ev_move (x:=.tmp 5) (by kernel_rfl) x5
theorem h19_18 (e:Pr) (x:Ix) (j:Sl) (v0:World) (B0:Nat->Prop) (hE:Ei e x v0) (hj:Rp.RdE v0 j (Rp.rat e.M x.tn).1):Nf.Hands Tryz.prog m0 (base 3) k cs (ops 19) (I19 e x j v0 B0) 18:=by
 refine Nf.hands_op good (fun i=>rfl) (o:=((ops 19)[18]?).getD default) (by kernel_rfl) (by kernel_rfl) (by decide) (by decide) (by rfl) (x:=fun z=>.pointer (some ⟨x.bg,x.og+x.tn*2,none⟩)) (fun z=>rfl) (by decide) (by kernel_rfl) ?_ (fun z L a hk hD=>Nf.wanted_of (j:=10) (by kernel_rfl) (og:=((ops 19)[10]?).getD default) (by kernel_rfl) (d:=122) (by kernel_rfl) (hk.kn 10 (.bool true) (by decide) (Nf.dep_at hD (by kernel_rfl)) rfl)) ?_
 ·
  exact fun z L v hu hD=>⟨hu.1.put (by decide) (fun h=>absurd h (by decide)),hu.2.put (by decide) (fun h=>absurd h (by decide))⟩
 ·
  intro z L a v hk be hu hD t d
  have x128:a.eval (.tmp 128)=pG e:=Nf.eval_tmp (hk.kn 16 _ (by decide) (Nf.dep_at hD (by kernel_rfl)) rfl)
  have x129:a.eval (.tmp 129)=.int .i64 e.t:=Nf.eval_tmp (hk.kn 17 _ (by decide) (Nf.dep_at hD (by kernel_rfl)) rfl)
  exact ev_index (x:=.tmp 128) (y:=.tmp 129) (by kernel_rfl) (x128.trans (show pG e=.slice (some ⟨x.bg,x.og,none⟩) _ _ by rw[pG,hE.pg])) x129 hE.ft hE.lt
theorem h19_19 (e:Pr) (x:Ix) (j:Sl) (v0:World) (B0:Nat->Prop) (hE:Ei e x v0) (hj:Rp.RdE v0 j (Rp.rat e.M x.tn).1):Nf.Hands Tryz.prog m0 (base 3) k cs (ops 19) (I19 e x j v0 B0) 19:=by
 refine Nf.hands_op good (fun i=>rfl) (o:=((ops 19)[19]?).getD default) (by kernel_rfl) (by kernel_rfl) (by decide) (by decide) (by rfl) (x:=fun z=>.pointer (some ⟨x.bg,x.og+x.tn*2+1,none⟩)) (fun z=>rfl) (by decide) (by kernel_rfl) ?_ (fun z L a hk hD=>Nf.wanted_of (j:=10) (by kernel_rfl) (og:=((ops 19)[10]?).getD default) (by kernel_rfl) (d:=122) (by kernel_rfl) (hk.kn 10 (.bool true) (by decide) (Nf.dep_at hD (by kernel_rfl)) rfl)) ?_
 ·
  exact fun z L v hu hD=>⟨hu.1.put (by decide) (fun h=>absurd h (by decide)),hu.2.put (by decide) (fun h=>absurd h (by decide))⟩
 ·
  intro z L a v hk be hu hD t d
  have x130:a.eval (.tmp 130)=.pointer (some ⟨x.bg,x.og+x.tn*2,none⟩):=Nf.eval_tmp (hk.kn 18 _ (by decide) (Nf.dep_at hD (by kernel_rfl)) rfl)
  exact ev_field1 (x:=.tmp 130) (by kernel_rfl) x130
theorem h19_20 (e:Pr) (x:Ix) (j:Sl) (v0:World) (B0:Nat->Prop) (hE:Ei e x v0) (hj:Rp.RdE v0 j (Rp.rat e.M x.tn).1):Nf.Hands Tryz.prog m0 (base 3) k cs (ops 19) (I19 e x j v0 B0) 20:=by
 refine Nf.hands_op good (fun i=>rfl) (o:=((ops 19)[20]?).getD default) (by kernel_rfl) (by kernel_rfl) (by decide) (by decide) (by rfl) (x:=fun z=>sv x.r1) (fun z=>rfl) (by decide) (by kernel_rfl) ?_ (fun z L a hk hD=>Nf.wanted_of (j:=10) (by kernel_rfl) (og:=((ops 19)[10]?).getD default) (by kernel_rfl) (d:=122) (by kernel_rfl) (hk.kn 10 (.bool true) (by decide) (Nf.dep_at hD (by kernel_rfl)) rfl)) ?_
 ·
  exact fun z L v hu hD=>⟨hu.1.put (by decide) (fun h=>absurd h (by decide)),hu.2.put (by decide) (fun h=>absurd h (by decide))⟩
 ·
  intro z L a v hk be hu hD t d
  have x131:a.eval (.tmp 131)=.pointer (some ⟨x.bg,x.og+x.tn*2+1,none⟩):=Nf.eval_tmp (hk.kn 19 _ (by decide) (Nf.dep_at hD (by kernel_rfl)) rfl)
  exact ev_loadM (x:=.tmp 131) (by kernel_rfl) x131 ((hE.bel be).tape t d).d1
theorem h19_21 (e:Pr) (x:Ix) (j:Sl) (v0:World) (B0:Nat->Prop) (hE:Ei e x v0) (hj:Rp.RdE v0 j (Rp.rat e.M x.tn).1):Nf.Hands Tryz.prog m0 (base 3) k cs (ops 19) (I19 e x j v0 B0) 21:=by
 refine Nf.hands_op good (fun i=>rfl) (o:=((ops 19)[21]?).getD default) (by kernel_rfl) (by kernel_rfl) (by decide) (by decide) (by rfl) (x:=fun z=>pG e) (fun z=>rfl) (by decide) (by kernel_rfl) ?_ (fun z L a hk hD=>Nf.wanted_of (j:=10) (by kernel_rfl) (og:=((ops 19)[10]?).getD default) (by kernel_rfl) (d:=122) (by kernel_rfl) (hk.kn 10 (.bool true) (by decide) (Nf.dep_at hD (by kernel_rfl)) rfl)) ?_
 ·
  exact fun z L v hu hD=>⟨hu.1.put (by decide) (fun h=>absurd h (by decide)),hu.2.put (by decide) (fun h=>absurd h (by decide))⟩
 ·
  intro z L a v hk be hu hD t d
  have x3:a.eval (.tmp 3)=pG e:=Nf.eval_tmp (hk.bs (3,pG e) (by simp[base19]))
  exact Nf.ev_move (x:=.tmp 3) (by kernel_rfl) x3
theorem h19_22 (e:Pr) (x:Ix) (j:Sl) (v0:World) (B0:Nat->Prop) (hE:Ei e x v0) (hj:Rp.RdE v0 j (Rp.rat e.M x.tn).1):Nf.Hands Tryz.prog m0 (base 3) k cs (ops 19) (I19 e x j v0 B0) 22:=by
 refine Nf.hands_op good (fun i=>rfl) (o:=((ops 19)[22]?).getD default) (by kernel_rfl) (by kernel_rfl) (by decide) (by decide) (by rfl) (x:=fun z=>.int .i64 e.f) (fun z=>rfl) (by decide) (by kernel_rfl) ?_ (fun z L a hk hD=>Nf.wanted_of (j:=10) (by kernel_rfl) (og:=((ops 19)[10]?).getD default) (by kernel_rfl) (d:=122) (by kernel_rfl) (hk.kn 10 (.bool true) (by decide) (Nf.dep_at hD (by kernel_rfl)) rfl)) ?_
 ·
  exact fun z L v hu hD=>⟨hu.1.put (by decide) (fun h=>absurd h (by decide)),hu.2.put (by decide) (fun h=>absurd h (by decide))⟩
 ·
  intro z L a v hk be hu hD t d
  have x4:a.eval (.tmp 4)=.int .i64 e.f:=Nf.eval_tmp (hk.bs (4,.int .i64 e.f) (by simp[base19]))
  exact Nf.ev_move (x:=.tmp 4) (by kernel_rfl) x4
theorem h19_23 (e:Pr) (x:Ix) (j:Sl) (v0:World) (B0:Nat->Prop) (hE:Ei e x v0) (hj:Rp.RdE v0 j (Rp.rat e.M x.tn).1):Nf.Hands Tryz.prog m0 (base 3) k cs (ops 19) (I19 e x j v0 B0) 23:=by
 refine Nf.hands_op good (fun i=>rfl) (o:=((ops 19)[23]?).getD default) (by kernel_rfl) (by kernel_rfl) (by decide) (by decide) (by rfl) (x:=fun z=>.pointer (some ⟨x.bg,x.og+x.fn*2,none⟩)) (fun z=>rfl) (by decide) (by kernel_rfl) ?_ (fun z L a hk hD=>Nf.wanted_of (j:=10) (by kernel_rfl) (og:=((ops 19)[10]?).getD default) (by kernel_rfl) (d:=122) (by kernel_rfl) (hk.kn 10 (.bool true) (by decide) (Nf.dep_at hD (by kernel_rfl)) rfl)) ?_
 ·
  exact fun z L v hu hD=>⟨hu.1.put (by decide) (fun h=>absurd h (by decide)),hu.2.put (by decide) (fun h=>absurd h (by decide))⟩
 ·
  intro z L a v hk be hu hD t d
  have x133:a.eval (.tmp 133)=pG e:=Nf.eval_tmp (hk.kn 21 _ (by decide) (Nf.dep_at hD (by kernel_rfl)) rfl)
  have x134:a.eval (.tmp 134)=.int .i64 e.f:=Nf.eval_tmp (hk.kn 22 _ (by decide) (Nf.dep_at hD (by kernel_rfl)) rfl)
  exact ev_index (x:=.tmp 133) (y:=.tmp 134) (by kernel_rfl) (x133.trans (show pG e=.slice (some ⟨x.bg,x.og,none⟩) _ _ by rw[pG,hE.pg])) x134 hE.ff hE.lf
theorem h19_24 (e:Pr) (x:Ix) (j:Sl) (v0:World) (B0:Nat->Prop) (hE:Ei e x v0) (hj:Rp.RdE v0 j (Rp.rat e.M x.tn).1):Nf.Hands Tryz.prog m0 (base 3) k cs (ops 19) (I19 e x j v0 B0) 24:=by
 refine Nf.hands_op good (fun i=>rfl) (o:=((ops 19)[24]?).getD default) (by kernel_rfl) (by kernel_rfl) (by decide) (by decide) (by rfl) (x:=fun z=>.pointer (some ⟨x.bg,x.og+x.fn*2+1,none⟩)) (fun z=>rfl) (by decide) (by kernel_rfl) ?_ (fun z L a hk hD=>Nf.wanted_of (j:=10) (by kernel_rfl) (og:=((ops 19)[10]?).getD default) (by kernel_rfl) (d:=122) (by kernel_rfl) (hk.kn 10 (.bool true) (by decide) (Nf.dep_at hD (by kernel_rfl)) rfl)) ?_
 ·
  exact fun z L v hu hD=>⟨hu.1.put (by decide) (fun h=>absurd h (by decide)),hu.2.put (by decide) (fun h=>absurd h (by decide))⟩
 ·
  intro z L a v hk be hu hD t d
  have x135:a.eval (.tmp 135)=.pointer (some ⟨x.bg,x.og+x.fn*2,none⟩):=Nf.eval_tmp (hk.kn 23 _ (by decide) (Nf.dep_at hD (by kernel_rfl)) rfl)
  exact ev_field1 (x:=.tmp 135) (by kernel_rfl) x135
theorem h19_25 (e:Pr) (x:Ix) (j:Sl) (v0:World) (B0:Nat->Prop) (hE:Ei e x v0) (hj:Rp.RdE v0 j (Rp.rat e.M x.tn).1):Nf.Hands Tryz.prog m0 (base 3) k cs (ops 19) (I19 e x j v0 B0) 25:=by
 refine Nf.hands_op good (fun i=>rfl) (o:=((ops 19)[25]?).getD default) (by kernel_rfl) (by kernel_rfl) (by decide) (by decide) (by rfl) (x:=fun z=>sv x.r2) (fun z=>rfl) (by decide) (by kernel_rfl) ?_ (fun z L a hk hD=>Nf.wanted_of (j:=10) (by kernel_rfl) (og:=((ops 19)[10]?).getD default) (by kernel_rfl) (d:=122) (by kernel_rfl) (hk.kn 10 (.bool true) (by decide) (Nf.dep_at hD (by kernel_rfl)) rfl)) ?_
 ·
  exact fun z L v hu hD=>⟨hu.1.put (by decide) (fun h=>absurd h (by decide)),hu.2.put (by decide) (fun h=>absurd h (by decide))⟩
 ·
  intro z L a v hk be hu hD t d
  have x136:a.eval (.tmp 136)=.pointer (some ⟨x.bg,x.og+x.fn*2+1,none⟩):=Nf.eval_tmp (hk.kn 24 _ (by decide) (Nf.dep_at hD (by kernel_rfl)) rfl)
  exact ev_loadM (x:=.tmp 136) (by kernel_rfl) x136 ((hE.bel be).tape t d).d2
theorem h19_26 (e:Pr) (x:Ix) (j:Sl) (v0:World) (B0:Nat->Prop) (hE:Ei e x v0) (hj:Rp.RdE v0 j (Rp.rat e.M x.tn).1):Nf.Hands Tryz.prog m0 (base 3) k cs (ops 19) (I19 e x j v0 B0) 26:=by
 refine Nf.hands_call good quiets (o:=((ops 19)[26]?).getD default) (by kernel_rfl) (by kernel_rfl) (by decide) (by decide) (by rfl) (by decide) (f:=18) (args:=#[.tmp 132,.tmp 137]) (ats:=#[30,30]) (by kernel_rfl) Tryz.func18 (by decide) rfl (by kernel_rfl) (by kernel_rfl) (fun i=>rfl) (R:=fun z v u w=>∃ y:Sl,u=sv y∧Rp.RdM w y (Rp.rat e.M x.tn).2∧Bel v.heap.size v w) ?_ ?_ (fun z L a hk hD=>Nf.wanted_of (j:=10) (by kernel_rfl) (og:=((ops 19)[10]?).getD default) (by kernel_rfl) (d:=122) (by kernel_rfl) (hk.kn 10 (.bool true) (by decide) (Nf.dep_at hD (by kernel_rfl)) rfl)) ?_
 ·
  exact fun z v u w t d ⟨y,h1,h2,h3⟩=>⟨y,h1,h2.tape,h3.on v.tape t v.drawn d⟩
 ·
  rintro z L v B u v' ⟨be,bb,hu⟩ hD hL ⟨y,rfl,hq,kb⟩
  have h2:Nf.Uc 31 [] (fun (z:Sl × Sl × Sl) v=>Rp.RdE v z.2.1 e.J.1∧Rp.RdM v z.2.2 e.J.2) (y,z.2) L v:=⟨hu.2.1,hu.2.2⟩
  refine⟨(y,z.2),rfl,fun j' u hj' hv=>?_,be.trans (kb.mono be.size),bb,Nf.Uc.brought hq,(h2.bel (fun q=>⟨q.1.bel kb,q.2.bel kb⟩)).put (by decide) (fun h=>absurd h (by decide))⟩
  by_cases h0:j'=26
  ·
   subst h0;rw[hL] at hj';cases hj'
  ·
   rw[<- hv]
   exact V19_ne h0
 ·
  rintro z L a v B hk ⟨be,_,hu⟩ hD t d
  have x132:a.eval (.tmp 132)=sv x.r1:=Nf.eval_tmp (hk.kn 20 _ (by decide) (Nf.dep_at hD (by kernel_rfl)) rfl)
  have x137:a.eval (.tmp 137)=sv x.r2:=Nf.eval_tmp (hk.kn 25 _ (by decide) (Nf.dep_at hD (by kernel_rfl)) rfl)
  rw[show ((#[.tmp 132,.tmp 137]:Array Operand).map a.eval)=#[sv x.r1,sv x.r2] from by simp[x132,x137]]
  have E:=(hE.bel be).tape t d
  have C:=Mm.impl_Merged x.r1.1 x.r2.1 x.r1.2.2 x.r2.2.2 (Rp.rat e.L x.tn).2 (Rp.rat e.L x.fn).2 _ E.M1.rd E.M2.rd E.M1.na (Nat.le_trans E.M1.le E.M1.cap) (Nat.le_trans E.M2.le E.M2.cap)
  rw[<- E.M1.len,<- E.M2.len] at C
  have tj:=Rp.told_merge E.ok E.tl E.ml.2 E.ml.1
  refine C.mono (fun en w' hz=>?_)
  obtain⟨u,J,rfl,h1,o,kk⟩:=hz
  rw[tj] at h1
  obtain⟨y,rfl⟩:=Rp.slM o
  refine⟨_,rfl,y,rfl,?_,Nf.from_below kk⟩
  rw[<- Mm.toB_inj h1]
  exact Rp.rdM_of o
theorem h19_27 (e:Pr) (x:Ix) (j:Sl) (v0:World) (B0:Nat->Prop) (hE:Ei e x v0) (hj:Rp.RdE v0 j (Rp.rat e.M x.tn).1):Nf.Hands Tryz.prog m0 (base 3) k cs (ops 19) (I19 e x j v0 B0) 27:=by
 refine Nf.hands_plain good quiets (o:=((ops 19)[27]?).getD default) (by kernel_rfl) (by kernel_rfl) (by decide) (by decide) (by rfl) (by decide) (f:=17) (args:=#[.tmp 127,.tmp 138]) (ats:=#[30,30]) (by kernel_rfl) Tryz.func17 (by decide) rfl (by kernel_rfl) (by kernel_rfl) (fun i=>rfl) (x:=fun z=>.bool true) (fun z=>rfl) ?_ (fun z L a hk hD=>Nf.wanted_of (j:=10) (by kernel_rfl) (og:=((ops 19)[10]?).getD default) (by kernel_rfl) (d:=122) (by kernel_rfl) (hk.kn 10 (.bool true) (by decide) (Nf.dep_at hD (by kernel_rfl)) rfl)) ?_
 ·
  exact fun z L v v' hu kb=>⟨(hu.1.bel (fun q=>q.bel kb)).put (by decide) (fun h=>absurd h (by decide)),(hu.2.bel (fun q=>⟨q.1.bel kb,q.2.bel kb⟩)).put (by decide) (fun h=>absurd h (by decide))⟩
 ·
  intro z L a v hk be hu hD t d
  have x127:a.eval (.tmp 127)=sv x.r3:=Nf.eval_tmp (hk.kn 15 _ (by decide) (Nf.dep_at hD (by kernel_rfl)) rfl)
  have x138:a.eval (.tmp 138)=sv z.1:=Nf.eval_tmp (hk.kn 26 _ (by decide) (Nf.dep_at hD (by kernel_rfl)) rfl)
  rw[show ((#[.tmp 127,.tmp 138]:Array Operand).map a.eval)=#[sv x.r3,sv z.1] from by simp[x127,x138]]
  have E:=(hE.bel be).tape t d
  have Q:=hu.1.1 (Nf.dep_at (j:=26) hD (by kernel_rfl))
  have C:=Mm.likeMembers_same x.r3.1 z.1.1 x.r3.2.2 z.1.2.2 (Rp.rat e.M x.tn).2 _ E.M3.rd (Q.tape (t:=t) (d:=d)).rd (by have:=E.ev.sM.one x.tn (by rw[E.ev.ml2];exact E.lx);unfold Rp.bulk1 at this;omega)
  have e3:=E.M3.len
  have e4:=Q.len
  show Calls Tryz.prog 17 #[.slice x.r3.1 x.r3.2.1 x.r3.2.2,.slice z.1.1 z.1.2.1 z.1.2.2] _ _
  rw[e3,e4]
  exact C
theorem h19_28 (e:Pr) (x:Ix) (j:Sl) (v0:World) (B0:Nat->Prop) (hE:Ei e x v0) (hj:Rp.RdE v0 j (Rp.rat e.M x.tn).1):Nf.Hands Tryz.prog m0 (base 3) k cs (ops 19) (I19 e x j v0 B0) 28:=by
 refine Nf.hands_op good (fun i=>rfl) (o:=((ops 19)[28]?).getD default) (by kernel_rfl) (by kernel_rfl) (by decide) (by decide) (by rfl) (x:=fun z=>.bool true) (fun z=>rfl) (by decide) (by kernel_rfl) ?_ (fun z L a hk hD=>Nf.wanted_none (by kernel_rfl)) ?_
 ·
  exact fun z L v hu hD=>⟨hu.1.put (by decide) (fun h=>absurd h (by decide)),hu.2.put (by decide) (fun h=>absurd h (by decide))⟩
 ·
  intro z L a v hk be hu hD t d
  have x122:a.eval (.tmp 122)=.bool true:=Nf.eval_tmp (hk.kn 10 _ (by decide) (Nf.dep_at hD (by kernel_rfl)) rfl)
  have x139:a.eval (.tmp 139)=.bool true:=Nf.eval_tmp (hk.kn 27 _ (by decide) (Nf.dep_at hD (by kernel_rfl)) rfl)
  exact Nf.ev_pick (x:=.tmp 122) (y:=.tmp 139) (z:=.const (.bool false)) (t:=true) (by kernel_rfl) x122 x139
theorem h19_29 (e:Pr) (x:Ix) (j:Sl) (v0:World) (B0:Nat->Prop) (hE:Ei e x v0) (hj:Rp.RdE v0 j (Rp.rat e.M x.tn).1):Nf.Hands Tryz.prog m0 (base 3) k cs (ops 19) (I19 e x j v0 B0) 29:=by
 refine Nf.hands_op good (fun i=>rfl) (o:=((ops 19)[29]?).getD default) (by kernel_rfl) (by kernel_rfl) (by decide) (by decide) (by rfl) (x:=fun z=>.bool true) (fun z=>rfl) (by decide) (by kernel_rfl) ?_ (fun z L a hk hD=>Nf.wanted_none (by kernel_rfl)) ?_
 ·
  exact fun z L v hu hD=>⟨hu.1.put (by decide) (fun h=>absurd h (by decide)),hu.2.put (by decide) (fun h=>absurd h (by decide))⟩
 ·
  intro z L a v hk be hu hD t d
  have x140:a.eval (.tmp 140)=.bool true:=Nf.eval_tmp (hk.kn 28 _ (by decide) (Nf.dep_at hD (by kernel_rfl)) rfl)
  exact Nf.ev_move (x:=.tmp 140) (by kernel_rfl) x140
theorem h19_30 (e:Pr) (x:Ix) (j:Sl) (v0:World) (B0:Nat->Prop) (hE:Ei e x v0) (hj:Rp.RdE v0 j (Rp.rat e.M x.tn).1):Nf.Hands Tryz.prog m0 (base 3) k cs (ops 19) (I19 e x j v0 B0) 30:=by
 refine Nf.hands_op good (fun i=>rfl) (o:=((ops 19)[30]?).getD default) (by kernel_rfl) (by kernel_rfl) (by decide) (by decide) (by rfl) (x:=fun z=>pX e) (fun z=>rfl) (by decide) (by kernel_rfl) ?_ (fun z L a hk hD=>Nf.wanted_of (j:=29) (by kernel_rfl) (og:=((ops 19)[29]?).getD default) (by kernel_rfl) (d:=141) (by kernel_rfl) (hk.kn 29 (.bool true) (by decide) (Nf.dep_at hD (by kernel_rfl)) rfl)) ?_
 ·
  exact fun z L v hu hD=>⟨hu.1.put (by decide) (fun h=>absurd h (by decide)),hu.2.put (by decide) (fun h=>absurd h (by decide))⟩
 ·
  intro z L a v hk be hu hD t d
  have x6:a.eval (.tmp 6)=pX e:=Nf.eval_tmp (hk.bs (6,pX e) (by simp[base19]))
  exact Nf.ev_move (x:=.tmp 6) (by kernel_rfl) x6
theorem h19_31 [Go.ConcR.Payload] (e:Pr) (x:Ix) (j:Sl) (v0:World) (B0:Nat->Prop) (hE:Ei e x v0) (hj:Rp.RdE v0 j (Rp.rat e.M x.tn).1):Nf.Hands Tryz.prog m0 (base 3) k cs (ops 19) (I19 e x j v0 B0) 31:=by
 rintro L a v B rest ⟨z,hk,be,bb,hu⟩ hL hD h
 have x142:a.eval (.tmp 142)=pX e:=Nf.eval_tmp (hk.kn 30 _ (by decide) (Nf.dep_at hD (by kernel_rfl)) rfl)
 have hw:Region.wanted (((ops 19)[31]?).getD default) (yielded (ops 19) a.tmps)=true:=Nf.wanted_of (j:=29) (by kernel_rfl) (og:=((ops 19)[29]?).getD default) (by kernel_rfl) (d:=141) (by kernel_rfl) (hk.kn 29 (.bool true) (by decide) (Nf.dep_at hD (by kernel_rfl)) rfl)
 have h2:=Nf.stand_enter (o:=((ops 19)[31]?).getD default) (f:=8) (args:=#[.tmp 142]) (ats:=#[24]) (by kernel_rfl) hw (by decide) (by kernel_rfl) Tryz.func8 (by decide) rfl h
 rw[show ((#[.tmp 142]:Array Operand).map a.eval)=#[pX e] from by simp[x142]] at h2
 have E:=hE.bel be
 rw[show pX e=.slice e.p2 e.M.length e.q2 by rw[pX,E.ev.ml2]] at h2
 obtain⟨s,r,J',v',B',h3,hW,oE,oM,kb,hB⟩:=whole_stand e.p2 e.q2 e.M E.ev.rx E.ev.sM.s E.ev.sM.l E.ev.sM.lb h2
 obtain rfl:=hW.unique (Rp.told_whl E.ok E.tl E.ml.2 E.ml.1 E.ev.hJ)
 have hd31:(((ops 19)[31]?).getD default).dst=some (D19 31):=by kernel_rfl
 rw[Nf.finish_mid (o:=((ops 19)[31]?).getD default) (by kernel_rfl),hd31] at h3
 have h1:Nf.Uc 26 [] (fun (z:Sl × Sl × Sl) v=>Rp.RdM v z.1 (Rp.rat e.M x.tn).2) (z.1,(s,r)) L v:=⟨hu.1.1,hu.1.2⟩
 have hk':Nf.Kn 40 151 D19 (V19 e x j (z.1,(s,r))) (base19 e j) L a:=⟨hk.df,hk.sz,fun i y hi hL' hy=>hk.kn i y hi hL' (by
  by_cases h0:i=31
  ·
   subst h0;rw[hL] at hL';cases hL'
  ·
   rw[<- hy]
   exact V19_ne31 h0),hk.bs⟩
 exact⟨_,v',B',h3,(z.1,(s,r)),hk'.put (by decide) (by decide) (by rfl) (fun y hy=>Option.some.inj hy),be.trans (kb.mono be.size),fun b hb=>by
  rcases hB b hb with q | q
  ·
   exact bb b q
  ·
   have:=be.size
   exact .inr (by omega),(h1.bel (fun q=>q.bel kb)).put (by decide) (fun h=>absurd h (by decide)),Nf.Uc.brought ⟨Rp.rdE_of oE,Rp.rdM_of oM⟩⟩
theorem h19_32 (e:Pr) (x:Ix) (j:Sl) (v0:World) (B0:Nat->Prop) (hE:Ei e x v0) (hj:Rp.RdE v0 j (Rp.rat e.M x.tn).1):Nf.Hands Tryz.prog m0 (base 3) k cs (ops 19) (I19 e x j v0 B0) 32:=by
 refine Nf.hands_op good (fun i=>rfl) (o:=((ops 19)[32]?).getD default) (by kernel_rfl) (by kernel_rfl) (by decide) (by decide) (by rfl) (x:=fun z=>.agg #[sv e.s,sv e.r]) (fun z=>rfl) (by decide) (by kernel_rfl) ?_ (fun z L a hk hD=>Nf.wanted_of (j:=29) (by kernel_rfl) (og:=((ops 19)[29]?).getD default) (by kernel_rfl) (d:=141) (by kernel_rfl) (hk.kn 29 (.bool true) (by decide) (Nf.dep_at hD (by kernel_rfl)) rfl)) ?_
 ·
  exact fun z L v hu hD=>⟨hu.1.put (by decide) (fun h=>absurd h (by decide)),hu.2.put (by decide) (fun h=>absurd h (by decide))⟩
 ·
  intro z L a v hk be hu hD t d
  have x8:a.eval (.tmp 8)=.pointer (some ⟨e.b8,0,none⟩):=Nf.eval_tmp (hk.bs (8,.pointer (some ⟨e.b8,0,none⟩)) (by simp[base19]))
  exact Go.Proofs.YtkeapmmochpcfaaGreat.Sd.run_load (x:=.tmp 8) (q:=0) (u:=sv e.s) (v:=sv e.r) (by kernel_rfl) x8 (((hE.bel be).tape t d).ev.bx.c 0 (v:=sv e.s) rfl) (((hE.bel be).tape t d).ev.bx.c 1 (v:=sv e.r) rfl)
theorem h19_33 (e:Pr) (x:Ix) (j:Sl) (v0:World) (B0:Nat->Prop) (hE:Ei e x v0) (hj:Rp.RdE v0 j (Rp.rat e.M x.tn).1):Nf.Hands Tryz.prog m0 (base 3) k cs (ops 19) (I19 e x j v0 B0) 33:=by
 refine Nf.hands_plain good quiets (o:=((ops 19)[33]?).getD default) (by kernel_rfl) (by kernel_rfl) (by decide) (by decide) (by rfl) (by decide) (f:=13) (args:=#[.tmp 143,.tmp 144]) (ats:=#[32,32]) (by kernel_rfl) Tryz.func13 (by decide) rfl (by kernel_rfl) (by kernel_rfl) (fun i=>rfl) (x:=fun z=>.bool true) (fun z=>rfl) ?_ (fun z L a hk hD=>Nf.wanted_of (j:=29) (by kernel_rfl) (og:=((ops 19)[29]?).getD default) (by kernel_rfl) (d:=141) (by kernel_rfl) (hk.kn 29 (.bool true) (by decide) (Nf.dep_at hD (by kernel_rfl)) rfl)) ?_
 ·
  exact fun z L v v' hu kb=>⟨(hu.1.bel (fun q=>q.bel kb)).put (by decide) (fun h=>absurd h (by decide)),(hu.2.bel (fun q=>⟨q.1.bel kb,q.2.bel kb⟩)).put (by decide) (fun h=>absurd h (by decide))⟩
 ·
  intro z L a v hk be hu hD t d
  have x143:a.eval (.tmp 143)=.agg #[sv z.2.1,sv z.2.2]:=Nf.eval_tmp (hk.kn 31 _ (by decide) (Nf.dep_at hD (by kernel_rfl)) rfl)
  have x144:a.eval (.tmp 144)=.agg #[sv e.s,sv e.r]:=Nf.eval_tmp (hk.kn 32 _ (by decide) (Nf.dep_at hD (by kernel_rfl)) rfl)
  rw[show ((#[.tmp 143,.tmp 144]:Array Operand).map a.eval)=#[.agg #[sv z.2.1,sv z.2.2],.agg #[sv e.s,sv e.r]] from by simp[x143,x144]]
  have E:=(hE.bel be).tape t d
  have Q:=hu.2.1 (Nf.dep_at (j:=31) hD (by kernel_rfl))
  exact Rp.likeReplica_same z.2.1 z.2.2 e.s e.r e.J _ Q.1.tape Q.2.tape E.ev.hE E.ev.hM (whl_small E.ev.hJ)
theorem h19_34 (e:Pr) (x:Ix) (j:Sl) (v0:World) (B0:Nat->Prop) (hE:Ei e x v0) (hj:Rp.RdE v0 j (Rp.rat e.M x.tn).1):Nf.Hands Tryz.prog m0 (base 3) k cs (ops 19) (I19 e x j v0 B0) 34:=by
 refine Nf.hands_op good (fun i=>rfl) (o:=((ops 19)[34]?).getD default) (by kernel_rfl) (by kernel_rfl) (by decide) (by decide) (by rfl) (x:=fun z=>.bool true) (fun z=>rfl) (by decide) (by kernel_rfl) ?_ (fun z L a hk hD=>Nf.wanted_none (by kernel_rfl)) ?_
 ·
  exact fun z L v hu hD=>⟨hu.1.put (by decide) (fun h=>absurd h (by decide)),hu.2.put (by decide) (fun h=>absurd h (by decide))⟩
 ·
  intro z L a v hk be hu hD t d
  have x141:a.eval (.tmp 141)=.bool true:=Nf.eval_tmp (hk.kn 29 _ (by decide) (Nf.dep_at hD (by kernel_rfl)) rfl)
  have x145:a.eval (.tmp 145)=.bool true:=Nf.eval_tmp (hk.kn 33 _ (by decide) (Nf.dep_at hD (by kernel_rfl)) rfl)
  exact Nf.ev_pick (x:=.tmp 141) (y:=.tmp 145) (z:=.const (.bool false)) (t:=true) (by kernel_rfl) x141 x145
theorem h19_35 (e:Pr) (x:Ix) (j:Sl) (v0:World) (B0:Nat->Prop) (hE:Ei e x v0) (hj:Rp.RdE v0 j (Rp.rat e.M x.tn).1):Nf.Hands Tryz.prog m0 (base 3) k cs (ops 19) (I19 e x j v0 B0) 35:=by
 refine Nf.hands_op good (fun i=>rfl) (o:=((ops 19)[35]?).getD default) (by kernel_rfl) (by kernel_rfl) (by decide) (by decide) (by rfl) (x:=fun z=>.bool true) (fun z=>rfl) (by decide) (by kernel_rfl) ?_ (fun z L a hk hD=>Nf.wanted_none (by kernel_rfl)) ?_
 ·
  exact fun z L v hu hD=>⟨hu.1.put (by decide) (fun h=>absurd h (by decide)),hu.2.put (by decide) (fun h=>absurd h (by decide))⟩
 ·
  intro z L a v hk be hu hD t d
  have x146:a.eval (.tmp 146)=.bool true:=Nf.eval_tmp (hk.kn 34 _ (by decide) (Nf.dep_at hD (by kernel_rfl)) rfl)
  exact Nf.ev_move (x:=.tmp 146) (by kernel_rfl) x146
theorem h19_36 (e:Pr) (x:Ix) (j:Sl) (v0:World) (B0:Nat->Prop) (hE:Ei e x v0) (hj:Rp.RdE v0 j (Rp.rat e.M x.tn).1):Nf.Hands Tryz.prog m0 (base 3) k cs (ops 19) (I19 e x j v0 B0) 36:=by
 refine Nf.hands_op good (fun i=>rfl) (o:=((ops 19)[36]?).getD default) (by kernel_rfl) (by kernel_rfl) (by decide) (by decide) (by rfl) (x:=fun z=>pX e) (fun z=>rfl) (by decide) (by kernel_rfl) ?_ (fun z L a hk hD=>Nf.wanted_of (j:=35) (by kernel_rfl) (og:=((ops 19)[35]?).getD default) (by kernel_rfl) (d:=147) (by kernel_rfl) (hk.kn 35 (.bool true) (by decide) (Nf.dep_at hD (by kernel_rfl)) rfl)) ?_
 ·
  exact fun z L v hu hD=>⟨hu.1.put (by decide) (fun h=>absurd h (by decide)),hu.2.put (by decide) (fun h=>absurd h (by decide))⟩
 ·
  intro z L a v hk be hu hD t d
  have x6:a.eval (.tmp 6)=pX e:=Nf.eval_tmp (hk.bs (6,pX e) (by simp[base19]))
  exact Nf.ev_move (x:=.tmp 6) (by kernel_rfl) x6
theorem h19_37 (e:Pr) (x:Ix) (j:Sl) (v0:World) (B0:Nat->Prop) (hE:Ei e x v0) (hj:Rp.RdE v0 j (Rp.rat e.M x.tn).1):Nf.Hands Tryz.prog m0 (base 3) k cs (ops 19) (I19 e x j v0 B0) 37:=by
 refine Nf.hands_plain good quiets (o:=((ops 19)[37]?).getD default) (by kernel_rfl) (by kernel_rfl) (by decide) (by decide) (by rfl) (by decide) (f:=11) (args:=#[.tmp 148]) (ats:=#[24]) (by kernel_rfl) Tryz.func11 (by decide) rfl (by kernel_rfl) (by kernel_rfl) (fun i=>rfl) (x:=fun z=>.bool true) (fun z=>rfl) ?_ (fun z L a hk hD=>Nf.wanted_of (j:=35) (by kernel_rfl) (og:=((ops 19)[35]?).getD default) (by kernel_rfl) (d:=147) (by kernel_rfl) (hk.kn 35 (.bool true) (by decide) (Nf.dep_at hD (by kernel_rfl)) rfl)) ?_
 ·
  exact fun z L v v' hu kb=>⟨(hu.1.bel (fun q=>q.bel kb)).put (by decide) (fun h=>absurd h (by decide)),(hu.2.bel (fun q=>⟨q.1.bel kb,q.2.bel kb⟩)).put (by decide) (fun h=>absurd h (by decide))⟩
 ·
  intro z L a v hk be hu hD t d
  have x148:a.eval (.tmp 148)=pX e:=Nf.eval_tmp (hk.kn 36 _ (by decide) (Nf.dep_at hD (by kernel_rfl)) rfl)
  rw[show ((#[.tmp 148]:Array Operand).map a.eval)=#[pX e] from by simp[x148]]
  have E:=(hE.bel be).tape t d
  have C:=Rp.impl_GroupOk e.p2 e.q2 e.M _ E.ev.rx E.ev.sM.s E.ev.sM.l E.ev.sM.lb
  rw[E.ev.ml2,Rp.okG_tell E.ok E.ml.2 E.ml.1 E.tl] at C
  exact C
theorem h19_38 (e:Pr) (x:Ix) (j:Sl) (v0:World) (B0:Nat->Prop) (hE:Ei e x v0) (hj:Rp.RdE v0 j (Rp.rat e.M x.tn).1):Nf.Hands Tryz.prog m0 (base 3) k cs (ops 19) (I19 e x j v0 B0) 38:=by
 refine Nf.hands_op good (fun i=>rfl) (o:=((ops 19)[38]?).getD default) (by kernel_rfl) (by kernel_rfl) (by decide) (by decide) (by rfl) (x:=fun z=>.bool true) (fun z=>rfl) (by decide) (by kernel_rfl) ?_ (fun z L a hk hD=>Nf.wanted_none (by kernel_rfl)) ?_
 ·
  exact fun z L v hu hD=>⟨hu.1.put (by decide) (fun h=>absurd h (by decide)),hu.2.put (by decide) (fun h=>absurd h (by decide))⟩
 ·
  intro z L a v hk be hu hD t d
  have x147:a.eval (.tmp 147)=.bool true:=Nf.eval_tmp (hk.kn 35 _ (by decide) (Nf.dep_at hD (by kernel_rfl)) rfl)
  have x149:a.eval (.tmp 149)=.bool true:=Nf.eval_tmp (hk.kn 37 _ (by decide) (Nf.dep_at hD (by kernel_rfl)) rfl)
  exact Nf.ev_pick (x:=.tmp 147) (y:=.tmp 149) (z:=.const (.bool false)) (t:=true) (by kernel_rfl) x147 x149
theorem h19_39 (e:Pr) (x:Ix) (j:Sl) (v0:World) (B0:Nat->Prop) (hE:Ei e x v0) (hj:Rp.RdE v0 j (Rp.rat e.M x.tn).1):Nf.Hands Tryz.prog m0 (base 3) k cs (ops 19) (I19 e x j v0 B0) 39:=by
 refine Nf.hands_op good (fun i=>rfl) (o:=((ops 19)[39]?).getD default) (by kernel_rfl) (by kernel_rfl) (by decide) (by decide) (by rfl) (x:=fun z=>.bool true) (fun z=>rfl) (by decide) (by kernel_rfl) ?_ (fun z L a hk hD=>Nf.wanted_none (by kernel_rfl)) ?_
 ·
  exact fun z L v hu hD=>⟨hu.1.put (by decide) (fun h=>absurd h (by decide)),hu.2.put (by decide) (fun h=>absurd h (by decide))⟩
 ·
  intro z L a v hk be hu hD t d
  have x150:a.eval (.tmp 150)=.bool true:=Nf.eval_tmp (hk.kn 38 _ (by decide) (Nf.dep_at hD (by kernel_rfl)) rfl)
  exact Nf.ev_assign (x:=.tmp 150) (by kernel_rfl) x150
theorem hands19 [Go.ConcR.Payload] (e:Pr) (x:Ix) (j:Sl) (v0:World) (B0:Nat->Prop) (hE:Ei e x v0) (hj:Rp.RdE v0 j (Rp.rat e.M x.tn).1):∀ i,i<(ops 19).size->Nf.Hands Tryz.prog m0 (base 3) k cs (ops 19) (I19 e x j v0 B0) i:=by
 intro i hi
 have hi':i<40:=by
  have e:(ops 19).size=40:=by kernel_rfl
  omega
 clear hi
 match i,hi' with
 | 0,_=>exact h19_0 e x j v0 B0 hE hj
 | 1,_=>exact h19_1 e x j v0 B0 hE hj
 | 2,_=>exact h19_2 e x j v0 B0 hE hj
 | 3,_=>exact h19_3 e x j v0 B0 hE hj
 | 4,_=>exact h19_4 e x j v0 B0 hE hj
 | 5,_=>exact h19_5 e x j v0 B0 hE hj
 | 6,_=>exact h19_6 e x j v0 B0 hE hj
 | 7,_=>exact h19_7 e x j v0 B0 hE hj
 | 8,_=>exact h19_8 e x j v0 B0 hE hj
 | 9,_=>exact h19_9 e x j v0 B0 hE hj
 | 10,_=>exact h19_10 e x j v0 B0 hE hj
 | 11,_=>exact h19_11 e x j v0 B0 hE hj
 | 12,_=>exact h19_12 e x j v0 B0 hE hj
 | 13,_=>exact h19_13 e x j v0 B0 hE hj
 | 14,_=>exact h19_14 e x j v0 B0 hE hj
 | 15,_=>exact h19_15 e x j v0 B0 hE hj
 | 16,_=>exact h19_16 e x j v0 B0 hE hj
 | 17,_=>exact h19_17 e x j v0 B0 hE hj
 | 18,_=>exact h19_18 e x j v0 B0 hE hj
 | 19,_=>exact h19_19 e x j v0 B0 hE hj
 | 20,_=>exact h19_20 e x j v0 B0 hE hj
 | 21,_=>exact h19_21 e x j v0 B0 hE hj
 | 22,_=>exact h19_22 e x j v0 B0 hE hj
 | 23,_=>exact h19_23 e x j v0 B0 hE hj
 | 24,_=>exact h19_24 e x j v0 B0 hE hj
 | 25,_=>exact h19_25 e x j v0 B0 hE hj
 | 26,_=>exact h19_26 e x j v0 B0 hE hj
 | 27,_=>exact h19_27 e x j v0 B0 hE hj
 | 28,_=>exact h19_28 e x j v0 B0 hE hj
 | 29,_=>exact h19_29 e x j v0 B0 hE hj
 | 30,_=>exact h19_30 e x j v0 B0 hE hj
 | 31,_=>exact h19_31 e x j v0 B0 hE hj
 | 32,_=>exact h19_32 e x j v0 B0 hE hj
 | 33,_=>exact h19_33 e x j v0 B0 hE hj
 | 34,_=>exact h19_34 e x j v0 B0 hE hj
 | 35,_=>exact h19_35 e x j v0 B0 hE hj
 | 36,_=>exact h19_36 e x j v0 B0 hE hj
 | 37,_=>exact h19_37 e x j v0 B0 hE hj
 | 38,_=>exact h19_38 e x j v0 B0 hE hj
 | 39,_=>exact h19_39 e x j v0 B0 hE hj
 | _+40,h=>exact absurd h (by omega)
end Go.Proofs.YtkeapmmochpcfaaGreat.Gg
namespace Go.Proofs.YtkeapmmochpcfaaGreat.Gg
open Go Go.Conc Go.ChangeShapes Go.WideShapes Go.ChangeAt Go.RowKit
open Nf (Stand Bel Pz cutN restN EndQ HasEnd on)
open Bo (Box)
open Vv (Sl sv hidIt)
open Rc (BelowBy BelowBy.one wp_region_below calls_below calls_same)
def F8 (e:Pr) (W0:World) (T:Array Value) (x:World):Prop:=T.size=151∧(∀ p∈base6 e,T[p.1]?=some p.2)∧Bel W0.heap.size W0 x
theorem F8.tape {e:Pr} {W0:World}:∀ (T:Array Value) (x:World) (k:Nf.Tp) (d:Nat),F8 e W0 T x->F8 e W0 T (on x k d):=fun T x k d ⟨h1,h2,h3⟩=>⟨h1,h2,h3.on W0.tape k W0.drawn d⟩
theorem loop_wp (e:Pr) (W0 W:World) (hE:Ev e W) (be:Bel W0.heap.size W0 W) (hl:e.m2=e.m) (hrest:∀ i,i<e.m->(i:Int)≠e.t->Rp.rat e.M i=Rp.rat e.L i) (u:Nat->Value) :
  (cutN 1 (restN 8 body3)).wp Tryz.prog (EndQ false (F8 e W0)) ⟨#[.slice e.a0 e.len0 e.cap0,u 1,.bool false,pG e,.int .i64 e.f,.int .i64 e.t,pX e,.bool e.b,.pointer (some ⟨e.b8,0,none⟩),u 9,u 10,u 11,u 12,u 13,u 14,u 15,u 16,u 17,u 18,u 19,u 20,u 21,u 22,u 23,u 24,u 25,u 26,u 27,u 28,u 29,u 30,u 31,u 32,u 33,u 34,u 35,u 36,u 37,u 38,u 39,u 40,u 41,u 42,u 43,u 44,u 45,u 46,u 47,u 48,u 49,u 50,u 51,u 52,u 53,u 54,u 55,u 56,u 57,u 58,u 59,u 60,u 61,u 62,u 63,u 64,u 65,u 66,u 67,u 68,u 69,u 70,u 71,u 72,u 73,u 74,u 75,u 76,u 77,u 78,u 79,u 80,u 81,u 82,u 83,u 84,u 85,u 86,u 87,u 88,u 89,u 90,u 91,u 92,u 93,u 94,u 95,u 96,u 97,u 98,u 99,u 100,u 101,u 102,u 103,u 104,u 105,u 106,u 107,u 108,u 109,u 110,u 111,u 112,u 113,u 114,u 115,u 116,u 117,u 118,u 119,u 120,u 121,u 122,u 123,u 124,u 125,u 126,u 127,u 128,u 129,u 130,u 131,u 132,u 133,u 134,u 135,u 136,u 137,u 138,u 139,u 140,u 141,u 142,u 143,u 144,u 145,u 146,u 147,u 148,u 149,u 150],[]⟩ W:=by
 have HF:Hid (∀ x T,T.size=151->(∀ p∈base6 e,T[p.1]?=some p.2)->Below W.heap.size W x->F8 e W0 T x):=hidIt (fun x T h1 h2 h3=>⟨h1,h2,be.trans ((Bel.of h3).mono be.size)⟩)
 have hb:base6 e=[(0,.slice e.a0 e.len0 e.cap0),(2,.bool false),(3,.slice e.p e.m e.q),(4,.int .i64 e.f),(5,.int .i64 e.t),(6,.slice e.p2 e.m e.q2),(7,.bool e.b),(8,.pointer (some ⟨e.b8,0,none⟩))]:=by
  unfold base6 pG pX
  rw[hl]
 rw[hb] at HF
 clear hb
 rw[show pG e=.slice e.p e.m e.q from rfl,show pX e=.slice e.p2 e.m e.q2 by rw[pX,hl]]
 have HR:=hidIt hE.rg
 have HX:=hidIt hE.rx
 have HM:=hidIt hE.ml
 have HM2:=hidIt (hE.ml2.trans hl)
 have HBU:=hidIt (fun i (hi:i<e.m)=>hE.sm.one i (by rw[hE.ml];exact hi))
 have HREST:=hidIt hrest
 have hm6:e.m<=6:=hE.ml ▸ hE.sm.n
 clear hE be hl hrest
 generalize F8 e W0=FF at HF ⊢
 generalize e.a0=a0 at *
 generalize e.len0=len0 at *
 generalize e.cap0=cap0 at *
 generalize e.p=p at *
 generalize e.m=m at *
 generalize e.q=q at *
 generalize e.f=f at *
 generalize e.t=t at *
 generalize e.p2=p2 at *
 generalize e.q2=q2 at *
 generalize e.b=b at *
 generalize e.b8=b8 at *
 generalize e.L=L at *
 generalize e.M=M at *
 simp only[body3,cutN,restN,Tryz.f3,Option.getD_some]
 go_wp2_with (fail)
 go_loopw [2,11] (fun z y wx=>∃ (i:Nat),z=.bool false∧y=.int .i64 i∧i<=m∧Hid (Below W.heap.size W wx)) (fun _ y _=>(m - intOf y).toNat)
 case atStart=>exact⟨0,rfl,rfl,by omega,hidIt (Below.refl _ _)⟩
 case round =>
  obtain⟨i,rfl,rfl,hi,HB⟩:=hrel
  by_cases hin:i<m
  ·
   have hin':(i:Int)<(m:Int):=by omega
   have hi0:(0:Int)<=(i:Int):=by omega
   by_cases hit:(i:Int)=t
   ·
    have hne:((i:Int) != t)=false:=by simp[hit]
    clear HREST
    haveI:=BelowBy.one wr
    go_wp2_with (fail)
    refine wp_region_below (by kernel_rfl) (by kernel_rfl) ?_
    repeat (go_big_quiet_step (fail))
    refine wpQuiet_nil ?_
    intro _ hw'
    obtain⟨pq,rfl⟩:=hw'
    have HB1:=hidIt (Rp.on HB.out pq.h)
    generalize pq.world=w2 at HB1 ⊢
    go_wp2_with (fail)
    exact⟨⟨i+1,rfl,by (try simp);(try omega),by omega,HB1⟩,by simp[intOf];omega⟩
   ·
    have hne:((i:Int) != t)=true:=by simp[hit]
    have hb1:=HBU.out i hin
    obtain⟨b1,off,x,y,rfl,c0,c1,rE,rM⟩:=(HX.out.kept HB.out).one (i:=i) (by rw[HM2.out];exact hin)
    obtain⟨b2,off2,s,r,rfl,d0,d1,rE',rM'⟩:=(HR.out.kept HB.out).one (i:=i) (by rw[HM.out];exact hin)
    rw[HREST.out i hin hit] at rE rM
    have CE:=hidIt (fun V (k:Below wr.heap.size wr V)=>Rp.likeReplica_same x y s r (Rp.rat L i) V (rE.kept k) (rM.kept k) (rE'.kept k) (rM'.kept k) (by omega))
    clear rE rM rE' rM' hb1
    obtain⟨x0,x1,x2⟩:=x
    obtain⟨y0,y1,y2⟩:=y
    obtain⟨s0,s1,s2⟩:=s
    obtain⟨r0,r1,r2⟩:=r
    simp only[sv] at c0 c1 d0 d1 CE
    haveI:=BelowBy.one wr
    have f0:=fun p:BelowBy wr=>p.cell c0
    have f1:=fun p:BelowBy wr=>p.cell c1
    have g0:=fun p:BelowBy wr=>p.cell d0
    have g1:=fun p:BelowBy wr=>p.cell d1
    clear c0 c1 d0 d1
    go_wp2_with (fail)
    refine wp_region_below (by kernel_rfl) (by kernel_rfl) ?_
    repeat (go_big_quiet_step (first | (go_at_call 13;refine calls_below (CE.out _ (BelowBy.h _)))))
    refine wpQuiet_nil ?_
    intro _ hw'
    obtain⟨pq,rfl⟩:=hw'
    have HB1:=hidIt (Rp.on HB.out pq.h)
    generalize pq.world=w2 at HB1 ⊢
    clear f0 f1 g0 g1
    go_wp2_with (fail)
    exact⟨⟨i+1,rfl,by (try simp);(try omega),by omega,HB1⟩,by simp[intOf];omega⟩
  ·
   have hin':¬ (i:Int)<(m:Int):=by omega
   go_wp2_with (fail)
   exact⟨rfl,rfl,HF.out _ _ rfl (by simp) HB.out⟩
end Go.Proofs.YtkeapmmochpcfaaGreat.Gg
namespace Go.Proofs.YtkeapmmochpcfaaGreat.Gg
open Go Go.Conc Go.ChangeShapes Go.WideShapes Go.ChangeAt Go.RowKit
open Nf (Stand Bel Pz cutN restN EndQ HasEnd on)
open Bo (Box)
open Vv (Sl sv hidIt)
open Sd (K good quiets whole_stand)
structure Ks (Bk:List (Nat × Value)) (a:Act):Prop where
 df:a.defers=[]
 sz:a.tmps.size=151
 bs:∀ p∈Bk,a.tmps[p.1]?=some p.2
theorem Ks.put {Bk:List (Nat × Value)} {a:Act} (h:Ks Bk a) {d:Nat} {x:Value} (hd:(Bk.all fun p=>p.1 != d)=true):Ks Bk (a.put (some d) x) :=
 ⟨h.df,by rw[Nf.put_tmps,Array.size_setIfInBounds];exact h.sz,fun p hp=>by
  have q:=List.all_eq_true.1 hd p hp
  rw[Nf.put_ne (fun e=>by simp[e] at q)]
  exact h.bs p hp⟩
theorem Ks.add {Bk:List (Nat × Value)} {a:Act} (h:Ks Bk a) {d:Nat} {x:Value} (hx:a.tmps[d]?=some x):Ks (Bk++[(d,x)]) a :=
 ⟨h.df,h.sz,fun p hp=>by
  rcases List.mem_append.1 hp with q | q
  ·
   exact h.bs p q
  ·
   obtain rfl:p=(d,x):=by simpa using q
   exact hx⟩
theorem Ks.sub {Bk Bk':List (Nat × Value)} {a:Act} (h:Ks Bk a) (hs:∀ p∈Bk',p∈Bk):Ks Bk' a:=⟨h.df,h.sz,fun p hp=>h.bs p (hs p hp)⟩
theorem step6 {m0:Machine} {k:List Item} {cs:List Frame} {B:Nat->Prop} {v:World} {a:Act} (e:Pr) (hE:Ev e v) (hs:Ks (base6 e) a)
  (h:Stand Tryz.prog m0 B (G ((base 3).at a (.code (.region 6 (ops 6) false)::k)) cs) v) :
  ∃ a' v' B',Stand Tryz.prog m0 B' (G ((base 3).at a' k) cs) v'∧Bel v.heap.size v v'∧(∀ b,B' b->B b∨v.heap.size<=b)∧∃ y:Sl,Ks (base7 e y) a'∧Rp.Rd v' y.1 e.M∧y.2.1=e.m2:=by
 have esz:(ops 6).size=9:=by kernel_rfl
 obtain⟨a',v',B',L',h',⟨z,hk,be,bb,hu⟩,hL⟩:=Nf.stand_inorder (by kernel_rfl) (hands6 e v B hE) (by rw[esz];exact⟨(none,0,0),Nf.Kn.init hs.df hs.sz hs.bs,Bel.refl _ _,fun b hb=>.inl hb,Nf.Uc.init (by decide) (by decide)⟩) h
 have kn:=fun i x (hi:i<9) hx=>hk.kn i x hi (hL i) hx
 exact⟨a',v',B',h',be,bb,z,⟨hk.df,hk.sz,fun p hp=>by
  rcases List.mem_append.1 hp with q | q
  ·
   exact hk.bs p q
  ·
   rcases List.mem_cons.1 q with rfl | q
   ·
    exact kn 7 _ (by decide) rfl
   ·
    obtain rfl:p=(10,.bool e.b):=by simpa using q
    exact kn 8 _ (by decide) rfl⟩,hu.1 (hL 3)⟩
theorem step7 {m0:Machine} {k:List Item} {cs:List Frame} {B:Nat->Prop} {v:World} {a:Act} (e:Pr) (y:Sl) (hE:Ev e v) (hy:Rp.Rd v y.1 e.M∧y.2.1=e.m2) (hs:Ks (base7 e y) a)
  (h:Stand Tryz.prog m0 B (G ((base 3).at a (.code (.region 7 (ops 7) true)::k)) cs) v) :
  ∃ a' v' B',Stand Tryz.prog m0 B' (G ((base 3).at a' k) cs) v'∧Bel v.heap.size v v'∧(∀ b,B' b->B b∨v.heap.size<=b)∧Ks (base6 e) a'∧a'.tmps[60]?=some (.bool false):=by
 have esz:(ops 7).size=23:=by kernel_rfl
 obtain⟨a',v',B',L',h',⟨z,hk,be,bb,hu⟩,hL⟩:=Nf.stand_any (by kernel_rfl) (by kernel_rfl) (hands7 e y v B hE hy) (by rw[esz];exact⟨((none,0,0),(none,0,0)),Nf.Kn.init hs.df hs.sz hs.bs,Bel.refl _ _,fun b hb=>.inl hb,Nf.Uc.init (by decide) (by decide)⟩) h
 have kn:=fun i x (hi:i<23) hx=>hk.kn i x hi (hL i) hx
 exact⟨a',v',B',h',be,bb,⟨hk.df,hk.sz,fun p hp=>hk.bs p (List.mem_append_left _ hp)⟩,kn 22 _ (by decide) rfl⟩
theorem step9 {m0:Machine} {k:List Item} {cs:List Frame} {B:Nat->Prop} {v:World} {a:Act} (e:Pr) (hE:Ev e v) (hs:Ks (base6 e) a)
  (h:Stand Tryz.prog m0 B (G ((base 3).at a (.code (.region 9 (ops 9) false)::k)) cs) v) :
  ∃ a' v' B',Stand Tryz.prog m0 B' (G ((base 3).at a' k) cs) v'∧Bel v.heap.size v v'∧(∀ b,B' b->B b∨v.heap.size<=b)∧Ks (base6 e) a'∧a'.tmps[63]?=some (.bool (!Rp.okG e.L)):=by
 have esz:(ops 9).size=3:=by kernel_rfl
 obtain⟨a',v',B',L',h',⟨z,hk,be,bb,hu⟩,hL⟩:=Nf.stand_inorder (by kernel_rfl) (hands9 e v B hE) (by rw[esz];exact⟨(),Nf.Kn.init hs.df hs.sz hs.bs,Bel.refl _ _,fun b hb=>.inl hb,⟨fun _=>trivial,fun j hj=>absurd hj (by simp)⟩⟩) h
 have kn:=fun i x (hi:i<3) hx=>hk.kn i x hi (hL i) hx
 exact⟨a',v',B',h',be,bb,⟨hk.df,hk.sz,hk.bs⟩,kn 2 _ (by decide) rfl⟩
theorem step10 {m0:Machine} {k:List Item} {cs:List Frame} {B:Nat->Prop} {v:World} {a:Act} (e:Pr) (hE:Ev e v) (ok:Rp.okG e.L=false) (hs:Ks (baseN e) a)
  (h:Stand Tryz.prog m0 B (G ((base 3).at a (.code (.region 10 (ops 10) false)::k)) cs) v) :
  ∃ a' v' B',Stand Tryz.prog m0 B' (G ((base 3).at a' k) cs) v'∧Bel v.heap.size v v'∧(∀ b,B' b->B b∨v.heap.size<=b)∧a'.defers=[]∧a'.tmps[2]?=some (.bool true):=by
 have esz:(ops 10).size=9:=by kernel_rfl
 obtain⟨a',v',B',L',h',⟨z,hk,be,bb,hu⟩,hL⟩:=Nf.stand_inorder (by kernel_rfl) (hands10 e v B hE ok) (by rw[esz];exact⟨(),Nf.Kn.init hs.df hs.sz hs.bs,Bel.refl _ _,fun b hb=>.inl hb,⟨fun _=>trivial,fun j hj=>absurd hj (by simp)⟩⟩) h
 have kn:=fun i x (hi:i<9) hx=>hk.kn i x hi (hL i) hx
 exact⟨a',v',B',h',be,bb,hk.df,kn 8 _ (by decide) rfl⟩
theorem step11 {m0:Machine} {k:List Item} {cs:List Frame} {B:Nat->Prop} {v:World} {a:Act} (e:Pr) (hE:Ev e v) (hs:Ks (base6 e) a)
  (h:Stand Tryz.prog m0 B (G ((base 3).at a (.code (.region 11 (ops 11) false)::k)) cs) v) :
  ∃ a' v' B',Stand Tryz.prog m0 B' (G ((base 3).at a' k) cs) v'∧Bel v.heap.size v v'∧(∀ b,B' b->B b∨v.heap.size<=b)∧Ks (base6 e) a'∧a'.tmps[73]?=some (.bool (!e.b)):=by
 have esz:(ops 11).size=2:=by kernel_rfl
 obtain⟨a',v',B',L',h',⟨z,hk,be,bb,hu⟩,hL⟩:=Nf.stand_inorder (by kernel_rfl) (hands11 e v B hE) (by rw[esz];exact⟨(),Nf.Kn.init hs.df hs.sz hs.bs,Bel.refl _ _,fun b hb=>.inl hb,⟨fun _=>trivial,fun j hj=>absurd hj (by simp)⟩⟩) h
 have kn:=fun i x (hi:i<2) hx=>hk.kn i x hi (hL i) hx
 exact⟨a',v',B',h',be,bb,⟨hk.df,hk.sz,hk.bs⟩,kn 1 _ (by decide) rfl⟩
theorem step12 {m0:Machine} {k:List Item} {cs:List Frame} {B:Nat->Prop} {v:World} {a:Act} (e:Pr) (hE:Ev e v) (hML:e.M=e.L) (hs:Ks (baseN e) a)
  (h:Stand Tryz.prog m0 B (G ((base 3).at a (.code (.region 12 (ops 12) false)::k)) cs) v) :
  ∃ a' v' B',Stand Tryz.prog m0 B' (G ((base 3).at a' k) cs) v'∧Bel v.heap.size v v'∧(∀ b,B' b->B b∨v.heap.size<=b)∧a'.defers=[]∧a'.tmps[2]?=some (.bool true):=by
 have esz:(ops 12).size=4:=by kernel_rfl
 obtain⟨a',v',B',L',h',⟨z,hk,be,bb,hu⟩,hL⟩:=Nf.stand_inorder (by kernel_rfl) (hands12 e v B hE hML) (by rw[esz];exact⟨(),Nf.Kn.init hs.df hs.sz hs.bs,Bel.refl _ _,fun b hb=>.inl hb,⟨fun _=>trivial,fun j hj=>absurd hj (by simp)⟩⟩) h
 have kn:=fun i x (hi:i<4) hx=>hk.kn i x hi (hL i) hx
 exact⟨a',v',B',h',be,bb,hk.df,kn 3 _ (by decide) rfl⟩
theorem step18 {m0:Machine} {k:List Item} {cs:List Frame} {B:Nat->Prop} {v:World} {a:Act} (e:Pr) (x:Ix) (hE:Ei e x v) (hs:Ks (base6 e) a)
  (h:Stand Tryz.prog m0 B (G ((base 3).at a (.code (.region 18 (ops 18) true)::k)) cs) v) :
  ∃ a' v' B',Stand Tryz.prog m0 B' (G ((base 3).at a' k) cs) v'∧Bel v.heap.size v v'∧(∀ b,B' b->B b∨v.heap.size<=b)∧∃ j:Sl,Ks (base19 e j) a'∧Rp.RdE v' j (Rp.rat e.M x.tn).1:=by
 have esz:(ops 18).size=16:=by kernel_rfl
 obtain⟨a',v',B',L',h',⟨z,hk,be,bb,hu⟩,hL⟩:=Nf.stand_any (by kernel_rfl) (by kernel_rfl) (hands18 e x v B hE) (by rw[esz];exact⟨(none,0,0),Nf.Kn.init hs.df hs.sz hs.bs,Bel.refl _ _,fun b hb=>.inl hb,Nf.Uc.init (by decide) (by decide)⟩) h
 have kn:=fun i x (hi:i<16) hx=>hk.kn i x hi (hL i) hx
 exact⟨a',v',B',h',be,bb,z,⟨hk.df,hk.sz,fun p hp=>by
  simp only[base19,List.mem_cons,List.not_mem_nil,or_false] at hp
  rcases hp with rfl | rfl | rfl | rfl | rfl | rfl | rfl
  ·
   exact hk.bs (3,pG e) (by simp[base6])
  ·
   exact hk.bs (4,.int .i64 e.f) (by simp[base6])
  ·
   exact hk.bs (5,.int .i64 e.t) (by simp[base6])
  ·
   exact hk.bs (6,pX e) (by simp[base6])
  ·
   exact hk.bs (8,.pointer (some ⟨e.b8,0,none⟩)) (by simp[base6])
  ·
   exact kn 14 _ (by decide) rfl
  ·
   exact kn 15 _ (by decide) rfl⟩,hu.1 (hL 10)⟩
theorem step19 [Go.ConcR.Payload] {m0:Machine} {k:List Item} {cs:List Frame} {B:Nat->Prop} {v:World} {a:Act} (e:Pr) (x:Ix) (j:Sl) (hE:Ei e x v) (hj:Rp.RdE v j (Rp.rat e.M x.tn).1) (hs:Ks (base19 e j) a)
  (h:Stand Tryz.prog m0 B (G ((base 3).at a (.code (.region 19 (ops 19) true)::k)) cs) v) :
  ∃ a' v' B',Stand Tryz.prog m0 B' (G ((base 3).at a' k) cs) v'∧Bel v.heap.size v v'∧(∀ b,B' b->B b∨v.heap.size<=b)∧a'.defers=[]∧a'.tmps[2]?=some (.bool true):=by
 have esz:(ops 19).size=40:=by kernel_rfl
 obtain⟨a',v',B',L',h',⟨z,hk,be,bb,hu⟩,hL⟩:=Nf.stand_any (by kernel_rfl) (by kernel_rfl) (hands19 e x j v B hE hj) (by rw[esz];exact⟨((none,0,0),((none,0,0),(none,0,0))),Nf.Kn.init hs.df hs.sz hs.bs,Bel.refl _ _,fun b hb=>.inl hb,⟨Nf.Uc.init (by decide) (by decide),Nf.Uc.init (by decide) (by decide)⟩⟩) h
 have kn:=fun i x (hi:i<40) hx=>hk.kn i x hi (hL i) hx
 exact⟨a',v',B',h',be,bb,hk.df,kn 39 _ (by decide) rfl⟩
end Go.Proofs.YtkeapmmochpcfaaGreat.Gg
