/- The heap's Push, Pop and Fix over the program's rests, however many; the program's next. -/
import Derived.Test.YtkeapmmochpcfaaGreatBun23
import Derived.Test.YtkeapmmochpcfaaGreatBun3
import Derived.Test.YtkeapmmochpcfaaGreatBun4
import Derived.Test.YtkeapmmochpcfaaGreatBun17
import Derived.Test.YtkeapmmochpcfaaGreatBokJ
import Derived.Test.YtkeapmmochpcfaaGreatBun5
import Derived.Test.YtkeapmmochpcfaaGreatBun21
set_option maxRecDepth 100000
set_option maxHeartbeats 32000000
set_option linter.unusedVariables false
namespace Go.Proofs.YtkeapmmochpcfaaGreat.En
open Go.ChangeShapes Go.WideShapes Go.ChangeAt Go.RowKit
open Bk (Bytes okE newB okBk Ris IsJoin joinB lessE)
open Go.Proofs.YtkeapmmochpcfaaGreat.Hq
attribute [local go_sem] m_Len m_Less m_Swap m_Push m_Pop as_book
def NxS (w:World) (base b g cap n:Nat) (x:Nat->Rt):Prop:=∃ x',Sq w base b g cap n x'∧Hok leR n x'∧Per n x x'
def PuS (w:World) (base b n:Nat) (x:Nat->Rt):Prop:=∃ g cap,NxS w base b g cap n x
theorem up_at {w:World} {base b g cap n:Nat} {x:Nat->Rt} (j:Nat) (a:Int) (ha:a=(j:Int)) (h:Sq w base b g cap n x) (hj:j<n) (hn:n<=1000) (hu:Uok leR n x j) :
  Calls Tryz.prog 105 #[hI b,.int .i64 a] w fun e w'=>e=.returned (.tuple #[])∧HpR w w' base b g cap n x:=by
 subst ha
 exact up_any h hj hn hu
theorem down_at {w:World} {base b g cap N n:Nat} {x:Nat->Rt} (a:Int) (ha:a=(n:Int)) (h:Sq w base b g cap N x) (hnN:n<=N) (hN:N<=1000) (hd:Dok leR n x 0) :
  Calls Tryz.prog 115 #[hI b,.int .i64 0,.int .i64 a] w fun e w'=>(∃ r:Bool,e=.returned (.bool r))∧DnR w w' base b g cap N n x:=by
 subst ha
 exact down_any (j:=0) h hnN hN hd
theorem heap_PushN {w:World} {base b g cap n:Nat} {x:Nat->Rt} (h:Sq w base b g cap n x) (hk:Hok leR n x) (hn:n<1000) (y:Rt) (hy:El w base y.p y.o y.k y.L) (hbs:base<=w.heap.size) :
  Calls Tryz.prog 67 #[hI b,.iface 29 y.v] w fun e w'=>e=.returned (.tuple #[])∧PuS w' base b (n+1) (upd x n y)∧Below base w w':=by
 have CP:=hidIt (rests_Push (p:=y.p) (o:=y.o) (n:=y.L.length) (c:=y.k) h.rs (by rw[vals_len];omega) hbs)
 have CL:=hidIt (fun a n c W=>rests_Len a n c W)
 have HE:Hid (∀ W,Below base w W->∀ i,i<n+1->El W base (upd x n y i).p (upd x n y i).o (upd x n y i).k (upd x n y i).L):=hidIt (fun W k i hi=>by
  by_cases e:i=n
  ·
   subst e
   rw[upd_at]
   exact hy.low k
  ·
   rw[upd_ne e]
   exact (h.el i (by omega)).low k)
 have HQ:Hid (∀ W,Below base w W->Rs W base b (vals x n++[y.v])->∃ g cap,Sq W base b g cap (n+1) (upd x n y)):=hidIt (fun W k r=>Rs.sq (by rw[vals_push];exact r) (HE.out W k))
 have HU:=hidIt (push_ok hk y)
 have HB:=hidIt h.hb
 clear h hy hk HE
 generalize upd x n y=z at HQ HU ⊢
 generalize vals x n=vs at CP HQ
 go_enter Tryz.func67,Tryz.ntmps67
 go_wp2_with (fail)
 refine CP.out.mono ?_
 rintro e w1 ⟨rfl,r1,k1⟩
 obtain⟨g1,cap1,s1⟩:=HQ.out _ k1 r1
 have HS1:=hidIt s1
 have HK1:=hidIt k1
 have me:=s1.c
 clear s1 r1 k1 CP
 go_wp2_with (fail)
 refine (CL.out _ _ _ _).mono ?_
 rintro e w2 ⟨rfl,rfl⟩
 go_wp2_with (fail)
 refine (up_at n _ ?_ HS1.out (by omega) (by omega) HU.out).mono ?_
 ·
  first | omega | (simp;omega) | simp
 rintro e w3 ⟨rfl,⟨x3,s3,o3,p3⟩,f3⟩
 have HR:Hid (PuS w3 base b (n+1) z):=hidIt ⟨g1,cap1,x3,s3,o3,p3⟩
 have HK3:=hidIt (HK1.out.trans (f3.below HB.out HS1.out.gl.1 (Nat.le_trans hbs HK1.out.size)))
 clear s3 o3 p3 f3
 go_wp2_with (fail)
 exact bodyPost_end (v:=.tuple #[]) (by simp[results,Tryz.results67,go_sem]) rfl ⟨rfl,HR.out,HK3.out⟩
theorem heap_PopN {w:World} {base b g cap n:Nat} {x:Nat->Rt} (h:Sq w base b g cap (n+1) x) (hk:Hok leR (n+1) x) (hn:n<=999) :
  Calls Tryz.prog 103 #[hI b] w fun e w'=>(∃ v,e=.returned v)∧NxS w' base b g cap n (swp x 0 n)∧Fr b g w w':=by
 have CL:=hidIt (fun a n c W=>rests_Len a n c W)
 have me:=h.c
 have HS0:=hidIt h
 have HD:=hidIt (pop_ok hk)
 clear h hk
 have hn':(n:Int)<=999:=by omega
 go_enter Tryz.func103,Tryz.ntmps103
 go_wp2_with (fail)
 refine (CL.out _ _ _ _).mono ?_
 rintro e w2 ⟨rfl,rfl⟩
 go_wp2_with (fail)
 refine (rests_SwapI 0 n _ _ ?_ ?_ HS0.out (by omega) (by omega) (by omega)).mono ?_
 ·
  first | omega | rfl
 ·
  first | omega | (simp;omega) | simp
 rintro e w3 ⟨rfl,s3,f3⟩
 have HS3:=hidIt s3
 have HF3:=hidIt f3
 have me3:=s3.c
 clear s3 f3
 go_wp2_with (fail)
 refine (down_at (n:=n) _ ?_ HS3.out (by omega) (by omega) HD.out).mono ?_
 ·
  first | omega | (simp;omega) | simp
 rintro e w4 ⟨⟨r,rfl⟩,x4,s4,o4,p4,q4,f4⟩
 have HS4:=hidIt s4
 have HO4:=hidIt o4
 have HP4:=hidIt p4
 have HF4:=hidIt (HF3.out.trans f4)
 have me4:=s4.c
 clear s4 o4 p4 q4 f4
 go_wp2_with (fail)
 refine (rests_PopN HS4.out (by omega)).mono ?_
 rintro e w5 ⟨⟨v,rfl⟩,s5,f5⟩
 have HR:Hid (NxS w5 base b g cap n (swp x 0 n)):=hidIt ⟨x4,s5,HO4.out,HP4.out⟩
 have HF5:=hidIt (HF4.out.trans f5)
 clear s5 f5
 go_wp2_with (fail)
 go_ret
 exact⟨⟨_,rfl⟩,HR.out,HF5.out⟩
theorem heap_FixN {w:World} {base b g cap n:Nat} {x:Nat->Rt} (h:Sq w base b g cap n x) (hd:Dok leR n x 0) (hn:n<=1000) :
  Calls Tryz.prog 104 #[hI b,.int .i64 0] w fun e w'=>e=.returned (.tuple #[])∧NxS w' base b g cap n x∧Fr b g w w':=by
 have CL:=hidIt (fun a n c W=>rests_Len a n c W)
 have CU:=hidIt (fun W=>up_none b W)
 have me:=h.c
 have HS0:=hidIt h
 have HD:=hidIt hd
 clear h hd
 go_enter Tryz.func104,Tryz.ntmps104
 go_wp2_with (fail)
 refine (CL.out _ _ _ _).mono ?_
 rintro e w2 ⟨rfl,rfl⟩
 go_wp2_with (fail)
 refine (down_at (n:=n) _ ?_ HS0.out (Nat.le_refl _) hn HD.out).mono ?_
 ·
  rfl
 rintro e w4 ⟨⟨r,rfl⟩,x4,s4,o4,p4,q4,f4⟩
 have HR:Hid (NxS w4 base b g cap n x):=hidIt ⟨x4,s4,o4,p4⟩
 have HF4:=hidIt f4
 clear s4 o4 p4 q4 f4
 cases r with
 | false =>
  go_wp2_with (fail)
  refine (CU.out _).mono ?_
  rintro e w5 ⟨rfl,rfl⟩
  go_wp2_with (fail)
  exact bodyPost_end (v:=.tuple #[]) (by simp[results,Tryz.results104,go_sem]) rfl ⟨rfl,HR.out,HF4.out⟩
 | true =>
  go_wp2_with (fail)
  exact bodyPost_end (v:=.tuple #[]) (by simp[results,Tryz.results104,go_sem]) rfl ⟨rfl,HR.out,HF4.out⟩
theorem NxS.other {w:World} {base b g cap n d:Nat} {x:Nat->Rt} (h:NxS w base b g cap n x) (hb:d≠b) (hg:d≠g) (hd:base<=d) (i:Nat) (v:Value):NxS (w.setCell ⟨d,i,none⟩ v) base b g cap n x:=by
 obtain⟨y,s,o,p⟩:=h
 exact⟨y,s.other hb hg hd i v,o,p⟩
theorem last_nx {w0 w:World} {base b g cap n d:Nat} {y:Nat->Rt} (x:Rw) (h:NxS w base b g cap n y) (f:Fr b g w0 w) (hx:Bo.Box w d zE) (hd:w0.heap.size<=d) (hbd:base<=d) (hb:d≠b) (hg:d≠g) :
  NxS (((((w.setCell ⟨d,0,none⟩ (.string x.1)).setCell ⟨d,1,none⟩ (.string x.2.1)).setCell ⟨d,2,none⟩ (.int .i64 x.2.2.1)).setCell ⟨d,3,none⟩ (.int .i64 x.2.2.2.1)).setCell ⟨d,4,none⟩ (.bool x.2.2.2.2)) base b g cap n y ∧
  Fr b g w0 (((((w.setCell ⟨d,0,none⟩ (.string x.1)).setCell ⟨d,1,none⟩ (.string x.2.1)).setCell ⟨d,2,none⟩ (.int .i64 x.2.2.1)).setCell ⟨d,3,none⟩ (.int .i64 x.2.2.2.1)).setCell ⟨d,4,none⟩ (.bool x.2.2.2.2)) ∧
  Bo.Box (((((w.setCell ⟨d,0,none⟩ (.string x.1)).setCell ⟨d,1,none⟩ (.string x.2.1)).setCell ⟨d,2,none⟩ (.int .i64 x.2.2.1)).setCell ⟨d,3,none⟩ (.int .i64 x.2.2.2.1)).setCell ⟨d,4,none⟩ (.bool x.2.2.2.2)) d (rc x) :=
 ⟨((((h.other hb hg hbd 0 _).other hb hg hbd 1 _).other hb hg hbd 2 _).other hb hg hbd 3 _).other hb hg hbd 4 _,
 ((((f.setNew hd 0 _).setNew hd 1 _).setNew hd 2 _).setNew hd 3 _).setNew hd 4 _,
 ((((hx.put 0 _ (by decide) rfl).put 1 _ (by simp) rfl).put 2 _ (by simp) rfl).put 3 _ (by simp) rfl).put 4 _ (by simp) rfl⟩
theorem next_lastN {w:World} {base b g cap n p0 o0 k0:Nat} {y:Nat->Rt} {x:Rw} (h:Sq w base b g cap (n+1) y) (hk:Hok leR (n+1) y) (hn:n<=999) (h0:y 0=⟨p0,o0,k0,[x]⟩) :
  Calls Tryz.prog 66 #[.pointer (some ⟨b,0,none⟩)] w fun e w'=>e=.returned (rv x)∧NxS w' base b g cap n (swp y 0 n)∧Fr b g w w':=by
 have HA:=hidIt ((Below.refl w.heap.size w).alloc (Nat.le_refl _) (.cells zE 60))
 have HP:=hidIt (h.kept HA.out)
 have BX:=hidIt (Bo.Box.new w zE 60)
 have hbs:w.heap.size≠b:=by have:=h.bl;omega
 have hgs:w.heap.size≠g:=by have:=h.gl;omega
 have hbd:base<=w.heap.size:=by have:=h.gl;omega
 have me:=HP.out.c
 have r0:=HP.out.row (i:=0) (by omega)
 have f0:=HP.out.rf 0
 have E0:=HP.out.el 0 (by omega)
 rw[h0] at E0 r0
 simp only[Rt.v,List.length_singleton] at E0 r0
 have R0:=hidIt (fun W (k:Fr b g (w.alloc (.cells zE 60)) W)=>cells_one (E0.fr k h.hb h.gl.1).rd (by simp))
 have HFA:=hidIt (Fr.of_below (b:=b) (g:=g) HA.out)
 have CP:=hidIt (heap_PopN HP.out hk hn)
 clear h h0 E0 hk
 simp only[show rat [x] 0=x from rfl] at R0
 generalize swp y 0 n=z at CP ⊢
 go_enter Tryz.func66,Tryz.ntmps66
 go_wp2_with (fail)
 refine CP.out.mono ?_
 rintro e w1 ⟨⟨v,rfl⟩,h1,f1⟩
 obtain⟨c0,c1,c2,c3,c4⟩:=R0.out _ f1
 have BX1:=hidIt (box_fr BX.out f1 hbs hgs)
 have d0:=BX1.out.c 0 rfl
 have d1:=BX1.out.c 1 rfl
 have d2:=BX1.out.c 2 rfl
 have d3:=BX1.out.c 3 rfl
 have d4:=BX1.out.c 4 rfl
 have fz:=BX1.out.fr
 have HL:=hidIt (last_nx (w0:=w) x h1 (HFA.out.trans f1) BX1.out (Nat.le_refl _) hbd hbs hgs)
 clear h1 f1
 obtain⟨xk,xv,xt,xn,xg⟩:=x
 simp only at c0 c1 c2 c3 c4 HL
 go_wp2_with (fail)
 generalize (((((w1.setCell ⟨w.heap.size,0,none⟩ (.string xk)).setCell ⟨w.heap.size,1,none⟩ (.string xv)).setCell ⟨w.heap.size,2,none⟩ (.int .i64 xt)).setCell ⟨w.heap.size,3,none⟩ (.int .i64 xn)).setCell ⟨w.heap.size,4,none⟩ (.bool xg))=w9 at HL ⊢
 have BX9:=HL.out.2.2
 have t0:=BX9.c 0 rfl
 have t1:=BX9.c 1 rfl
 have t2:=BX9.c 2 rfl
 have t3:=BX9.c 3 rfl
 have t4:=BX9.c 4 rfl
 refine bodyPost_ret (v:=.agg #[.string xk,.string xv,.int .i64 xt,.int .i64 xn,.bool xg]) (by simp[results,Tryz.results66,go_sem,t0,t1,t2,t3,t4]) rfl ⟨rfl,HL.out.1,HL.out.2.1⟩
theorem next_moreN {w:World} {base b g cap n p0 o0 k0 m:Nat} {z:Nat->Rt} {x y:Rw} {L:List Rw} (h:Sq w base b g cap (n+1) z) (hk:Hok leR (n+1) z) (hn:n<=999) (h0:z 0=⟨p0,o0,k0,x::y::L⟩) (hm:L.length=m) :
  Calls Tryz.prog 66 #[.pointer (some ⟨b,0,none⟩)] w fun e w'=>e=.returned (rv x)∧NxS w' base b g cap (n+1) (upd z 0 ⟨p0,o0+5,k0 - 1,y::L⟩)∧Fr b g w w':=by
 have HA:=hidIt ((Below.refl w.heap.size w).alloc (Nat.le_refl _) (.cells zE 60))
 have HP:=hidIt (h.kept HA.out)
 have BX:=hidIt (Bo.Box.new w zE 60)
 have hbs:w.heap.size≠b:=by have:=h.bl;omega
 have hgs:w.heap.size≠g:=by have:=h.gl;omega
 have hbd:base<=w.heap.size:=by have:=h.gl;omega
 have me:=HP.out.c
 have r0:=HP.out.row (i:=0) (by omega)
 have f0:=HP.out.rf 0
 have E0:=HP.out.el 0 (by omega)
 rw[h0] at E0 r0
 simp only[Rt.v,List.length_cons,hm] at E0 r0
 have hk0:m+1+1<=k0:=by have:=E0.cap;simp[hm] at this;omega
 have R0:=hidIt (fun W (k:Fr b g (w.alloc (.cells zE 60)) W)=>cells_one (E0.fr k h.hb h.gl.1).rd (by simp))
 have HFA:=hidIt (Fr.of_below (b:=b) (g:=g) HA.out)
 have E1:El (w.alloc (.cells zE 60)) base p0 (o0+5) (k0 - 1) (y::L):=⟨E0.rd.tail,E0.lt,by simp,by simp[hm];omega⟩
 have HS:=hidIt ((HP.out.put (i:=0) (by omega) ⟨p0,o0+5,k0 - 1,y::L⟩ E1).drew)
 have HFS:=hidIt (((Fr.refl b g (w.alloc (.cells zE 60))).setG 0 (Rt.v ⟨p0,o0+5,k0 - 1,y::L⟩)).drew)
 have CF:=hidIt (heap_FixN HS.out (fix_ok hk _) (by omega))
 clear h h0 E0 E1 hk
 generalize upd z 0 ⟨p0,o0+5,k0 - 1,y::L⟩=zz at CF HS ⊢
 simp only[Rt.v,List.length_cons,hm] at CF HS HFS
 simp only[show rat (x::y::L) 0=x from rfl] at R0
 have hk1:(1:Int)<=((m+1+1:Nat):Int):=by omega
 have hk2:((m+1+1:Nat):Int)<=(k0:Int):=by omega
 have hk3:¬ ((m+1+1:Nat):Int)=1:=by omega
 have hk4:((m+1+1:Nat)==1)=false:=by simp
 clear hm
 go_enter Tryz.func66,Tryz.ntmps66
 go_wp2_with (fail)
 go_big_region
 go_wp2_with (fail)
 refine CF.out.mono ?_
 rintro e w1 ⟨rfl,h1,f1⟩
 have f2:=HFS.out.trans f1
 obtain⟨c0,c1,c2,c3,c4⟩:=R0.out _ f2
 have BX1:=hidIt (box_fr BX.out f2 hbs hgs)
 have d0:=BX1.out.c 0 rfl
 have d1:=BX1.out.c 1 rfl
 have d2:=BX1.out.c 2 rfl
 have d3:=BX1.out.c 3 rfl
 have d4:=BX1.out.c 4 rfl
 have fz:=BX1.out.fr
 have HL:=hidIt (last_nx (w0:=w) x h1 (HFA.out.trans f2) BX1.out (Nat.le_refl _) hbd hbs hgs)
 clear h1 f1 f2
 obtain⟨xk,xv,xt,xn,xg⟩:=x
 simp only at c0 c1 c2 c3 c4 HL
 go_wp2_with (fail)
 generalize (((((w1.setCell ⟨w.heap.size,0,none⟩ (.string xk)).setCell ⟨w.heap.size,1,none⟩ (.string xv)).setCell ⟨w.heap.size,2,none⟩ (.int .i64 xt)).setCell ⟨w.heap.size,3,none⟩ (.int .i64 xn)).setCell ⟨w.heap.size,4,none⟩ (.bool xg))=w9 at HL ⊢
 have BX9:=HL.out.2.2
 have t0:=BX9.c 0 rfl
 have t1:=BX9.c 1 rfl
 have t2:=BX9.c 2 rfl
 have t3:=BX9.c 3 rfl
 have t4:=BX9.c 4 rfl
 refine bodyPost_ret (v:=.agg #[.string xk,.string xv,.int .i64 xt,.int .i64 xn,.bool xg]) (by simp[results,Tryz.results66,go_sem,t0,t1,t2,t3,t4]) rfl ⟨rfl,HL.out.1,HL.out.2.1⟩
end Go.Proofs.YtkeapmmochpcfaaGreat.En
namespace Go.Proofs.YtkeapmmochpcfaaGreat.En
open Go.ChangeShapes Go.WideShapes Go.ChangeAt Go.RowKit
open Bk (Bytes okE newB okBk Ris IsJoin joinB lessE putE Mq Nx)
open Go.Proofs.YtkeapmmochpcfaaGreat.Hq
open Rc (BelowBy BelowBy.one wp_region_below calls_below calls_same)
theorem tot_map {α β:Type} (f:β->Nat) (g:α->β) (x:Nat->α):∀ n,tot f (fun i=>g (x i)) n=tot (fun a=>f (g a)) x n
 | 0=>rfl
 | n+1=>by
  show tot f (fun i=>g (x i)) n+f (g (x n))=tot (fun a=>f (g a)) x n+f (g (x n))
  rw[tot_map f g x n]
structure Ra (A:Nat->List Rw) (N n:Nat) (x:Nat->Rt):Prop where
 from':∀ j,j<n->∃ i,i<N∧(x j).L=A i
 to':∀ i,i<N->A i≠[]->∃ j,j<n∧(x j).L=A i
 sum:tot (fun r:Rt=>r.L.length) x n=tot List.length A N
 le:n<=N
theorem Ra.zero (A:Nat->List Rw) (x:Nat->Rt):Ra A 0 0 x:=⟨fun j hj=>absurd hj (by omega),fun j hj=>absurd hj (by omega),rfl,by omega⟩
theorem Ra.skip {A:Nat->List Rw} {N n:Nat} {x:Nat->Rt} (h:Ra A N n x) (e:A N=[]):Ra A (N+1) n x :=
 ⟨fun j hj=>by obtain⟨i,hi,q⟩:=h.from' j hj;exact⟨i,by omega,q⟩,
 fun i hi hn=>by
  by_cases q:i=N
  ·
   subst q;exact absurd e hn
  ·
   exact h.to' i (by omega) hn,
 by show _=tot List.length A N+(A N).length;rw[e,h.sum];rfl,by have:=h.le;omega⟩
theorem Ra.push {A:Nat->List Rw} {N n:Nat} {x x':Nat->Rt} {y:Rt} (h:Ra A N n x) (e:y.L=A N) (p:Per (n+1) (upd x n y) x'):Ra A (N+1) (n+1) x':=by
 refine⟨fun j hj=>?_,fun i hi hn=>?_,?_,by have:=h.le;omega⟩
 ·
  obtain⟨k,hk,q⟩:=p.from' j hj
  by_cases ek:k=n
  ·
   subst ek
   rw[upd_at] at q
   exact⟨N,by omega,by rw[q,e]⟩
  ·
   rw[upd_ne ek] at q
   obtain⟨i,hi,q2⟩:=h.from' k (by omega)
   exact⟨i,by omega,by rw[q,q2]⟩
 ·
  by_cases q:i=N
  ·
   subst q
   obtain⟨j,hj,q2⟩:=p.to' n (by omega)
   rw[upd_at] at q2
   exact⟨j,hj,by rw[<- q2,e]⟩
  ·
   obtain⟨k,hk,q2⟩:=h.to' i (by omega) hn
   obtain⟨j,hj,q3⟩:=p.to' k (by omega)
   rw[upd_ne (by omega)] at q3
   exact⟨j,hj,by rw[<- q3,q2]⟩
 ·
  rw[p.sum]
  show tot _ (upd x n y) n+(upd x n y n).L.length=tot List.length A N+(A N).length
  rw[tot_out _ (Nat.le_refl _),upd_at,h.sum,e]
theorem Sq.start (w:World) (x:Nat->Rt):Sq ((w.alloc (.cells #[] 29)).alloc (.cells #[.slice (some ⟨w.heap.size,0,none⟩) 0 0] 97)) w.heap.size (w.heap.size+1) w.heap.size 0 0 x:=by
 refine⟨by omega,?_,?_,fun i hi=>absurd hi (by omega)⟩
 ·
  have:=heap_alloc_new (w.alloc (.cells #[] 29)) (.cells #[.slice (some ⟨w.heap.size,0,none⟩) 0 0] 97)
  simpa using this
 ·
  have h0:(w.alloc (.cells #[] 29)).ownsRow w.heap.size 29 1 (.slice (some ⟨w.heap.size,0,none⟩) 0 0) 0 []:=World.ownsRow_made w #[] 0 (Nat.le_refl _) (by decide) rfl
  exact World.ownsRow.alloc h0 _
def RoS (w wx:World) (A:Nat->List Rw) (i:Nat):Prop:=∃ n x,(∃ g cap,Sq wx w.heap.size (w.heap.size+1) g cap n x)∧Hok leR n x∧Ra A i n x∧Below w.heap.size w wx
structure Bks (w:World) (q N:Nat) (S:Nat->Option Addr × Nat × Nat) (A:Nat->List Rw):Prop where
 cell:∀ i,i<N->w.cell? ⟨q,i,none⟩=some (.slice (S i).1 (S i).2.1 (S i).2.2)
 len:∀ i,i<N->(S i).2.1=(A i).length
 rd:∀ i,i<N->Rd w (S i).1 (A i)
 le:∀ i,i<N->(A i).length<=(S i).2.2
theorem impl_restsOfN {w:World} {q c N:Nat} {S:Nat->Option Addr × Nat × Nat} {A:Nat->List Rw} (h:Bks w q N S A) (hN:N<=1000) (hql:q<w.heap.size) :
  Calls Tryz.prog 40 #[.slice (some ⟨q,0,none⟩) N c] w fun e w'=>e=.returned (.pointer (some ⟨w.heap.size+1,0,none⟩))∧RoS w w' A N:=by
 have Q0:=hidIt (fun W (k:Below w.heap.size w W) i hi=>(k.cell (p:=⟨q,i,none⟩) hql).trans (h.cell i hi))
 have HE:=hidIt (fun i hi hn=>el_of (h.rd i hi) hn (h.le i hi))
 have HLen:=hidIt h.len
 have HS0:Hid (RoS w ((w.alloc (.cells #[] 29)).alloc (.cells #[.slice (some ⟨w.heap.size,0,none⟩) 0 0] 97)) A 0):=hidIt ⟨0,fun _=>⟨0,0,0,[]⟩,⟨_,_,Sq.start w _⟩,fun i h0 hi=>absurd hi (by omega),Ra.zero A _,((Below.refl w.heap.size w).alloc (Nat.le_refl _) (.cells #[] 29)).alloc (by simp) (.cells #[.slice (some ⟨w.heap.size,0,none⟩) 0 0] 97)⟩
 clear h hql
 go_enter Tryz.func40,Tryz.ntmps40
 go_wp2_with (fail)
 generalize (w.alloc (.cells #[] 29)).alloc (.cells #[.slice (some ⟨w.heap.size,0,none⟩) 0 0] 97)=w1 at HS0 ⊢
 go_loopw [10] (fun y wx=>∃ i:Nat,y=.int .i64 i∧i<=N∧Hid (RoS w wx A i)) (fun y _=>(N - intOf y).toNat)
 case atStart=>exact⟨0,rfl,by omega,HS0⟩
 case round =>
  obtain⟨i,rfl,hiN,HS⟩:=hrel
  by_cases hi:i<N
  ·
   have hi':(i:Int)<(N:Int):=by omega
   have hi2:(N:Int)<=1000:=by omega
   have hB:Below w.heap.size w wr:=by obtain⟨_,_,_,_,_,b⟩:=HS.out;exact b
   have c0:=Q0.out _ hB i hi
   have hl:=HLen.out i hi
   rcases hSi:S i with ⟨s0,s1,s2⟩
   rw[hSi] at c0 hl
   simp only at c0 hl
   subst hl
   clear hB
   by_cases hn:A i=[]
   ·
    have HS2:Hid (RoS w wr A (i+1)):=hidIt (by
     obtain⟨n,x,s,o,r,b⟩:=HS.out
     exact⟨n,x,s,o,r.skip hn,b⟩)
    have hl0:(A i).length=0:=by rw[hn];rfl
    rw[hl0] at c0
    clear hn hl0
    go_wp2_with (fail)
    exact⟨⟨i+1,by first | rfl | simp,by omega,HS2⟩,by simp[intOf];omega⟩
   ·
    obtain⟨p,o,ea,eA⟩:=HE.out i hi hn
    rw[hSi] at ea eA
    simp only at ea eA
    subst ea
    have hp:0<(A i).length:=eA.pos
    have hp':(0:Int)<((A i).length:Int):=by omega
    have CP:Hid (Calls Tryz.prog 67 #[hI (w.heap.size+1),.iface 29 (sv p o (A i).length s2)] wr fun e w'=>e=.returned (.tuple #[])∧RoS w w' A (i+1)):=hidIt (by
     obtain⟨n,x,⟨g,cap,s⟩,ok,r,b⟩:=HS.out
     refine (heap_PushN s ok (by have:=r.le;omega) ⟨p,o,s2,A i⟩ (eA.low b) b.size).mono ?_
     rintro e w2 ⟨rfl,⟨g2,cap2,x2,s2',o2,p2⟩,k2⟩
     exact⟨rfl,n+1,x2,⟨g2,cap2,s2'⟩,o2,r.push rfl p2,b.trans k2⟩)
    clear hn HS eA HE
    generalize (A i).length=la at *
    go_wp2_with (fail)
    refine CP.out.mono ?_
    rintro e w2 ⟨rfl,r2⟩
    have HS2:=hidIt r2
    clear r2
    go_wp2_with (fail)
    exact⟨⟨i+1,by first | rfl | simp,by omega,HS2⟩,by simp[intOf];omega⟩
  ·
   have e:i=N:=by omega
   subst e
   go_wp2_with (fail)
   go_ret
   exact⟨rfl,HS.out⟩
def NexR (w:World) (base b g cap n:Nat) (x:Nat->Rt) (e:Rw) (X:List Rw):Prop:=∃ m x',Sq w base b g cap m x'∧Hok leR m x'∧Nx n (fun i=>toB (x i).L) (toE e) (toB X) m (fun i=>toB (x' i).L)∧m<=n
theorem nx_last {m:Nat} {x x':Nat->Rt} {e:Rw} (h0:(x 0).L=[e]) (hr:∀ i,i<m+1->Ris (toB (x i).L)) (p:Per m (swp x 0 m) x'):Nx (m+1) (fun i=>toB (x i).L) (toE e) (toB []) m (fun i=>toB (x' i).L):=by
 have from':∀ i,i<m->∃ j,j<m+1∧x' i=x j:=fun i hi=>by
  obtain⟨j,hj,q⟩:=p.from' i hi
  by_cases e0:j=0
  ·
   subst e0
   rw[swp_i] at q
   exact⟨m,by omega,q⟩
  ·
   rw[swp_ne e0 (by omega)] at q
   exact⟨j,by omega,q⟩
 refine⟨fun i hi a ha=>?_,fun a ha=>?_,fun i hi=>?_,?_⟩
 ·
  obtain⟨j,hj,q⟩:=from' i hi
  rw[q] at ha
  exact .inr ⟨j,hj,ha⟩
 ·
  rcases ha with ha | ⟨j,hj,hj2,ha⟩
  ·
   simp at ha
  ·
   have:∃ k,k<m∧swp x 0 m k=x j:=by
    by_cases em:j=m
    ·
     subst em
     exact⟨0,hj,swp_i ..⟩
    ·
     exact⟨j,by omega,swp_ne (by omega) em⟩
   obtain⟨k,hk,q⟩:=this
   obtain⟨i,hi,q2⟩:=p.to' k hk
   exact⟨i,hi,by show a∈toB (x' i).L;rw[<- q2,q];exact ha⟩
 ·
  obtain⟨j,hj,q⟩:=from' i hi
  show Ris (toB (x' i).L)
  rw[q]
  exact hr j hj
 ·
  have h1:=tot_map List.length (fun r:Rt=>toB r.L) x' m
  have h2:=tot_map List.length (fun r:Rt=>toB r.L) x (m+1)
  have h3:=p.sum (fun r:Rt=>(toB r.L).length)
  have h4:=tot_swp (fun r:Rt=>(toB r.L).length) (x:=x) (i:=0) (j:=m) (n:=m+1) (by omega) (by omega)
  have h5:tot (fun r:Rt=>(toB r.L).length) (swp x 0 m) (m+1)=tot (fun r:Rt=>(toB r.L).length) (swp x 0 m) m+(toB (swp x 0 m m).L).length:=rfl
  rw[swp_j,h0] at h5
  simp only[toB_length,List.length_singleton] at *
  omega
theorem nx_more {n:Nat} {x x':Nat->Rt} {e:Rw} {X:List Rw} {y:Rt} (hn:0<n) (h0:(x 0).L=e::X) (hr:∀ i,i<n->Ris (toB (x i).L)) (hy:y.L=X) (p:Per n (upd x 0 y) x'):Nx n (fun i=>toB (x i).L) (toE e) (toB X) n (fun i=>toB (x' i).L):=by
 refine⟨fun i hi a ha=>?_,fun a ha=>?_,fun i hi=>?_,?_⟩
 ·
  obtain⟨j,hj,q⟩:=p.from' i hi
  by_cases e0:j=0
  ·
   subst e0
   rw[upd_at] at q
   rw[q,hy] at ha
   exact .inl ha
  ·
   rw[upd_ne e0] at q
   rw[q] at ha
   exact .inr ⟨j,hj,ha⟩
 ·
  rcases ha with ha | ⟨j,hj,hj2,ha⟩
  ·
   obtain⟨i,hi,q⟩:=p.to' 0 hn
   rw[upd_at] at q
   exact⟨i,hi,by show a∈toB (x' i).L;rw[<- q,hy];exact ha⟩
  ·
   obtain⟨i,hi,q⟩:=p.to' j hj2
   rw[upd_ne (by omega)] at q
   exact⟨i,hi,by show a∈toB (x' i).L;rw[<- q];exact ha⟩
 ·
  obtain⟨j,hj,q⟩:=p.from' i hi
  show Ris (toB (x' i).L)
  rw[q]
  by_cases e0:j=0
  ·
   subst e0
   rw[upd_at,hy]
   have:=hr 0 hn
   rw[h0] at this
   exact (Bk.ris_cons.1 this).2
  ·
   rw[upd_ne e0]
   exact hr j hj
 ·
  have h1:=tot_map List.length (fun r:Rt=>toB r.L) x' n
  have h2:=tot_map List.length (fun r:Rt=>toB r.L) x n
  have h3:=p.sum (fun r:Rt=>(toB r.L).length)
  have h4:=tot_upd (fun r:Rt=>(toB r.L).length) (x:=x) (i:=0) (y:=y) (n:=n) hn
  rw[h0,hy] at h4
  simp only[toB_length,List.length_cons] at *
  omega
theorem next_anyN {w:World} {base b g cap n:Nat} {x:Nat->Rt} {e:Rw} {X:List Rw} (h:Sq w base b g cap n x) (hk:Hok leR n x) (hn0:0<n) (hn:n<=1000) (h0:(x 0).L=e::X) (hr:∀ i,i<n->Ris (toB (x i).L)) :
  Calls Tryz.prog 66 #[.pointer (some ⟨b,0,none⟩)] w fun e' w'=>e'=.returned (rv e)∧NexR w' base b g cap n x e X∧Fr b g w w':=by
 obtain⟨m,rfl⟩:∃ m,n=m+1:=⟨n - 1,by omega⟩
 rcases hx:x 0 with ⟨p,o,k,L⟩
 rw[hx] at h0
 simp only at h0
 subst h0
 cases X with
 | nil =>
  refine (next_lastN h hk (by omega) hx).mono ?_
  rintro e' w' ⟨rfl,⟨x',s,ok,pr⟩,f⟩
  exact⟨rfl,⟨m,x',s,ok,nx_last (by rw[hx]) hr pr,by omega⟩,f⟩
 | cons y L =>
  refine (next_moreN h hk (by omega) hx rfl).mono ?_
  rintro e' w' ⟨rfl,⟨x',s,ok,pr⟩,f⟩
  exact⟨rfl,⟨m+1,x',s,ok,nx_more (by omega) (by rw[hx]) hr rfl pr,Nat.le_refl _⟩,f⟩
theorem top_all {w:World} {base b g cap n:Nat} {x:Nat->Rt} {e:Rw} {X:List Rw} (h:Sq w base b g cap n x) (hk:Hok leR n x) (h0:(x 0).L=e::X) (hr:∀ i,i<n->Ris (toB (x i).L)):∀ i,i<n->∀ a∈toB (x i).L,¬ a.key<(toE e).key:=by
 intro i hi a ha
 have h1:¬ keyR (x i)<keyR (x 0):=top_le leR_refl leR_trans hk i hi
 have e0:keyR (x 0)=(toE e).key:=by unfold keyR;rw[h0];rfl
 rw[e0] at h1
 have hp:=(h.el i hi).pos
 have hri:=hr i hi
 refine not_lt_trans h1 ?_
 unfold keyR
 cases hL:(x i).L with
 | nil=>rw[hL] at hp;simp at hp
 | cons f F =>
  rw[hL] at ha hri
  rcases List.mem_cons.1 ha with rfl | ha
  ·
   exact List.lt_irrefl _
  ·
   have:=(Bk.ris_cons.1 hri).1 a ha
   exact fun q=>List.lt_irrefl _ (List.lt_trans this q)
def AfterN (w:World) (base b g cap k N:Nat) (K:Bytes->Prop) (J:List Bk.En):Prop:=∃ m x,Sq w base b g cap m x∧Hok leR m x∧Mq K N J m (fun i=>toB (x i).L)∧tot List.length (fun i=>toB (x i).L) m+1<=k∧m<=1000
theorem AfterN.low {w w':World} {base b g cap k N B:Nat} {K:Bytes->Prop} {J:List Bk.En} (h:AfterN w base b g cap k N K J) (h':Below B w w') (hb:b<B) (hg:g<B) (hs:base<=B):AfterN w' base b g cap k N K J:=by
 obtain⟨m,x,h1,h2,h3,h4,h5⟩:=h
 exact⟨m,x,h1.low h' hb hg hs,h2,h3,h4,h5⟩
theorem AfterN.kept {w w':World} {base b g cap k N:Nat} {K:Bytes->Prop} {J:List Bk.En} (h:AfterN w base b g cap k N K J) (h':Below w.heap.size w w'):AfterN w' base b g cap k N K J:=by
 obtain⟨m,x,h1,h2,h3,h4,h5⟩:=h
 exact⟨m,x,h1.kept h',h2,h3,h4,h5⟩
theorem afterN_of {w w':World} {base b g cap n k N:Nat} {K:Bytes->Prop} {J:List Bk.En} {x:Nat->Rt} {e:Rw} {X:List Rw} (h:Sq w base b g cap n x) (hk:Hok leR n x) (hn0:0<n) (hn:n<=1000) (h0:(x 0).L=e::X) (m:Mq K N J n (fun i=>toB (x i).L)) (ht:tot List.length (fun i=>toB (x i).L) n<=k) (r:NexR w' base b g cap n x e X):AfterN w' base b g cap k N K (putE J (toE e)):=by
 obtain⟨q,x',s,ok,nx,le⟩:=r
 refine⟨q,x',s,ok,m.step hn0 (by show toB (x 0).L=_;rw[h0];rfl) (top_all h hk h0 m.each) nx,?_,by omega⟩
 have:=nx.sum
 omega
def NowN (w0 w:World) (base b g cap k N:Nat) (K:Bytes->Prop) (v:Value):Prop:=∃ J n x,Own w w0.heap.size v J∧Sq w base b g cap n x∧Hok leR n x∧Mq K N (toB J) n (fun i=>toB (x i).L)∧tot List.length (fun i=>toB (x i).L) n<=k∧n<=1000∧Below base w0 w
theorem nowN_of {w0 w:World} {base b g cap k N:Nat} {K:Bytes->Prop} {J:List Rw} {PJ:List Bk.En} {v:Value} (o:Own w w0.heap.size v J) (a:AfterN w base b g cap k N K PJ) (e:PJ=toB J) (hb:Below base w0 w):NowN w0 w base b g cap (k - 1) N K v:=by
 obtain⟨m,x,s,ok,q,hk,hm⟩:=a
 subst e
 exact⟨J,m,x,o,s,ok,q,by omega,hm,hb⟩
theorem impl_newestN {w:World} {base b g cap n N:Nat} {x:Nat->Rt} (h:Sq w base b g cap n x) (hk:Hok leR n x) (hn:n<=1000) (hr:∀ i,i<n->Ris (toB (x i).L)) (hN:tot List.length (fun i=>toB (x i).L) n<=N) (hN1:N<=100000) :
  Calls Tryz.prog 39 #[.pointer (some ⟨b,0,none⟩)] w fun e w'=>∃ v J,e=.returned v∧Own w' w.heap.size v J∧Ris (toB J)∧(∀ k,(∃ i,i<n∧∃ e∈toB (x i).L,e.key=k)↔∃ e∈toB J,e.key=k)∧J.length<=N∧Below base w w':=by
 obtain⟨i0,hi0,hz0,hz1,hz2⟩:=info_parts infoRw
 have hb:=h.hb
 have hg:=h.gl.1
 have hgl:=h.gl.2
 have hbl:=h.bl
 have hs:base<=w.heap.size:=by omega
 have CL:=hidIt (fun a n c W=>rests_Len a n c W)
 have HN0:Hid (NowN w (w.alloc (.cells #[] 60)) base b g cap N N (fun k=>∃ i,i<n∧∃ e∈toB (x i).L,e.key=k) (.slice (some ⟨w.heap.size,0,none⟩) 0 0)):=hidIt (by
  have ka:=(Below.refl w.heap.size w).alloc (Nat.le_refl _) (.cells #[] 60)
  have ms:=Mq.start (n:=n) (y:=fun i=>toB (x i).L) hr
  exact⟨[],n,x,Own.new w,h.kept ka,hk,⟨ms.ris,ms.each,ms.keys,ms.ahead,by have:=ms.len;simp at this ⊢;omega⟩,hN,hn,ka.mono hs⟩)
 clear h hk hr hN
 generalize hK:(fun k=>∃ i,i<n∧∃ e∈toB (x i).L,e.key=k)=K at HN0
 have HKe:Hid (∀ J:List Rw,(∀ k,K k↔∃ e∈toB J,e.key=k)->∀ k,(∃ i,i<n∧∃ e∈toB (x i).L,e.key=k)↔∃ e∈toB J,e.key=k):=hidIt (fun J q k=>by rw[<- hK] at q;exact q k)
 clear hK
 generalize (fun k=>∃ i,i<n∧∃ e∈toB (x i).L,e.key=k)=KK at *
 go_enter Tryz.func39,Tryz.ntmps39
 go_wp2_with (fail)
 generalize w.alloc (.cells #[] 60)=w1 at HN0 ⊢
 go_loopg [3] N (fun kx s3 wx=>Hid (NowN w wx base b g cap kx N K s3))
 case atStart=>exact HN0
 case round =>
  obtain⟨J,n,x,o1,s1,ok1,m1,hk,hn1,b1⟩:=hrel.out
  have HO:=hidIt o1
  have HS:=hidIt s1
  have HOk:=hidIt ok1
  have HM:=hidIt m1
  have HB:=hidIt b1
  have hc:=s1.c
  clear o1 s1 ok1 m1 b1 hrel HN0
  rcases Nat.eq_zero_or_pos n with rfl | hn0
  ·
   have HJ:Hid (∀ k,K k↔∃ e∈toB J,e.key=k):=hidIt (fun k=>by
    rw[HM.out.keys k]
    constructor
    ·
     rintro (q | ⟨i,hi,_⟩)
     ·
      exact q
     ·
      omega
    ·
     exact .inl)
   have HJR:=hidIt HM.out.ris
   have HJL:Hid (J.length<=N):=hidIt (by have:=HM.out.len;simp at this;omega)
   clear HM HS HOk
   go_wp2_with (fail)
   refine (CL.out _ _ _ _).mono ?_
   rintro e w2 ⟨rfl,rfl⟩
   go_wp2_with (fail)
   go_ret
   exact⟨_,J,rfl,HO.out,HJR.out,HKe.out J HJ.out,HJL.out,HB.out⟩
  ·
   obtain⟨x0,X,hx0⟩:∃ x0 X,(x 0).L=x0::X:=by
    have:=(HS.out.el 0 hn0).pos
    cases hL:(x 0).L with
    | nil=>rw[hL] at this;simp at this
    | cons f F=>exact⟨f,F,rfl⟩
   have CN:=hidIt (next_anyN HS.out HOk.out hn0 hn1 hx0 HM.out.each)
   have hn':(0:Int)<(n:Int):=by omega
   have HA:=hidIt (fun W s1=>afterN_of (w':=W) HS.out HOk.out hn0 hn1 hx0 HM.out hk s1)
   have HTP:Hid (1<=tot List.length (fun i=>toB (x i).L) n):=hidIt (by
    have:=tot_upd List.length (x:=fun i=>toB (x i).L) (i:=0) (y:=[]) (n:=n) hn0
    simp[hx0] at this
    omega)
   have HJL:Hid (J.length<=99999):=hidIt (by have:=HM.out.len;have:=HTP.out;simp at *;omega)
   have HJK:Hid (gk≠0):=hidIt (by have:=HTP.out;omega)
   clear HS HM HOk hk HTP hx0
   generalize x0=x at CN HA
   go_wp2_with (fail)
   refine (CL.out _ _ _ _).mono ?_
   rintro e w2 ⟨rfl,rfl⟩
   go_wp2_with (fail)
   refine CN.out.mono ?_
   rintro e w3 ⟨rfl,s3,f3⟩
   have HF3:=hidIt (HA.out _ s3)
   have HO3:=hidIt (HO.out.fr f3 hbl hgl)
   have HB3:=hidIt (HB.out.trans (f3.below hb hg (Nat.le_trans hs HB.out.size)))
   have HZ3:=hidIt (Nat.le_trans HB.out.size f3.size)
   clear s3 f3 HO HB HA CN hc
   have HPS:=hidIt (fun j h e=>put_same (J:=J) (j:=j) (x:=x) h e)
   have HPM:=hidIt (fun j h e=>put_more (J:=J) (j:=j) (x:=x) h e)
   have HPF:=hidIt (fun (e:J=[])=>show putE (toB J) (toE x)=toB (J++[x]) by rw[e];exact put_first)
   generalize putE (toB J) (toE x)=PJ at HF3 HPS HPM HPF
   obtain⟨xk,xv,xt,xn,xg⟩:=x
   simp only at HPS HPM
   obtain⟨za,zc,ez,hle,hcm,hrd,_,hsome⟩:=HO3.out.form
   have HFM:=hidIt hrd
   clear hrd hsome
   subst ez
   generalize hjl:J.length=jl at *
   have HJLn:=hidIt hjl
   clear hjl
   go_wp2_with (fail)
   have BX:=hidIt (Bo.Box.new w3 #[.string xk,.string xv,.int .i64 xt,.int .i64 xn,.bool xg] 60)
   have HAl:=hidIt ((Below.refl w3.heap.size w3).alloc (Nat.le_refl _) (.cells #[.string xk,.string xv,.int .i64 xt,.int .i64 xn,.bool xg] 60))
   generalize hz:w3.alloc (.cells #[.string xk,.string xv,.int .i64 xt,.int .i64 xn,.bool xg] 60)=wz at BX HAl ⊢
   clear hz
   have HFz:=hidIt (HF3.out.kept HAl.out)
   have HOz:=hidIt (HO3.out.kept HAl.out)
   have HBz:=hidIt (HB3.out.trans (HAl.out.mono (Nat.le_trans hs HZ3.out)))
   have HZz:=hidIt (Nat.le_trans HZ3.out HAl.out.size)
   have HRz:=hidIt (HFM.out.kept HAl.out)
   clear HF3 HO3 HB3 HZ3 HAl HFM
   haveI:=BelowBy.one wz
   have g0:=fun p:BelowBy wz=>p.cell (BX.out.c 0 rfl)
   generalize hbk:w3.heap.size=bk at BX g0 ⊢
   clear hbk
   rcases Nat.eq_zero_or_pos jl with hj | hj
   ·
    subst hj
    refine wp_region_below (by kernel_rfl) (by kernel_rfl) ?_
    repeat (go_big_quiet_step (fail))
    refine wpQuiet_nil ?_
    intro _ hw'
    obtain⟨pq,rfl⟩:=hw'
    have kq:=pq.h
    generalize pq.world=w4 at kq ⊢
    have HF4:=hidIt (HFz.out.kept kq)
    have HO4:=hidIt (HOz.out.kept kq)
    have HB4:=hidIt (HBz.out.trans (kq.mono (Nat.le_trans hs HZz.out)))
    have HZ4:=hidIt (Nat.le_trans HZz.out kq.size)
    have BX4:=hidIt (BX.out.kept kq)
    clear kq HFz HOz HBz HZz BX g0
    have t0:=BX4.out.c 0 rfl
    have t1:=BX4.out.c 1 rfl
    have t2:=BX4.out.c 2 rfl
    have t3:=BX4.out.c 3 rfl
    have t4:=BX4.out.c 4 rfl
    have HOw:Hid (w4.ownsRow w.heap.size 60 5 (.slice za 0 zc) 0 (rcells J)):=hidIt (by have:=HO4.out;unfold Own at this;rw[HJLn.out] at this;exact this)
    go_wp2_with (first | (at_builtin;refine wpList_append_own _ rfl _ _ 29 rfl w.heap.size 60 i0 (.agg #[.string ByteArray.empty,.string ByteArray.empty,.int .i64 0,.int .i64 0,.bool false]) 5 56 Tryz.underlying29 hi0 hz0 hz1 hz2 rfl (by decide) _ _ _ rfl (World.ownsRow.alloc HOw.out (.cells #[.string xk,.string xv,.int .i64 xt,.int .i64 xn,.bool xg] 60)) ⟨w4.heap.size,0,none⟩ 1 1 [.string xk,.string xv,.int .i64 xt,.int .i64 xn,.bool xg] rfl rfl (fresh w4 (xk,xv,xt,xn,xg) 60) (rcells_one [(xk,xv,xt,xn,xg)]) ?ca1 ?ca2 ?ca3 ?_))
    case ca1=>unfold maxLen;have:=HJL.out;omega
    case ca2=>have:=HJL.out;omega
    case ca3=>have:=HZ4.out;simp;omega
    intro v' w9 hown hgrow _
    have ka:=(Below.refl w4.heap.size w4).alloc (Nat.le_refl _) (.cells #[.string xk,.string xv,.int .i64 xt,.int .i64 xn,.bool xg] 60)
    have kk:=grown_below (HO4.out.kept ka) (by exact hgrow) (Nat.le_refl _) (Nat.le_trans HZ4.out ka.size)
    have k9:=(ka.mono HZ4.out).trans kk
    have HO9:Hid (Own w9 w.heap.size v' (J++[(xk,xv,xt,xn,xg)])):=hidIt (Own.more (L:=J) (M:=[(xk,xv,xt,xn,xg)]) (by rw[HJLn.out];exact hown))
    have HF9:=hidIt (HF4.out.low k9 hbl hgl hs)
    have HB9:=hidIt (HB4.out.trans (k9.mono hs))
    have HE9:=hidIt (HPF.out (List.length_eq_zero_iff.1 HJLn.out))
    clear hown hgrow ka kk k9
    go_wp2_with (fail)
    go_roundg (gk - 1)
    case measure=>have:=HJK.out;omega
    case rel=>exact hidIt (nowN_of HO9.out HF9.out HE9.out HB9.out)
   ·
    obtain⟨j,rfl⟩:∃ j,jl=j+1:=⟨jl - 1,by omega⟩
    obtain⟨zb,zo,eza,l0,_⟩:=HRz.out.all (i:=j) (by rw[HJLn.out];omega)
    subst eza
    obtain⟨lk,elk⟩:∃ s,(rat J j).1=s:=⟨_,rfl⟩
    have HPS1:=hidIt (fun e=>HPS.out j rfl e)
    have HPM1:=hidIt (fun e=>HPM.out j rfl e)
    rw[elk] at l0 HPS1 HPM1
    clear elk HPS HPM HPF HRz
    have k0:=fun p:BelowBy wz=>p.cell l0
    clear l0
    have heq:=eq_of lk xk
    have hjz:((j:Int)+1==0)=false:=by simp;omega
    have hj1:(j:Int)<(j:Int)+1:=by omega
    have hj2:(j:Int)<=100000:=by have:=HJL.out;omega
    have hj3:(0:Int)<=(j:Int):=by omega
    by_cases hk:bs lk=bs xk
    ·
     have HE0:=hidIt (HPS1.out hk)
     rw[decide_eq_true hk] at heq
     clear hk HPS1 HPM1
     refine wp_region_below (by kernel_rfl) (by kernel_rfl) ?_
     repeat (go_big_quiet_step (fail))
     refine wpQuiet_nil ?_
     intro _ hw'
     obtain⟨pq,rfl⟩:=hw'
     have kq:=pq.h
     generalize pq.world=w4 at kq ⊢
     have HF4:=hidIt (HFz.out.kept kq)
     have HO4:=hidIt (HOz.out.kept kq)
     have HB4:=hidIt (HBz.out.trans (kq.mono (Nat.le_trans hs HZz.out)))
     have HZ4:=hidIt (Nat.le_trans HZz.out kq.size)
     have BX4:=hidIt (BX.out.kept kq)
     clear kq HFz HOz HBz HZz BX g0 k0
     have t0:=BX4.out.c 0 rfl
     have t1:=BX4.out.c 1 rfl
     have t2:=BX4.out.c 2 rfl
     have t3:=BX4.out.c 3 rfl
     have t4:=BX4.out.c 4 rfl
     have HE9:=hidIt (HE0.out)
     go_wp2_with (fail)
     go_roundg (gk - 1)
     case measure=>have:=HJK.out;omega
     case rel=>exact hidIt (nowN_of HO4.out HF4.out HE9.out HB4.out)
    ·
     have HE0:=hidIt (HPM1.out hk)
     rw[decide_eq_false hk] at heq
     clear hk HPS1 HPM1
     refine wp_region_below (by kernel_rfl) (by kernel_rfl) ?_
     repeat (go_big_quiet_step (fail))
     refine wpQuiet_nil ?_
     intro _ hw'
     obtain⟨pq,rfl⟩:=hw'
     have kq:=pq.h
     generalize pq.world=w4 at kq ⊢
     have HF4:=hidIt (HFz.out.kept kq)
     have HO4:=hidIt (HOz.out.kept kq)
     have HB4:=hidIt (HBz.out.trans (kq.mono (Nat.le_trans hs HZz.out)))
     have HZ4:=hidIt (Nat.le_trans HZz.out kq.size)
     have BX4:=hidIt (BX.out.kept kq)
     clear kq HFz HOz HBz HZz BX g0 k0
     have t0:=BX4.out.c 0 rfl
     have t1:=BX4.out.c 1 rfl
     have t2:=BX4.out.c 2 rfl
     have t3:=BX4.out.c 3 rfl
     have t4:=BX4.out.c 4 rfl
     have HOw:Hid (w4.ownsRow w.heap.size 60 5 (.slice (some ⟨zb,zo,none⟩) (j+1) zc) (j+1) (rcells J)):=hidIt (by have:=HO4.out;unfold Own at this;rw[HJLn.out] at this;exact this)
     go_wp2_with (first | (at_builtin;refine wpList_append_own _ rfl _ _ 29 rfl w.heap.size 60 i0 (.agg #[.string ByteArray.empty,.string ByteArray.empty,.int .i64 0,.int .i64 0,.bool false]) 5 56 Tryz.underlying29 hi0 hz0 hz1 hz2 rfl (by decide) _ _ _ rfl (World.ownsRow.alloc HOw.out (.cells #[.string xk,.string xv,.int .i64 xt,.int .i64 xn,.bool xg] 60)) ⟨w4.heap.size,0,none⟩ 1 1 [.string xk,.string xv,.int .i64 xt,.int .i64 xn,.bool xg] rfl rfl (fresh w4 (xk,xv,xt,xn,xg) 60) (rcells_one [(xk,xv,xt,xn,xg)]) ?cb1 ?cb2 ?cb3 ?_))
     case cb1=>unfold maxLen;have:=HJL.out;omega
     case cb2=>have:=HJL.out;omega
     case cb3=>have:=HZ4.out;simp;omega
     intro v' w9 hown hgrow _
     have ka:=(Below.refl w4.heap.size w4).alloc (Nat.le_refl _) (.cells #[.string xk,.string xv,.int .i64 xt,.int .i64 xn,.bool xg] 60)
     have kk:=grown_below (HO4.out.kept ka) (by exact hgrow) (Nat.le_refl _) (Nat.le_trans HZ4.out ka.size)
     have k9:=(ka.mono HZ4.out).trans kk
     have HO9:Hid (Own w9 w.heap.size v' (J++[(xk,xv,xt,xn,xg)])):=hidIt (Own.more (L:=J) (M:=[(xk,xv,xt,xn,xg)]) (by rw[HJLn.out];exact hown))
     have HF9:=hidIt (HF4.out.low k9 hbl hgl hs)
     have HB9:=hidIt (HB4.out.trans (k9.mono hs))
     have HE9:=hidIt (HE0.out)
     clear hown hgrow ka kk k9
     go_wp2_with (fail)
     go_roundg (gk - 1)
     case measure=>have:=HJK.out;omega
     case rel=>exact hidIt (nowN_of HO9.out HF9.out HE9.out HB9.out)
end Go.Proofs.YtkeapmmochpcfaaGreat.En
namespace Go.Proofs.YtkeapmmochpcfaaGreat.Mk
def whole (G:List (List En)):List En:=G.foldl mergeE []
def AllRis (G:List (List En)):Prop:=∀ b∈G,Ris b
theorem pick_or (x y:Option En):pickE x y=x∨pickE x y=y:=by
 cases x with
 | none=>exact .inr rfl
 | some a =>
  cases y with
  | none=>exact .inl rfl
  | some b =>
   show some _=some a∨some _=some b
   cases newB b a
   ·
    exact .inl rfl
   ·
    exact .inr rfl
theorem merge_ris {A B:List En} (hA:Ris A) (hB:Ris B):Ris (mergeE A B):=(merge_join A B hA hB).ris
theorem merge_look {A B:List En} (hA:Ris A) (hB:Ris B) (k:Int):look (mergeE A B) k=pickE (look A k) (look B k):=(merge_join A B hA hB).at' k
structure Top (k:Int) (G:List (List En)) (m:Option En):Prop where
 key:KeyAt k m
 ub:∀ b∈G,pickE (look b k) m=m
 mem:m=none∨∃ b∈G,look b k=m
theorem Top.none_of {k:Int} {G:List (List En)} (h:Top k G none) {b:List En} (hb:b∈G):look b k=none:=by
 have:=h.ub b hb
 rw[pick_none_right] at this
 exact this
theorem Top.unique {k:Int} {G:List (List En)} {m m':Option En} (h:Top k G m) (h':Top k G m'):m=m':=by
 rcases h.mem with e | ⟨b,hb,e⟩
 ·
  subst e
  rcases h'.mem with e' | ⟨b',hb',e'⟩
  ·
   exact e'.symm
  ·
   rw[<- e',h.none_of hb']
 ·
  rcases h'.mem with e' | ⟨b',hb',e'⟩
  ·
   subst e'
   rw[<- e,h'.none_of hb]
  ·
   have h1:=h'.ub b hb
   have h2:=h.ub b' hb'
   rw[e] at h1
   rw[e'] at h2
   rw[<- h2,<- pick_comm h.key h'.key,h1]
theorem pick_absorb {k:Int} {x y m:Option En} (hx:KeyAt k x) (hy:KeyAt k y) (hm:KeyAt k m) (h:pickE (pickE x y) m=m):pickE x m=m∧pickE y m=m:=by
 constructor
 ·
  have e:=h
  rw[pick_assoc hx hy hm] at e
  rw[<- e,<- pick_assoc hx hx (pick_at hy hm),pick_self]
 ·
  have e:=h
  rw[pick_comm hx hy,pick_assoc hy hx hm] at e
  rw[<- e,<- pick_assoc hy hy (pick_at hx hm),pick_self]
theorem fold_ris:∀ (G:List (List En)) (A:List En),Ris A->AllRis G->Ris (G.foldl mergeE A)
 | [],A,hA,_=>hA
 | b::G,A,hA,hG=>fold_ris G (mergeE A b) (merge_ris hA (hG b (List.mem_cons_self ..))) (fun c hc=>hG c (List.mem_cons_of_mem _ hc))
theorem fold_top (k:Int):∀ (G:List (List En)) (A:List En),Ris A->AllRis G->Top k (A::G) (look (G.foldl mergeE A) k)
 | [],A,hA,_=>⟨look_at _ _,fun b hb=>by rw[List.mem_singleton.1 hb];exact pick_self _,.inr ⟨A,List.mem_singleton.2 rfl,rfl⟩⟩
 | b::G,A,hA,hG=>by
  have hb:=hG b (List.mem_cons_self ..)
  have ih:=fold_top k G (mergeE A b) (merge_ris hA hb) (fun c hc=>hG c (List.mem_cons_of_mem _ hc))
  have hu:=ih.ub _ (List.mem_cons_self ..)
  rw[merge_look hA hb] at hu
  obtain⟨u1,u2⟩:=pick_absorb (look_at A k) (look_at b k) ih.key hu
  refine⟨ih.key,fun c hc=>?_,?_⟩
  ·
   rcases List.mem_cons.1 hc with rfl | hc
   ·
    exact u1
   ·
    rcases List.mem_cons.1 hc with rfl | hc
    ·
     exact u2
    ·
     exact ih.ub c (List.mem_cons_of_mem _ hc)
  ·
   rcases ih.mem with e | ⟨c,hc,e⟩
   ·
    exact .inl e
   ·
    rcases List.mem_cons.1 hc with rfl | hc
    ·
     rw[merge_look hA hb] at e
     rcases pick_or (look A k) (look b k) with q | q
     ·
      exact .inr ⟨A,List.mem_cons_self ..,q.symm.trans e⟩
     ·
      exact .inr ⟨b,List.mem_cons_of_mem _ (List.mem_cons_self ..),q.symm.trans e⟩
    ·
     exact .inr ⟨c,List.mem_cons_of_mem _ (List.mem_cons_of_mem _ hc),e⟩
theorem ris_nil:Ris []:=List.Pairwise.nil
theorem whole_ris {G:List (List En)} (h:AllRis G):Ris (whole G):=fold_ris G [] ris_nil h
theorem whole_top {G:List (List En)} (h:AllRis G) (k:Int):Top k G (look (whole G) k):=by
 have t:=fold_top k G [] ris_nil h
 refine⟨t.key,fun b hb=>t.ub b (List.mem_cons_of_mem _ hb),?_⟩
 rcases t.mem with e | ⟨b,hb,e⟩
 ·
  exact .inl e
 ·
  rcases List.mem_cons.1 hb with rfl | hb
  ·
   exact .inl e.symm
  ·
   exact .inr ⟨b,hb,e⟩
theorem whole_of {G:List (List En)} {W:List En} (h:AllRis G) (hW:Ris W) (t:∀ k,Top k G (look W k)):whole G=W :=
 ris_ext (whole_ris h) hW (fun k=>(whole_top h k).unique (t k))
theorem whole_snoc (G:List (List En)) (b:List En):whole (G++[b])=mergeE (whole G) b:=by
 unfold whole
 rw[List.foldl_append]
 rfl
theorem merge_comm {A B:List En} (hA:Ris A) (hB:Ris B):mergeE A B=mergeE B A:=(merge_join A B hA hB).unique (merge_join B A hB hA).comm
def at0 (G:List (List En)) (i:Nat):List En:=G.getD i []
theorem at0_mem {G:List (List En)} {i:Nat} (h:i<G.length):at0 G i∈G:=by
 unfold at0
 rw[List.getD_eq_getElem?_getD,List.getElem?_eq_getElem h]
 exact List.getElem_mem h
theorem at0_get {G:List (List En)} {i:Nat} (h:i<G.length):at0 G i=G[i]:=by
 unfold at0
 rw[List.getD_eq_getElem?_getD,List.getElem?_eq_getElem h]
 rfl
theorem at0_set {G:List (List En)} {i j:Nat} {x:List En} (h:i<G.length):at0 (G.set i x) j=if i=j then x else at0 G j:=by
 unfold at0
 rw[List.getD_eq_getElem?_getD,List.getD_eq_getElem?_getD,List.getElem?_set]
 by_cases e:i=j
 ·
  subst e;simp[h]
 ·
  simp[e]
def tell (G:List (List En)) (f t:Nat):List (List En):=G.set t (mergeE (at0 G t) (at0 G f))
theorem tell_length (G:List (List En)) (f t:Nat):(tell G f t).length=G.length:=List.length_set ..
theorem tell_at {G:List (List En)} {f t i:Nat} (ht:t<G.length):at0 (tell G f t) i=if t=i then mergeE (at0 G t) (at0 G f) else at0 G i:=at0_set ht
theorem setAll_ris {G:List (List En)} {i:Nat} {x:List En} (h:AllRis G) (hx:Ris x):AllRis (G.set i x):=by
 intro b hb
 rcases List.mem_or_eq_of_mem_set hb with q | q
 ·
  exact h b q
 ·
  rw[q];exact hx
theorem tell_ris {G:List (List En)} {f t:Nat} (h:AllRis G) (hf:f<G.length) (ht:t<G.length):AllRis (tell G f t):=setAll_ris h (merge_ris (h _ (at0_mem ht)) (h _ (at0_mem hf)))
theorem tell_whole {G:List (List En)} {f t:Nat} (h:AllRis G) (hf:f<G.length) (ht:t<G.length):whole (tell G f t)=whole G:=by
 refine whole_of (tell_ris h hf ht) (whole_ris h) (fun k=>?_)
 have T:=whole_top h k
 have rt:=h _ (at0_mem ht)
 have rf:=h _ (at0_mem hf)
 have ej:=merge_look rt rf k
 have ut:=T.ub _ (at0_mem ht)
 have uf:=T.ub _ (at0_mem hf)
 refine⟨T.key,fun b hb=>?_,?_⟩
 ·
  rcases List.mem_or_eq_of_mem_set hb with q | q
  ·
   exact T.ub b q
  ·
   rw[q,ej,pick_assoc (look_at _ k) (look_at _ k) T.key,uf,ut]
 ·
  rcases T.mem with e | ⟨b,hb,e⟩
  ·
   exact .inl e
  ·
   obtain⟨j,hj,rfl⟩:=List.mem_iff_getElem.1 hb
   by_cases q:t=j
   ·
    subst q
    refine .inr ⟨mergeE (at0 G t) (at0 G f),?_,?_⟩
    ·
     exact List.mem_iff_getElem.2 ⟨t,by rw[tell_length];exact hj,by unfold tell;rw[List.getElem_set_self]⟩
    ·
     rw[ej,at0_get hj,e,pick_comm T.key (look_at _ k)]
     exact uf
   ·
    refine .inr ⟨G[j],?_,e⟩
    exact List.mem_iff_getElem.2 ⟨j,by rw[tell_length];exact hj,by unfold tell;rw[List.getElem_set_ne q]⟩
theorem take_ris {G:List (List En)} (h:AllRis G) (j:Nat):AllRis (G.take j):=fun b hb=>h b (List.mem_of_mem_take hb)
end Go.Proofs.YtkeapmmochpcfaaGreat.Mk
namespace Go.Proofs.YtkeapmmochpcfaaGreat.Rp
open Go.ChangeShapes Go.WideShapes Go.ChangeAt Go.RowKit
open Vv (Sl sv hidIt)
open Rg (upd waits wp_region_inv op_at)
def bks (L:List Rep):List (List Bk.En):=L.map fun r=>En.toB r.1
def mbs (L:List Rep):List (List Mk.En):=L.map fun r=>Mm.toB r.2
theorem bks_take {L:List Rep} {i:Nat} (h:i<L.length):(bks L).take (i+1)=(bks L).take i++[En.toB (rat L i).1]:=by
 unfold bks
 rw[<- List.map_take,<- List.map_take,take_rat h,List.map_append]
 rfl
theorem mbs_take {L:List Rep} {i:Nat} (h:i<L.length):(mbs L).take (i+1)=(mbs L).take i++[Mm.toB (rat L i).2]:=by
 unfold mbs
 rw[<- List.map_take,<- List.map_take,take_rat h,List.map_append]
 rfl
structure Tame (L:List Rep):Prop where
 n:L.length<=6
 bl:∀ i,i<L.length->(rat L i).1.length<=80
 ml:∀ i,i<L.length->(rat L i).2.length<=8
 br:∀ i,i<L.length->Bk.Ris (En.toB (rat L i).1)
 mr:∀ i,i<L.length->Mk.Ris (Mm.toB (rat L i).2)
theorem Tame.bris {L:List Rep} (h:Tame L):Bk.AllRis (bks L):=by
 intro b hb
 obtain⟨r,hr,rfl⟩:=List.mem_map.1 hb
 obtain⟨i,hi,rfl⟩:=List.mem_iff_getElem.1 hr
 have:=h.br i hi
 rw[rat_at hi] at this
 exact this
theorem Tame.mris {L:List Rep} (h:Tame L):Mk.AllRis (mbs L):=by
 intro b hb
 obtain⟨r,hr,rfl⟩:=List.mem_map.1 hb
 obtain⟨i,hi,rfl⟩:=List.mem_iff_getElem.1 hr
 have:=h.mr i hi
 rw[rat_at hi] at this
 exact this
def WhoP (L:List Rep) (w:World) (e:Ending) (w':World):Prop:=∃ J:Rep,TwoP w J e w'∧En.toB J.1=Bk.whole (bks L)∧Mm.toB J.2=Mk.whole (mbs L)
theorem WhoP.of {L:List Rep} {w w':World} {e:Ending} (J:Rep) (h:TwoP w J e w') (h1:En.toB J.1=Bk.whole (bks L)) (h2:Mm.toB J.2=Mk.whole (mbs L)):WhoP L w e w':=⟨J,h,h1,h2⟩
theorem WhoP.out {L:List Rep} {w w':World} {e:Ending} (h:WhoP L w e w'):∃ J:Rep,TwoP w J e w'∧En.toB J.1=Bk.whole (bks L)∧Mm.toB J.2=Mk.whole (mbs L):=h
def CPBw (go b off i m cap o1 o2 b1 b2:Nat) (oa ba:Option Addr) (A B:List En.Rw) (w0:World) (W:World) (v:Value):Prop:=∃ (s:Sl) (J:List En.Rw),v=sv s∧En.Own W w0.heap.size (sv s) J∧Bk.IsJoin (En.toB A) (En.toB B) (En.toB J)∧J.length<=o1+b1∧Below w0.heap.size w0 W
theorem CPBw.of {go b off i m cap o1 o2 b1 b2:Nat} {oa ba:Option Addr} {A B:List En.Rw} {w0:World} {W:World} {v:Value} {J:List En.Rw} (h:En.Own W w0.heap.size v J) (j:Bk.IsJoin (En.toB A) (En.toB B) (En.toB J)) (l:J.length<=o1+b1) (k:Below w0.heap.size w0 W):CPBw go b off i m cap o1 o2 b1 b2 oa ba A B w0 W v:=by
 obtain⟨a,c,e,_⟩:=h.form
 subst e
 exact⟨(a,J.length,c),J,rfl,h,j,l,k⟩
def SPBw (go b off i m cap o1 o2 b1 b2:Nat) (oa ba:Option Addr) (A B:List En.Rw) (w0:World) (W:World):Prop:=∃ (W1:World) (s:Sl) (J:List En.Rw),W=W1.setCell ⟨go,0,none⟩ (sv s)∧En.Own W1 w0.heap.size (sv s) J∧Bk.IsJoin (En.toB A) (En.toB B) (En.toB J)∧J.length<=o1+b1∧Below w0.heap.size w0 W1
structure RK_Bw (go b off i m cap o1 o2 b1 b2:Nat) (oa ba:Option Addr) (A B:List En.Rw) (w0:World) (W0:World) (L:Nat->Bool) (u12 u13 u14 u15 u16 u17 u18 u19 u20:Value) (W:World):Prop where
 st0:L 7=false->W=W0
 st1:L 7=true->L 9=false->CPBw go b off i m cap o1 o2 b1 b2 oa ba A B w0 W u19
 st2:L 9=true->SPBw go b off i m cap o1 o2 b1 b2 oa ba A B w0 W
 dep:L 7=true->L 1=true∧L 6=true
 dps:L 9=true->L 7=true
 k0:L 0=true->u12=.pointer (some ⟨go,0,none⟩)
 k1:L 1=true->u13=.slice oa o1 o2
 k2:L 2=true->u14=.slice (some ⟨b,off,none⟩) m cap
 k3:L 3=true->u15=.int .i64 i
 k4:L 4=true->u16=.pointer (some ⟨b,off+i*2,none⟩)
 k5:L 5=true->u17=.pointer (some ⟨b,off+i*2,none⟩)
 k6:L 6=true->u18=.slice ba b1 b2
 k8:L 8=true->u20=.pointer (some ⟨go,0,none⟩)
def KK_Bw (go b off i m cap o1 o2 b1 b2:Nat) (oa ba:Option Addr) (A B:List En.Rw) (w0:World) (W0:World) (y0 y1 y2 y3 y4 y5 y6 y7 y8 y9 y10 y11 y21 y22 y23 y24 y25 y26 y27 y28 y29 y30:Value) (L:Nat->Bool) (a:Act) (W:World):Prop:=∃ u12 u13 u14 u15 u16 u17 u18 u19 u20:Value,a=⟨(y0::y1::y2::y3::y4::y5::y6::y7::y8::y9::y10::y11::u12::u13::u14::u15::u16::u17::u18::u19::u20::y21::y22::y23::y24::y25::y26::y27::y28::y29::y30::[]).toArray,[]⟩∧RK_Bw go b off i m cap o1 o2 b1 b2 oa ba A B w0 W0 L u12 u13 u14 u15 u16 u17 u18 u19 u20 W
def CPMw (go b off i m cap o1 o2 b1 b2:Nat) (oa ba:Option Addr) (A B:List Mm.Rw) (w0:World) (W:World) (v:Value):Prop:=∃ (s:Sl) (J:List Mm.Rw),v=sv s∧Mm.Own W w0.heap.size (sv s) J∧Mk.IsJoin (Mm.toB A) (Mm.toB B) (Mm.toB J)∧J.length<=o1+b1∧Below w0.heap.size w0 W
theorem CPMw.of {go b off i m cap o1 o2 b1 b2:Nat} {oa ba:Option Addr} {A B:List Mm.Rw} {w0:World} {W:World} {v:Value} {J:List Mm.Rw} (h:Mm.Own W w0.heap.size v J) (j:Mk.IsJoin (Mm.toB A) (Mm.toB B) (Mm.toB J)) (l:J.length<=o1+b1) (k:Below w0.heap.size w0 W):CPMw go b off i m cap o1 o2 b1 b2 oa ba A B w0 W v:=by
 obtain⟨a,c,e,_⟩:=h.form
 subst e
 exact⟨(a,J.length,c),J,rfl,h,j,l,k⟩
def SPMw (go b off i m cap o1 o2 b1 b2:Nat) (oa ba:Option Addr) (A B:List Mm.Rw) (w0:World) (W:World):Prop:=∃ (W1:World) (s:Sl) (J:List Mm.Rw),W=W1.setCell ⟨go,1,none⟩ (sv s)∧Mm.Own W1 w0.heap.size (sv s) J∧Mk.IsJoin (Mm.toB A) (Mm.toB B) (Mm.toB J)∧J.length<=o1+b1∧Below w0.heap.size w0 W1
structure RK_Mw (go b off i m cap o1 o2 b1 b2:Nat) (oa ba:Option Addr) (A B:List Mm.Rw) (w0:World) (W0:World) (L:Nat->Bool) (u21 u22 u23 u24 u25 u26 u27 u28 u29:Value) (W:World):Prop where
 st0:L 7=false->W=W0
 st1:L 7=true->L 9=false->CPMw go b off i m cap o1 o2 b1 b2 oa ba A B w0 W u28
 st2:L 9=true->SPMw go b off i m cap o1 o2 b1 b2 oa ba A B w0 W
 dep:L 7=true->L 1=true∧L 6=true
 dps:L 9=true->L 7=true
 k0:L 0=true->u21=.pointer (some ⟨go,1,none⟩)
 k1:L 1=true->u22=.slice oa o1 o2
 k2:L 2=true->u23=.slice (some ⟨b,off,none⟩) m cap
 k3:L 3=true->u24=.int .i64 i
 k4:L 4=true->u25=.pointer (some ⟨b,off+i*2,none⟩)
 k5:L 5=true->u26=.pointer (some ⟨b,off+i*2+1,none⟩)
 k6:L 6=true->u27=.slice ba b1 b2
 k8:L 8=true->u29=.pointer (some ⟨go,1,none⟩)
def KK_Mw (go b off i m cap o1 o2 b1 b2:Nat) (oa ba:Option Addr) (A B:List Mm.Rw) (w0:World) (W0:World) (y0 y1 y2 y3 y4 y5 y6 y7 y8 y9 y10 y11 y12 y13 y14 y15 y16 y17 y18 y19 y20 y30:Value) (L:Nat->Bool) (a:Act) (W:World):Prop:=∃ u21 u22 u23 u24 u25 u26 u27 u28 u29:Value,a=⟨(y0::y1::y2::y3::y4::y5::y6::y7::y8::y9::y10::y11::y12::y13::y14::y15::y16::y17::y18::y19::y20::u21::u22::u23::u24::u25::u26::u27::u28::u29::y30::[]).toArray,[]⟩∧RK_Mw go b off i m cap o1 o2 b1 b2 oa ba A B w0 W0 L u21 u22 u23 u24 u25 u26 u27 u28 u29 W
theorem spec_l13Whole (a:Option Addr) (cap:Nat) (L:List Rep) (w:World) (h:Rd w a L) (hT:Tame L) :
  Calls Tryz.prog 37 #[.slice a L.length cap] w fun e w'=>WhoP L w e w':=by
 have HBT:=hidIt (fun i (hi:i<L.length)=>bks_take hi)
 have HMT:=hidIt (fun i (hi:i<L.length)=>mbs_take hi)
 have HBE:Hid ((bks L).take L.length=bks L):=hidIt (by rw[show L.length=(bks L).length by simp[bks],List.take_length])
 have HME:Hid ((mbs L).take L.length=mbs L):=hidIt (by rw[show L.length=(mbs L).length by simp[mbs],List.take_length])
 have HBR:=hidIt hT.bris
 have HMR:=hidIt hT.mris
 have HTT:=hidIt hT
 have hm6:=hT.n
 have HR:=hidIt h
 clear h hT
 generalize hn:L.length=m at *
 have HN:=hidIt hn
 clear hn
 have BR:=hidIt ((Bo.Box.new w #[.slice none 0 0,.slice none 0 0] 32).alloc (.cells #[.slice none 0 0,.slice none 0 0] 32))
 have BO:Hid (Bo.Box ((w.alloc (.cells #[.slice none 0 0,.slice none 0 0] 32)).alloc (.cells #[.slice none 0 0,.slice none 0 0] 32)) (w.heap.size+1) #[.slice none 0 0,.slice none 0 0]):=hidIt (Bo.Box.newAt (by simp))
 have HB0:=hidIt (((Below.refl w.heap.size w).alloc (Nat.le_refl _) (.cells #[.slice none 0 0,.slice none 0 0] 32)).alloc (by simp) (.cells #[.slice none 0 0,.slice none 0 0] 32))
 go_enter Tryz.func37,Tryz.ntmps37
 go_wp2_with (fail)
 go_loopw [4] (fun y wx=>∃ (i:Nat) (s t:Sl) (J:Rep),y=.int .i64 i∧i<=m∧J.1.length<=80*i∧J.2.length<=8*i∧Hid (Bo.Box wx (w.heap.size+1) #[sv s,sv t])∧Hid (Bo.Box wx w.heap.size #[.slice none 0 0,.slice none 0 0])∧Hid (En.Own wx (w.heap.size+2) (sv s) J.1)∧Hid (Mm.Own wx (w.heap.size+2) (sv t) J.2)∧Hid (En.toB J.1=Bk.whole ((bks L).take i))∧Hid (Mm.toB J.2=Mk.whole ((mbs L).take i))∧Hid (Below w.heap.size w wx)) (fun y _=>(m - intOf y).toNat)
 case atStart=>exact⟨0,(none,0,0),(none,0,0),([],[]),rfl,by omega,by simp,by simp,BO,BR,hidIt (En.Own.ofNil _ _),hidIt (Mm.Own.ofNil _ _),hidIt rfl,hidIt rfl,HB0⟩
 case round =>
  obtain⟨i,s,t,J,rfl,hi,hl1,hl2,BO',BR',OE,OM,EB,EM,HB⟩:=hrel
  clear BO BR HB0
  by_cases hin:i<m
  ·
   have hin':(i:Int)<(m:Int):=by omega
   have hi0:(0:Int)<=(i:Int):=by omega
   have hiL:i<L.length:=by rw[HN.out];exact hin
   obtain⟨b,off,p,q,ea,c0w,c1w,rEw,rMw⟩:=HR.out.one (i:=i) hiL
   subst ea
   have hbw:b<w.heap.size:=World.block_lt_of_cell? _ _ c0w
   have HRc:=hidIt (fun W (k:Below w.heap.size w W)=>show W.cell? ⟨b,off+i*2+1,none⟩=some (sv q) by rw[k.cell hbw];exact c1w)
   have HR4:=hidIt (fun W (k:Below w.heap.size w W)=>(rMw.kept k).rd)
   have c0:wr.cell? ⟨b,off+i*2,none⟩=some (sv p):=by rw[HB.out.cell hbw];exact c0w
   have c1:=HRc.out wr HB.out
   have rE:=rEw.kept HB.out
   have rM:=rMw.kept HB.out
   clear c0w c1w rEw rMw
   have rs:=rdE_of OE.out
   have rt:=rdM_of OM.out
   have hb80:=HTT.out.bl i hiL
   have hm8:=HTT.out.ml i hiL
   have Ri1:Bk.Ris (En.toB J.1):=by rw[EB.out];exact Bk.whole_ris (Bk.take_ris HBR.out _)
   have Ri2:Mk.Ris (Mm.toB J.2):=by rw[EM.out];exact Mk.whole_ris (Mk.take_ris HMR.out _)
   have HJ1:=hidIt (fun K (j:Bk.IsJoin (En.toB J.1) (En.toB (rat L i).1) K)=>show K=Bk.whole ((bks L).take (i+1)) by
    rw[HBT.out i hin,Bk.whole_snoc,<- EB.out]
    exact j.unique (Bk.merge_join _ _ Ri1 (HTT.out.br i hiL)))
   have HJ2:=hidIt (fun K (j:Mk.IsJoin (Mm.toB J.2) (Mm.toB (rat L i).2) K)=>show K=Mk.whole ((mbs L).take (i+1)) by
    rw[HMT.out i hin,Mk.whole_snoc,<- EM.out]
    exact j.unique (Mk.merge_join _ _ Ri2 (HTT.out.mr i hiL)))
   obtain⟨s0,s1,s2⟩:=s
   obtain⟨t0,t1,t2⟩:=t
   obtain⟨p0,p1,p2⟩:=p
   obtain⟨q0,q1,q2⟩:=q
   obtain⟨e1,r1,n1,_,_⟩:=rs
   obtain⟨e2,r2,n2,_,_⟩:=rt
   obtain⟨e3,r3,n3,_,_⟩:=rE
   obtain⟨e4,r4,n4,_,_⟩:=rM
   simp only at e1 r1 n1 e2 r2 n2 e3 r3 n3 e4 r4 n4
   simp only[sv] at c0 c1 BO' OE OM HRc HR4
   have C1:=hidIt (fun W (k:En.Rd W s0 J.1) (k':En.Rd W p0 (rat L i).1)=>En.spec_l11Join s0 p0 s2 p2 J.1 (rat L i).1 W k k' n1 Ri1 (HTT.out.br i hiL) (by omega))
   have C2:=hidIt (fun W (k:Mm.Rd W t0 J.2) (k':Mm.Rd W q0 (rat L i).2)=>Mm.spec_l12Merge t0 q0 t2 q2 J.2 (rat L i).2 W k k' n2 Ri2 (HTT.out.mr i hiL) (by omega))
   rw[<- e1,<- e3] at C1
   rw[<- e2,<- e4] at C2
   have hgo:w.heap.size+1<wr.heap.size:=BO'.out.lt
   have H1:=hidIt r1
   have H2:=hidIt r2
   have H3:=hidIt r3
   have H4:=hidIt r4
   have HE1:=hidIt e1
   have HE2:=hidIt e2
   have HE3:=hidIt e3
   have HE4:=hidIt e4
   clear r1 r2 r3 r4 n1 n2 n3 n4 e1 e2 e3 e4 Ri1 Ri2
   have K0:wr.drew.cell? ⟨w.heap.size+1,0,none⟩=some (.slice s0 s1 s2):=BO'.out.c 0 rfl
   have K1:wr.drew.cell? ⟨b,off+i*2,none⟩=some (.slice p0 p1 p2):=c0
   have Kz:wr.drew.frozen? ⟨w.heap.size+1,0,none⟩=false:=BO'.out.fr 0
   have Kg:w.heap.size+1<wr.drew.heap.size:=hgo
   have HC:=hidIt (C1.out wr.drew H1.out.drew H3.out.drew)
   go_wp2_with (fail)
   refine wp_region_inv (by kernel_rfl) (by kernel_rfl) (KK_Bw (w.heap.size+1) b off i m cap s1 s2 p1 p2 s0 p0 J.1 (rat L i).1 wr.drew (wr.drew) _ _ _ _ _ _ _ _ _ _ _ _ _ _ _ _ _ _ _ _ _ _) ⟨_,_,_,_,_,_,_,_,_,rfl,⟨fun _=>rfl,(fun q=>by cases q),(fun q=>by cases q),(fun q=>by cases q),(fun q=>by cases q),(fun q=>by cases q),(fun q=>by cases q),(fun q=>by cases q),(fun q=>by cases q),(fun q=>by cases q),(fun q=>by cases q),(fun q=>by cases q),(fun q=>by cases q)⟩⟩ ?_ ?_
   case refine_1 =>
    have c0:=K0
    have c1:=K1
    have z:=Kz
    have hgo:=Kg
    clear K0 K1 Kz Kg
    generalize wr.drew=W0 at c0 c1 z hgo HC ⊢
    intro Lb a' W i hi hI hL hD
    have hcases:i=0∨i=1∨i=2∨i=3∨i=4∨i=5∨i=6∨i=7∨i=8∨i=9:=by simp at hi;omega
    clear hi
    obtain⟨u12,u13,u14,u15,u16,u17,u18,u19,u20,rfl,R⟩:=hI
    rcases hcases with rfl | rfl | rfl | rfl | rfl | rfl | rfl | rfl | rfl | rfl
    ·
     skip
     refine op_at rfl (fun K hK=>?_)
     go_simp
     refine hK _ _ ?_
     exact⟨_,_,_,_,_,_,_,_,_,rfl,R.st0,R.st1,R.st2,R.dep,R.dps,(fun _=>rfl),R.k1,R.k2,R.k3,R.k4,R.k5,R.k6,R.k8⟩
    ·
     skip
     have e0:=R.k0 (hD 0 (by kernel_rfl))
     subst e0
     have hc:Lb 7=false:=by
      cases q:Lb 7 with
      | false=>rfl
      | true=>have z:=R.dep q;simp[hL] at z
     have eW:=R.st0 hc
     subst eW
     refine op_at rfl (fun K hK=>?_)
     go_simp
     refine hK _ _ ?_
     exact⟨_,_,_,_,_,_,_,_,_,rfl,R.st0,R.st1,R.st2,(fun q=>by have q2:Lb 7=true:=q;rw[hc] at q2;cases q2),R.dps,R.k0,(fun _=>rfl),R.k2,R.k3,R.k4,R.k5,R.k6,R.k8⟩
    ·
     skip
     refine op_at rfl (fun K hK=>?_)
     go_simp
     refine hK _ _ ?_
     exact⟨_,_,_,_,_,_,_,_,_,rfl,R.st0,R.st1,R.st2,R.dep,R.dps,R.k0,R.k1,(fun _=>rfl),R.k3,R.k4,R.k5,R.k6,R.k8⟩
    ·
     skip
     refine op_at rfl (fun K hK=>?_)
     go_simp
     refine hK _ _ ?_
     exact⟨_,_,_,_,_,_,_,_,_,rfl,R.st0,R.st1,R.st2,R.dep,R.dps,R.k0,R.k1,R.k2,(fun _=>rfl),R.k4,R.k5,R.k6,R.k8⟩
    ·
     skip
     have e2:=R.k2 (hD 2 (by kernel_rfl))
     subst e2
     have e3:=R.k3 (hD 3 (by kernel_rfl))
     subst e3
     refine op_at rfl (fun K hK=>?_)
     go_simp
     refine hK _ _ ?_
     exact⟨_,_,_,_,_,_,_,_,_,rfl,R.st0,R.st1,R.st2,R.dep,R.dps,R.k0,R.k1,R.k2,R.k3,(fun _=>rfl),R.k5,R.k6,R.k8⟩
    ·
     skip
     have e4:=R.k4 (hD 4 (by kernel_rfl))
     subst e4
     refine op_at rfl (fun K hK=>?_)
     go_simp
     refine hK _ _ ?_
     exact⟨_,_,_,_,_,_,_,_,_,rfl,R.st0,R.st1,R.st2,R.dep,R.dps,R.k0,R.k1,R.k2,R.k3,R.k4,(fun _=>rfl),R.k6,R.k8⟩
    ·
     skip
     have e5:=R.k5 (hD 5 (by kernel_rfl))
     subst e5
     have hc:Lb 7=false:=by
      cases q:Lb 7 with
      | false=>rfl
      | true=>have z:=R.dep q;simp[hL] at z
     have eW:=R.st0 hc
     subst eW
     refine op_at rfl (fun K hK=>?_)
     go_simp
     refine hK _ _ ?_
     exact⟨_,_,_,_,_,_,_,_,_,rfl,R.st0,R.st1,R.st2,(fun q=>by have q2:Lb 7=true:=q;rw[hc] at q2;cases q2),R.dps,R.k0,R.k1,R.k2,R.k3,R.k4,R.k5,(fun _=>rfl),R.k8⟩
    ·
     skip
     have e1:=R.k1 (hD 1 (by kernel_rfl))
     subst e1
     have e6:=R.k6 (hD 6 (by kernel_rfl))
     subst e6
     have eW:=R.st0 hL
     subst eW
     refine op_at rfl (fun K hK=>?_)
     go_simp
     refine (HC.out).mono ?_
     rintro e W1 ⟨v,J,rfl,_,o1',j1,l1,k1⟩
     go_simp
     refine hK _ _ ?_
     exact⟨_,_,_,_,_,_,_,_,_,rfl,(fun q=>by cases q),(fun _ _=>CPBw.of o1' j1 l1 k1),(fun q=>by have q2:=R.dps q;rw[hL] at q2;cases q2),(fun _=>⟨hD 1 (by kernel_rfl),hD 6 (by kernel_rfl)⟩),(fun _=>rfl),R.k0,R.k1,R.k2,R.k3,R.k4,R.k5,R.k6,R.k8⟩
    ·
     skip
     refine op_at rfl (fun K hK=>?_)
     go_simp
     refine hK _ _ ?_
     exact⟨_,_,_,_,_,_,_,_,_,rfl,R.st0,R.st1,R.st2,R.dep,R.dps,R.k0,R.k1,R.k2,R.k3,R.k4,R.k5,R.k6,(fun _=>rfl)⟩
    ·
     skip
     have e8:=R.k8 (hD 8 (by kernel_rfl))
     subst e8
     have hcc:=hD 7 (by kernel_rfl)
     have hc:=R.st1 hcc hL
     obtain⟨⟨z0,z1,z2⟩,J,rfl,hO,hj,hl,hb⟩:=hc
     have g0:W.cell? ⟨w.heap.size+1,0,none⟩=some (.slice s0 s1 s2):=by rw[hb.cell hgo];exact c0
     have g1:W.frozen? ⟨w.heap.size+1,0,none⟩=false:=by rw[hb.frozen hgo];exact z
     simp only[sv] at hO
     refine op_at rfl (fun K hK=>?_)
     go_simp
     refine hK _ _ ?_
     exact⟨_,_,_,_,_,_,_,_,_,rfl,(fun q=>by have q2:Lb 7=false:=q;rw[hcc] at q2;cases q2),(fun _ q=>by cases q),(fun _=>⟨W,(z0,z1,z2),J,rfl,hO,hj,hl,hb⟩),R.dep,(fun _=>hcc),R.k0,R.k1,R.k2,R.k3,R.k4,R.k5,R.k6,R.k8⟩
   case refine_2 =>
    intro Lb a' W hI hall
    obtain⟨u12,u13,u14,u15,u16,u17,u18,u19,u20,rfl,R⟩:=hI
    have hS:=R.st2 (hall 9)
    clear R hall
    obtain⟨W1,⟨z0,z1,z2⟩,K,rfl,oK,jK,lK,kK⟩:=hS
    have kk:Below wr.heap.size wr W1:=⟨kK.os,kK.tape,kK.output,kK.size,kK.block⟩
    have eK:=HJ1.out _ jK
    have HEK:=hidIt eK
    have OK1:=hidIt (show En.Own W1 wr.heap.size (.slice z0 z1 z2) K from oK)
    have Y:=hidIt ((Only.refl (w.heap.size+1) W1).setCell 0 (.slice z0 z1 z2))
    have OK2:=hidIt (OK1.out.only Y.out (.inl hgo))
    have OM2:=hidIt ((OM.out.kept kk).only Y.out (.inl (by omega)))
    have BO2:=hidIt ((BO'.out.kept kk).put (c':=#[.slice z0 z1 z2,.slice t0 t1 t2]) 0 (.slice z0 z1 z2) (by simp) rfl)
    have BR2:=hidIt ((BR'.out.kept kk).other (v:=.slice z0 z1 z2) (i:=0) (show w.heap.size+1≠w.heap.size by omega))
    have HB2:=hidIt ((on HB.out kk).setCell (p:=⟨w.heap.size+1,0,none⟩) (by show w.heap.size<=w.heap.size+1;omega) (.slice z0 z1 z2))
    have OK3:=hidIt (OK2.out.mono (show w.heap.size+2<=wr.heap.size by omega))
    have lK':K.length<=80*(i+1):=by have:=HE1.out;have:=HE3.out;omega
    have H4':=hidIt (HR4.out _ HB2.out)
    have hc1':=HRc.out _ HB2.out
    clear HC C1 OK1 OK2 Y kK kk jK oK eK lK BO' BR' OE OM HB H1 H3 K0 K1 Kz Kg c0 c1
    generalize W1.setCell ⟨w.heap.size+1,0,none⟩ (.slice z0 z1 z2)=wr at OM2 BO2 BR2 HB2 OK3 H4' hc1' ⊢
    have hgo:w.heap.size+1<wr.heap.size:=BO2.out.lt
    have HM2:Hid (Mm.Rd wr t0 J.2):=hidIt (rdM_of (s:=(t0,t1,t2)) OM2.out).rd
    have K0:wr.drew.cell? ⟨w.heap.size+1,1,none⟩=some (.slice t0 t1 t2):=BO2.out.c 1 rfl
    have K1:wr.drew.cell? ⟨b,off+i*2+1,none⟩=some (.slice q0 q1 q2):=hc1'
    have Kz:wr.drew.frozen? ⟨w.heap.size+1,1,none⟩=false:=BO2.out.fr 1
    have Kg:w.heap.size+1<wr.drew.heap.size:=hgo
    have HC:=hidIt (C2.out wr.drew HM2.out.drew H4'.out.drew)
    go_wp2_with (fail)
    refine wp_region_inv (by kernel_rfl) (by kernel_rfl) (KK_Mw (w.heap.size+1) b off i m cap t1 t2 q1 q2 t0 q0 J.2 (rat L i).2 wr.drew (wr.drew) _ _ _ _ _ _ _ _ _ _ _ _ _ _ _ _ _ _ _ _ _ _) ⟨_,_,_,_,_,_,_,_,_,rfl,⟨fun _=>rfl,(fun q=>by cases q),(fun q=>by cases q),(fun q=>by cases q),(fun q=>by cases q),(fun q=>by cases q),(fun q=>by cases q),(fun q=>by cases q),(fun q=>by cases q),(fun q=>by cases q),(fun q=>by cases q),(fun q=>by cases q),(fun q=>by cases q)⟩⟩ ?_ ?_
    case refine_1 =>
     have c0:=K0
     have c1:=K1
     have z:=Kz
     have hgo:=Kg
     clear K0 K1 Kz Kg
     generalize wr.drew=W0 at c0 c1 z hgo HC ⊢
     intro Lb a' W i hi hI hL hD
     have hcases:i=0∨i=1∨i=2∨i=3∨i=4∨i=5∨i=6∨i=7∨i=8∨i=9:=by simp at hi;omega
     clear hi
     obtain⟨u21,u22,u23,u24,u25,u26,u27,u28,u29,rfl,R⟩:=hI
     rcases hcases with rfl | rfl | rfl | rfl | rfl | rfl | rfl | rfl | rfl | rfl
     ·
      skip
      refine op_at rfl (fun K hK=>?_)
      go_simp
      refine hK _ _ ?_
      exact⟨_,_,_,_,_,_,_,_,_,rfl,R.st0,R.st1,R.st2,R.dep,R.dps,(fun _=>rfl),R.k1,R.k2,R.k3,R.k4,R.k5,R.k6,R.k8⟩
     ·
      skip
      have e0:=R.k0 (hD 0 (by kernel_rfl))
      subst e0
      have hc:Lb 7=false:=by
       cases q:Lb 7 with
       | false=>rfl
       | true=>have z:=R.dep q;simp[hL] at z
      have eW:=R.st0 hc
      subst eW
      refine op_at rfl (fun K hK=>?_)
      go_simp
      refine hK _ _ ?_
      exact⟨_,_,_,_,_,_,_,_,_,rfl,R.st0,R.st1,R.st2,(fun q=>by have q2:Lb 7=true:=q;rw[hc] at q2;cases q2),R.dps,R.k0,(fun _=>rfl),R.k2,R.k3,R.k4,R.k5,R.k6,R.k8⟩
     ·
      skip
      refine op_at rfl (fun K hK=>?_)
      go_simp
      refine hK _ _ ?_
      exact⟨_,_,_,_,_,_,_,_,_,rfl,R.st0,R.st1,R.st2,R.dep,R.dps,R.k0,R.k1,(fun _=>rfl),R.k3,R.k4,R.k5,R.k6,R.k8⟩
     ·
      skip
      refine op_at rfl (fun K hK=>?_)
      go_simp
      refine hK _ _ ?_
      exact⟨_,_,_,_,_,_,_,_,_,rfl,R.st0,R.st1,R.st2,R.dep,R.dps,R.k0,R.k1,R.k2,(fun _=>rfl),R.k4,R.k5,R.k6,R.k8⟩
     ·
      skip
      have e2:=R.k2 (hD 2 (by kernel_rfl))
      subst e2
      have e3:=R.k3 (hD 3 (by kernel_rfl))
      subst e3
      refine op_at rfl (fun K hK=>?_)
      go_simp
      refine hK _ _ ?_
      exact⟨_,_,_,_,_,_,_,_,_,rfl,R.st0,R.st1,R.st2,R.dep,R.dps,R.k0,R.k1,R.k2,R.k3,(fun _=>rfl),R.k5,R.k6,R.k8⟩
     ·
      skip
      have e4:=R.k4 (hD 4 (by kernel_rfl))
      subst e4
      refine op_at rfl (fun K hK=>?_)
      go_simp
      refine hK _ _ ?_
      exact⟨_,_,_,_,_,_,_,_,_,rfl,R.st0,R.st1,R.st2,R.dep,R.dps,R.k0,R.k1,R.k2,R.k3,R.k4,(fun _=>rfl),R.k6,R.k8⟩
     ·
      skip
      have e5:=R.k5 (hD 5 (by kernel_rfl))
      subst e5
      have hc:Lb 7=false:=by
       cases q:Lb 7 with
       | false=>rfl
       | true=>have z:=R.dep q;simp[hL] at z
      have eW:=R.st0 hc
      subst eW
      refine op_at rfl (fun K hK=>?_)
      go_simp
      refine hK _ _ ?_
      exact⟨_,_,_,_,_,_,_,_,_,rfl,R.st0,R.st1,R.st2,(fun q=>by have q2:Lb 7=true:=q;rw[hc] at q2;cases q2),R.dps,R.k0,R.k1,R.k2,R.k3,R.k4,R.k5,(fun _=>rfl),R.k8⟩
     ·
      skip
      have e1:=R.k1 (hD 1 (by kernel_rfl))
      subst e1
      have e6:=R.k6 (hD 6 (by kernel_rfl))
      subst e6
      have eW:=R.st0 hL
      subst eW
      refine op_at rfl (fun K hK=>?_)
      go_simp
      refine (HC.out).mono ?_
      rintro e W1 ⟨v,J,rfl,_,o1',j1,l1,k1⟩
      go_simp
      refine hK _ _ ?_
      exact⟨_,_,_,_,_,_,_,_,_,rfl,(fun q=>by cases q),(fun _ _=>CPMw.of o1' j1 l1 k1),(fun q=>by have q2:=R.dps q;rw[hL] at q2;cases q2),(fun _=>⟨hD 1 (by kernel_rfl),hD 6 (by kernel_rfl)⟩),(fun _=>rfl),R.k0,R.k1,R.k2,R.k3,R.k4,R.k5,R.k6,R.k8⟩
     ·
      skip
      refine op_at rfl (fun K hK=>?_)
      go_simp
      refine hK _ _ ?_
      exact⟨_,_,_,_,_,_,_,_,_,rfl,R.st0,R.st1,R.st2,R.dep,R.dps,R.k0,R.k1,R.k2,R.k3,R.k4,R.k5,R.k6,(fun _=>rfl)⟩
     ·
      skip
      have e8:=R.k8 (hD 8 (by kernel_rfl))
      subst e8
      have hcc:=hD 7 (by kernel_rfl)
      have hc:=R.st1 hcc hL
      obtain⟨⟨z0,z1,z2⟩,J,rfl,hO,hj,hl,hb⟩:=hc
      have g0:W.cell? ⟨w.heap.size+1,1,none⟩=some (.slice t0 t1 t2):=by rw[hb.cell hgo];exact c0
      have g1:W.frozen? ⟨w.heap.size+1,1,none⟩=false:=by rw[hb.frozen hgo];exact z
      simp only[sv] at hO
      refine op_at rfl (fun K hK=>?_)
      go_simp
      refine hK _ _ ?_
      exact⟨_,_,_,_,_,_,_,_,_,rfl,(fun q=>by have q2:Lb 7=false:=q;rw[hcc] at q2;cases q2),(fun _ q=>by cases q),(fun _=>⟨W,(z0,z1,z2),J,rfl,hO,hj,hl,hb⟩),R.dep,(fun _=>hcc),R.k0,R.k1,R.k2,R.k3,R.k4,R.k5,R.k6,R.k8⟩
    case refine_2 =>
     intro Lb a' W hI hall
     obtain⟨u21,u22,u23,u24,u25,u26,u27,u28,u29,rfl,R⟩:=hI
     have hS:=R.st2 (hall 9)
     clear R hall
     obtain⟨W1,⟨x0,x1,x2⟩,K2,rfl,oK,jK,lK,kK⟩:=hS
     have kk:Below wr.heap.size wr W1:=⟨kK.os,kK.tape,kK.output,kK.size,kK.block⟩
     have eK:=HJ2.out _ jK
     have HEK2:=hidIt eK
     have OK1:=hidIt (show Mm.Own W1 wr.heap.size (.slice x0 x1 x2) K2 from oK)
     have Y:=hidIt ((Only.refl (w.heap.size+1) W1).setCell 1 (.slice x0 x1 x2))
     have OK2:=hidIt (OK1.out.only Y.out (.inl hgo))
     have OM3:=hidIt ((OK3.out.kept kk).only Y.out (.inl (by omega)))
     have BO3:=hidIt ((BO2.out.kept kk).put (c':=#[.slice z0 z1 z2,.slice x0 x1 x2]) 1 (.slice x0 x1 x2) (by simp) rfl)
     have BR3:=hidIt ((BR2.out.kept kk).other (v:=.slice x0 x1 x2) (i:=1) (show w.heap.size+1≠w.heap.size by omega))
     have HB3:=hidIt ((on HB2.out kk).setCell (p:=⟨w.heap.size+1,1,none⟩) (by show w.heap.size<=w.heap.size+1;omega) (.slice x0 x1 x2))
     have OK4:=hidIt (OK2.out.mono (show w.heap.size+2<=wr.heap.size by omega))
     have lK2':K2.length<=8*(i+1):=by have:=HE2.out;have:=HE4.out;omega
     clear HC C2 OK1 OK2 Y kK kk jK oK eK lK BO2 BR2 OM2 OK3 HB2 K0 K1 Kz Kg H4'
     go_wp2_with (fail)
     exact⟨⟨i+1,(z0,z1,z2),(x0,x1,x2),(K,K2),by simp,by omega,lK',lK2',BO3,BR3,OM3,OK4,HEK,HEK2,HB3⟩,by simp[intOf];omega⟩
  ·
   have hin':¬ (i:Int)<(m:Int):=by omega
   obtain rfl:i=m:=by omega
   have EB':=EB.out
   have EM':=EM.out
   rw[HBE.out] at EB'
   rw[HME.out] at EM'
   obtain⟨s0,s1,s2⟩:=s
   obtain⟨t0,t1,t2⟩:=t
   simp only[sv] at BO' OE OM
   have a0:=BO'.out.c 0 (v:=.slice s0 s1 s2) rfl
   have a1:=BO'.out.c 1 (v:=.slice t0 t1 t2) rfl
   have b0:=BR'.out.c 0 (v:=.slice none 0 0) rfl
   have b1:=BR'.out.c 1 (v:=.slice none 0 0) rfl
   have g0:=BR'.out.fr 0
   have g1:=BR'.out.fr 1
   have hb0:w.heap.size≠w.heap.size+1:=by omega
   have Y:=hidIt (((Only.refl w.heap.size wr).setCell 0 (.slice s0 s1 s2)).setCell 1 (.slice t0 t1 t2))
   have OE2:=hidIt ((OE.out.only Y.out (.inl (by omega))).mono (show w.heap.size<=w.heap.size+2 by omega))
   have OM2:=hidIt ((OM.out.only Y.out (.inl (by omega))).mono (show w.heap.size<=w.heap.size+2 by omega))
   have HB2:=hidIt ((HB.out.setCell (p:=⟨w.heap.size,0,none⟩) (Nat.le_refl _) (.slice s0 s1 s2)).setCell (p:=⟨w.heap.size,1,none⟩) (Nat.le_refl _) (.slice t0 t1 t2))
   have RB:=hidIt ((BR'.out.put (c':=#[.slice s0 s1 s2,.slice none 0 0]) 0 (.slice s0 s1 s2) (by simp) rfl).put (c':=#[.slice s0 s1 s2,.slice t0 t1 t2]) 1 (.slice t0 t1 t2) (by simp) rfl)
   clear BO' BR' OE OM HB Y
   go_wp2_with (fail)
   generalize (wr.setCell ⟨w.heap.size,0,none⟩ (.slice s0 s1 s2)).setCell ⟨w.heap.size,1,none⟩ (.slice t0 t1 t2)=wz at OE2 OM2 HB2 RB ⊢
   have r0:=RB.out.c 0 (v:=.slice s0 s1 s2) rfl
   have r1:=RB.out.c 1 (v:=.slice t0 t1 t2) rfl
   clear a0 a1 b0 b1 g0 g1
   refine bodyPost_ret (v:=.agg #[.slice s0 s1 s2,.slice t0 t1 t2]) (by simp[results,Tryz.results37,go_sem,r0,r1]) rfl ?_
   exact WhoP.of J (TwoP.of (s:=(s0,s1,s2)) (t:=(t0,t1,t2)) rfl OE2.out OM2.out HB2.out) EB' EM'
end Go.Proofs.YtkeapmmochpcfaaGreat.Rp
namespace Go.Proofs.YtkeapmmochpcfaaGreat.Rp
open Go.ChangeShapes Go.WideShapes Go.ChangeAt Go.RowKit
open Vv (Sl sv hidIt)
def okG (L:List Rep):Bool:=decide (1<=L.length)&&(decide (L.length<=6)&&(L.all okR&&decide ((Bk.whole (bks L)).length<=80)))
theorem okG_all {L:List Rep} (h:okG L=true):1<=L.length∧L.length<=6∧(∀ i,i<L.length->okR (rat L i)=true)∧(Bk.whole (bks L)).length<=80:=by
 unfold okG at h
 simp only[Bool.and_eq_true,decide_eq_true_eq,List.all_eq_true] at h
 exact⟨h.1,h.2.1,fun i hi=>h.2.2.1 _ (rat_mem hi),h.2.2.2⟩
theorem okG_mk {L:List Rep} (h1:1<=L.length) (h2:L.length<=6) (h3:∀ i,i<L.length->okR (rat L i)=true) (h4:(Bk.whole (bks L)).length<=80):okG L=true:=by
 unfold okG
 simp only[Bool.and_eq_true,decide_eq_true_eq,List.all_eq_true]
 refine⟨h1,h2,fun r hr=>?_,h4⟩
 obtain⟨i,hi,rfl⟩:=List.mem_iff_getElem.1 hr
 have:=h3 i hi
 rw[rat_at hi] at this
 exact this
theorem tame_of {L:List Rep} (h2:L.length<=6) (h3:∀ i,i<L.length->okR (rat L i)=true):Tame L:=by
 have hb:∀ i,i<L.length->Bk.okBk (En.toB (rat L i).1)=true:=fun i hi=>by
  have:=h3 i hi
  unfold okR at this
  rw[Bool.and_eq_true] at this
  exact this.1
 have hm:∀ i,i<L.length->Mk.okBk (Mm.toB (rat L i).2)=true:=fun i hi=>by
  have:=h3 i hi
  unfold okR at this
  rw[Bool.and_eq_true] at this
  exact this.2
 exact⟨h2,fun i hi=>by have:=Bk.ok_len (hb i hi);rwa [List.length_map] at this,fun i hi=>by have:=Mk.ok_len (hm i hi);rwa [List.length_map] at this,fun i hi=>Bk.ok_ris (hb i hi),fun i hi=>Mk.ok_ris (hm i hi)⟩
theorem okG_tame {L:List Rep} (h:okG L=true):Tame L:=tame_of (okG_all h).2.1 (okG_all h).2.2.1
theorem run_field0 (a d:Option Addr) (b c e f:Nat) (W:World):(Instr.field 32 (.agg #[.slice a b c,.slice d e f]) 0).run Tryz.prog W=.ok (.slice a b c) W:=by kernel_rfl
attribute [local go_sem] run_field0
theorem spec_GroupOk (a:Option Addr) (cap:Nat) (L:List Rep) (w:World) (h:Rd w a L) (hs:Short L) (hl:L.length<=9223372036854775807) (hlb:∀ i,i<L.length->(rat L i).1.length<=9223372036854775807∧(rat L i).2.length<=9223372036854775807) :
  Calls Tryz.prog 12 #[.slice a L.length cap] w fun e w'=>e=.returned (.bool (okG L))∧Below w.heap.size w w':=by
 have N1:Hid (¬ 1<=L.length->okG L=false):=hidIt (fun q=>by cases e:okG L with | false=>rfl | true=>exact absurd (okG_all e).1 q)
 have N2:Hid (¬ L.length<=6->okG L=false):=hidIt (fun q=>by cases e:okG L with | false=>rfl | true=>exact absurd (okG_all e).2.1 q)
 have N3:Hid (∀ i,i<L.length->okR (rat L i)=false->okG L=false):=hidIt (fun i hi q=>by cases e:okG L with | false=>rfl | true=>exact absurd ((okG_all e).2.2.1 i hi) (by rw[q];decide))
 have N4:Hid (1<=L.length->L.length<=6->(∀ i,i<L.length->okR (rat L i)=true)->okG L=decide ((Bk.whole (bks L)).length<=80)):=hidIt (fun h1 h2 h3=>by
  by_cases q:(Bk.whole (bks L)).length<=80
  ·
   rw[okG_mk h1 h2 h3 q,decide_eq_true q]
  ·
   rw[decide_eq_false q]
   cases e:okG L with
   | false=>rfl
   | true=>exact absurd (okG_all e).2.2.2 q)
 have CW:=hidIt (fun W (r:Rd W a L) (t:Tame L)=>spec_l13Whole a cap L W r t)
 have HTM:=hidIt (fun h2 h3=>tame_of (L:=L) h2 h3)
 have HR:=hidIt h
 have HS:=hidIt hs
 have HLB:=hidIt hlb
 clear h hs hlb
 generalize okG L=r at N1 N2 N3 N4 ⊢
 generalize hn:L.length=m at *
 have HN:=hidIt hn
 clear hn
 by_cases h1:1<=m
 ·
  by_cases h6:m<=6
  ·
   have g1:¬ (m:Int)<1:=by omega
   have g1':decide ((m:Int)<1)=false:=decide_eq_false g1
   have g2:decide ((6:Int)<(m:Int))=false:=decide_eq_false (by omega)
   go_enter Tryz.func12,Tryz.ntmps12
   go_wp2_with (fail)
   go_loopw [3] (fun y wx=>∃ i:Nat,y=.int .i64 i∧i<=m∧Hid (∀ j,j<i->okR (rat L j)=true)∧Hid (Below w.heap.size w wx)) (fun y _=>(m - intOf y).toNat)
   case atStart=>exact⟨0,rfl,by omega,hidIt (fun j hj=>by omega),hidIt (Below.refl _ _)⟩
   case round =>
    obtain⟨i,rfl,hi,HO,HB⟩:=hrel
    by_cases hin:i<m
    ·
     have hin':(i:Int)<(m:Int):=by omega
     have hiL:i<L.length:=by rw[HN.out];exact hin
     obtain⟨b,off,p,q,ea,c0,c1,rE,rM⟩:=(HR.out.kept HB.out).one (i:=i) hiL
     subst ea
     have hlb:=HLB.out i hin
     have hsi:=HS.out i hiL
     obtain⟨p0,p1,p2⟩:=p
     obtain⟨q0,q1,q2⟩:=q
     obtain⟨e1,r1,_,_,_⟩:=rE
     obtain⟨e2,r2,_,_,_⟩:=rM
     simp only at e1 r1 e2 r2
     simp only[sv] at c0 c1
     have C1:=hidIt (fun W (k:En.Rd W p0 (rat L i).1)=>En.spec_BookOk p0 p2 (rat L i).1 W k hlb.1 hsi)
     have C2:=hidIt (fun W (k:Mm.Rd W q0 (rat L i).2)=>Mm.spec_MembersOk q0 q2 (rat L i).2 W k hlb.2)
     rw[<- e1] at C1
     rw[<- e2] at C2
     have HOK:Hid (okR (rat L i)=(Bk.okBk (En.toB (rat L i).1)&&Mk.okBk (Mm.toB (rat L i).2))):=hidIt rfl
     have H1:=hidIt r1
     have H2:=hidIt r2
     clear r1 r2 e1 e2 hlb hsi
     generalize Bk.okBk (En.toB (rat L i).1)=k1 at C1 HOK
     generalize Mk.okBk (Mm.toB (rat L i).2)=k2 at C2 HOK
     cases k1 with
     | false =>
      have er:=N3.out i hin HOK.out
      subst er
      go_wp2_with (fail)
      refine (C1.out _ H1.out).mono ?_
      rintro e w1 ⟨rfl,k⟩
      have HB1:=hidIt (on HB.out k)
      clear k
      go_wp2_with (fail)
      go_ret
      exact⟨rfl,HB1.out⟩
     | true =>
      go_wp2_with (fail)
      refine (C1.out _ H1.out).mono ?_
      rintro e w1 ⟨rfl,k⟩
      have HB1:=hidIt (on HB.out k)
      have c1':w1.cell? ⟨b,off+i*2+1,none⟩=some (.slice q0 q1 q2):=by rw[k.cell (by simpa using World.block_lt_of_cell? _ _ c1)];exact c1
      have H3:=hidIt (H2.out.kept k)
      clear k c0 c1
      go_wp2_with (fail)
      refine (C2.out _ H3.out).mono ?_
      rintro e w2 ⟨rfl,k⟩
      have HB2:=hidIt (on HB1.out k)
      clear k
      cases k2 with
      | false =>
       have er:=N3.out i hin HOK.out
       subst er
       go_wp2_with (fail)
       go_ret
       exact⟨rfl,HB2.out⟩
      | true =>
       go_wp2_with (fail)
       refine⟨⟨i+1,by simp,by omega,hidIt (fun j hj=>?_),HB2⟩,by simp[intOf];omega⟩
       rcases Nat.lt_succ_iff_lt_or_eq.1 hj with q | q
       ·
        exact HO.out j q
       ·
        subst q;exact HOK.out
    ·
     have hin':¬ (i:Int)<(m:Int):=by omega
     obtain rfl:i=m:=by omega
     have er:=N4.out h1 h6 HO.out
     have HT:=hidIt (HTM.out h6 HO.out)
     go_wp2_with (fail)
     refine (CW.out _ (HR.out.kept HB.out) HT.out).mono ?_
     intro e w1 hz
     obtain⟨J,hz2,e1,e2⟩:=hz.out
     obtain⟨⟨s0,s1,s2⟩,⟨t0,t1,t2⟩,rfl,oE,oM,k⟩:=hz2.out
     have HB1:=hidIt (on HB.out k)
     have hlen:s1=(Bk.whole (bks L)).length:=by
      have:=(rdE_of oE).len
      simp only at this
      rw[this,<- e1,List.length_map]
     rw[<- hlen] at er
     clear hz hz2 oE oM k e1 e2 hlen
     subst er
     have hd:decide ((s1:Int)<=80)=decide (s1<=80):=decide_eq_decide.2 (by omega)
     simp only[sv]
     go_wp2_with (fail)
     go_ret
     first | exact⟨rfl,HB1.out⟩ | exact⟨by rw[hd],HB1.out⟩
  ·
   have g1':decide ((m:Int)<1)=false:=decide_eq_false (by omega)
   have g2:decide ((6:Int)<(m:Int))=true:=decide_eq_true (by omega)
   have er:=N2.out h6
   subst er
   go_enter Tryz.func12,Tryz.ntmps12
   go_wp2
   go_ret
   exact⟨rfl,Below.refl _ _⟩
 ·
  have g1':decide ((m:Int)<1)=true:=decide_eq_true (by omega)
  have er:=N1.out h1
  subst er
  go_enter Tryz.func12,Tryz.ntmps12
  go_wp2
  go_ret
  exact⟨rfl,Below.refl _ _⟩
end Go.Proofs.YtkeapmmochpcfaaGreat.Rp
