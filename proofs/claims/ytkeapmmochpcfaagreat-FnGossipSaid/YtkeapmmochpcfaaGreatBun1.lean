/- Joined, Written, ValueOf and Alive of the specification. -/
import Derived.Test.YtkeapmmochpcfaaGreatBokJ
import Derived.Test.YtkeapmmochpcfaaGreatNameR
import Derived.Test.YtkeapmmochpcfaaGreatBoxM
import Derived.Test.YtkeapmmochpcfaaGreatEntM
import Derived.Test.YtkeapmmochpcfaaGreatQuiet
import Derived.Handy
set_option maxRecDepth 100000
set_option maxHeartbeats 32000000
set_option linter.unusedVariables false
namespace Go.Proofs.YtkeapmmochpcfaaGreat.En
open Go.ChangeShapes Go.WideShapes Go.ChangeAt Go.RowKit
open Rc (BelowBy BelowBy.one wp_region_below calls_below calls_same)
open Bk (Bytes okE newB okBk look Ris IsJoin joinB)
attribute [local go_sem] str_gtr str_leq
abbrev shortR (L:List Rw):Prop:=∀ i,i<L.length->(rat L i).1.size<=9223372036854775807∧(rat L i).2.1.size<=9223372036854775807
end Go.Proofs.YtkeapmmochpcfaaGreat.En
namespace Go.Proofs.YtkeapmmochpcfaaGreat.Bk
end Go.Proofs.YtkeapmmochpcfaaGreat.Bk
namespace Go.Proofs.YtkeapmmochpcfaaGreat.En
open Go.ChangeShapes Go.WideShapes Go.ChangeAt Go.RowKit
open Bk (Bytes okE newB okBk Ris IsJoin joinB)
end Go.Proofs.YtkeapmmochpcfaaGreat.En
namespace Go.Proofs.YtkeapmmochpcfaaGreat.En
open Go.ChangeShapes Go.WideShapes Go.ChangeAt Go.RowKit
open Rc (BelowBy BelowBy.one wp_region_below calls_below calls_same)
open Bk (Bytes okE newB okBk Ris IsJoin joinB)
theorem str_geq (t:TypeId) (a b:ByteArray):binOp .geq t (.string a) (.string b)=pure (.bool (!Op.bytesLess a.toList b.toList)):=by simp[binOp,Op.stringOp]
attribute [local go_sem] str_gtr str_leq str_geq
theorem impl_Newer (x y:Rw) (w:World):Calls Tryz.prog 137 #[rv x,rv y] w fun e w'=>e=.returned (.bool (newB (toE x) (toE y)))∧Below w.heap.size w w':=by
 obtain⟨k,v,t,n,g⟩:=x
 obtain⟨k',v',t',n',g'⟩:=y
 by_cases h1:t=t'
 ·
  by_cases h2:n=n'
  ·
   by_cases h3:g=g'
   ·
    have er:newB (toE (k,v,t,n,g)) (toE (k',v',t',n',g'))=Op.bytesLess v'.toList v.toList:=(Bk.newB_4 h1 h2 h3).trans (less_of v' v).symm
    rw[er]
    subst h1 h2 h3
    have e1:(t != t)=false:=by simp
    have e2:(n != n)=false:=by simp
    have e3:(g==g)=true:=by cases g<;>rfl
    clear er
    go_enter Tryz.func137,Tryz.ntmps137
    go_wp2
    go_ret
    exact⟨rfl,by go_grown⟩
   ·
    have er:newB (toE (k,v,t,n,g)) (toE (k',v',t',n',g'))=g:=Bk.newB_3 h1 h2 h3
    rw[er]
    subst h1 h2
    have e1:(t != t)=false:=by simp
    have e2:(n != n)=false:=by simp
    have e3:(g==g')=false:=by cases g<;>cases g'<;>simp_all
    clear h3 er
    go_enter Tryz.func137,Tryz.ntmps137
    go_wp2
    go_ret
    exact⟨rfl,by go_grown⟩
  ·
   have er:newB (toE (k,v,t,n,g)) (toE (k',v',t',n',g'))=decide (n'<n):=Bk.newB_2 h1 h2
   rw[er]
   subst h1
   have e1:(t != t)=false:=by simp
   have e2:(n != n')=true:=by simpa using h2
   clear h2 er
   go_enter Tryz.func137,Tryz.ntmps137
   go_wp2
   go_ret
   exact⟨rfl,by go_grown⟩
 ·
  have er:newB (toE (k,v,t,n,g)) (toE (k',v',t',n',g'))=decide (t'<t):=Bk.newB_1 h1
  rw[er]
  have e1:(t != t')=true:=by simpa using h1
  clear h1 er
  go_enter Tryz.func137,Tryz.ntmps137
  go_wp2
  go_ret
  exact⟨rfl,by go_grown⟩
def valOk (x:Rw):Bool:=if x.2.2.2.2=true then decide (x.2.1.size=0) else decide (x.2.1.size<=40)
theorem okE_prog (x:Rw):okE (toE x)=(inB (x.1.size:Int) 1 40&&(valOk x&&(inB x.2.2.1 0 1000000&&(decide (0<x.2.2.1)&&inB x.2.2.2.1 0 7)))):=by
 rw[okE_eq]
 obtain⟨a,b,c,d,e⟩:=x
 have h3:inB c 1 1000000=(inB c 0 1000000&&decide (0<c)):=by
  unfold inB
  rw[Bool.eq_iff_iff]
  simp only[Bool.and_eq_true,decide_eq_true_eq]
  omega
 have h2:(decide (b.size<=40)&&(!e||decide (b.size=0)))=valOk (a,b,c,d,e):=by
  unfold valOk
  cases e with
  | false=>simp
  | true=>by_cases h:b.size=0<;>simp[h]
 simp only[h3,<- h2,Bool.and_assoc]
theorem impl_entryKeyOk (s:ByteArray) (w:World) (hs:s.size<=9223372036854775807):Calls Tryz.prog 99 #[.string s] w fun e w'=>e=.returned (.bool (inB (s.size:Int) 1 40))∧w'=w:=by
 unfold inB
 have z1:(s.size:Int)<=9223372036854775807:=by omega
 by_cases h:(1:Int)<=(s.size:Int)
 ·
  have h':decide ((1:Int)<=(s.size:Int))=true:=decide_eq_true h
  rw[h',Bool.true_and]
  go_enter Tryz.func99,Tryz.ntmps99
  go_wp2
  go_ret
  exact⟨rfl,rfl⟩
 ·
  have h':decide ((1:Int)<=(s.size:Int))=false:=decide_eq_false h
  rw[h',Bool.false_and]
  go_enter Tryz.func99,Tryz.ntmps99
  go_wp2
  go_ret
  exact⟨rfl,rfl⟩
theorem impl_timeOk (n:Int) (w:World):Calls Tryz.prog 101 #[.int .i64 n] w fun e w'=>e=.returned (.bool (inB n 0 1000000))∧w'=w:=by
 unfold inB
 by_cases h:(0:Int)<=n
 ·
  have h':decide ((0:Int)<=n)=true:=decide_eq_true h
  rw[h',Bool.true_and]
  go_enter Tryz.func101,Tryz.ntmps101
  go_wp2
  go_ret
  exact⟨rfl,rfl⟩
 ·
  have h':decide ((0:Int)<=n)=false:=decide_eq_false h
  rw[h',Bool.false_and]
  go_enter Tryz.func101,Tryz.ntmps101
  go_wp2
  go_ret
  exact⟨rfl,rfl⟩
theorem impl_nodeOk (n:Int) (w:World):Calls Tryz.prog 102 #[.int .i64 n] w fun e w'=>e=.returned (.bool (inB n 0 7))∧w'=w:=by
 unfold inB
 by_cases h:(0:Int)<=n
 ·
  have h':decide ((0:Int)<=n)=true:=decide_eq_true h
  rw[h',Bool.true_and]
  go_enter Tryz.func102,Tryz.ntmps102
  go_wp2
  go_ret
  exact⟨rfl,rfl⟩
 ·
  have h':decide ((0:Int)<=n)=false:=decide_eq_false h
  rw[h',Bool.false_and]
  go_enter Tryz.func102,Tryz.ntmps102
  go_wp2
  go_ret
  exact⟨rfl,rfl⟩
theorem impl_entryValueOk (x:Rw) (w:World) (hu:x.2.1.size<=9223372036854775807):Calls Tryz.prog 100 #[rv x] w fun e w'=>e=.returned (.bool (valOk x))∧Below w.heap.size w w':=by
 obtain⟨a,b,c,d,e⟩:=x
 simp only at hu ⊢
 unfold valOk
 simp only
 cases e with
 | true =>
  rw[if_pos rfl]
  by_cases h:b.size=0
  ·
   obtain rfl:b=ByteArray.empty:=by
    apply bs_inj
    have:=bs_length b
    rw[h] at this
    rw[List.length_eq_zero_iff.1 this]
    rfl
   rw[decide_eq_true h]
   clear h hu
   go_enter Tryz.func100,Tryz.ntmps100
   go_wp2
   go_ret
   exact⟨rfl,by go_grown⟩
  ·
   have hbl:(b.toList==[])=false:=by
    have:=bs_length b
    rw[Go.Lib.toList_data]
    cases hb':b.data.toList with
    | nil=>simp[bs,hb'] at this;omega
    | cons x r=>rfl
   rw[decide_eq_false h]
   clear h
   go_enter Tryz.func100,Tryz.ntmps100
   go_wp2
   go_ret
   exact⟨rfl,by go_grown⟩
 | false =>
  rw[if_neg (by decide)]
  have h1:decide (b.size<=40)=decide ((b.size:Int)<=40):=decide_eq_decide.2 (by omega)
  have z2:(b.size:Int)<=9223372036854775807:=by omega
  rw[h1]
  clear h1
  go_enter Tryz.func100,Tryz.ntmps100
  go_wp2
  go_ret
  exact⟨rfl,by go_grown⟩
theorem impl_EntryOk (x:Rw) (w:World) (hs:x.1.size<=9223372036854775807) (hu:x.2.1.size<=9223372036854775807):Calls Tryz.prog 64 #[rv x] w fun e w'=>e=.returned (.bool (okE (toE x)))∧Below w.heap.size w w':=by
 rw[okE_prog]
 obtain⟨a,b,c,d,e⟩:=x
 have CK:=hidIt (fun W=>impl_entryKeyOk a W hs)
 have CV:=hidIt (fun W=>impl_entryValueOk (a,b,c,d,e) W hu)
 have CT:=hidIt (fun W=>impl_timeOk c W)
 have CN:=hidIt (fun W=>impl_nodeOk d W)
 simp only[rv] at CV hs hu ⊢
 generalize valOk (a,b,c,d,e)=k2 at CV ⊢
 generalize inB (a.size:Int) 1 40=k1 at CK ⊢
 generalize inB c 0 1000000=k3 at CT ⊢
 generalize inB d 0 7=k5 at CN ⊢
 cases k1 with
 | false =>
  go_enter Tryz.func64,Tryz.ntmps64
  go_wp2_with (fail)
  refine (CK.out _).mono ?_
  rintro e w1 ⟨rfl,rfl⟩
  go_wp2_with (fail)
  go_ret
  exact⟨rfl,by go_grown⟩
 | true =>
  cases k2 with
  | false =>
   go_enter Tryz.func64,Tryz.ntmps64
   go_wp2_with (fail)
   refine (CK.out _).mono ?_
   rintro e w1 ⟨rfl,rfl⟩
   go_wp2_with (fail)
   have BX:=hidIt (Bo.Box.new w #[.string a,.string b,.int .i64 c,.int .i64 d,.bool e] 60)
   have HB:=hidIt ((Below.refl w.heap.size w).alloc (Nat.le_refl _) (.cells #[.string a,.string b,.int .i64 c,.int .i64 d,.bool e] 60))
   refine (CV.out _).mono ?_
   rintro e w1 ⟨rfl,k1⟩
   have HB1:=hidIt (HB.out.trans (k1.mono HB.out.size))
   have e2:=(BX.out.kept k1).c 2 rfl
   have e3:=(BX.out.kept k1).c 3 rfl
   clear k1
   go_wp2_with (fail)
   go_ret
   exact⟨rfl,HB1.out⟩
  | true =>
   cases k3 with
   | false =>
    go_enter Tryz.func64,Tryz.ntmps64
    go_wp2_with (fail)
    refine (CK.out _).mono ?_
    rintro e w1 ⟨rfl,rfl⟩
    go_wp2_with (fail)
    have BX:=hidIt (Bo.Box.new w #[.string a,.string b,.int .i64 c,.int .i64 d,.bool e] 60)
    have HB:=hidIt ((Below.refl w.heap.size w).alloc (Nat.le_refl _) (.cells #[.string a,.string b,.int .i64 c,.int .i64 d,.bool e] 60))
    refine (CV.out _).mono ?_
    rintro e w1 ⟨rfl,k1⟩
    have HB1:=hidIt (HB.out.trans (k1.mono HB.out.size))
    have e2:=(BX.out.kept k1).c 2 rfl
    have e3:=(BX.out.kept k1).c 3 rfl
    clear k1
    go_wp2_with (fail)
    refine (CT.out _).mono ?_
    rintro e w2 ⟨rfl,rfl⟩
    go_wp2_with (fail)
    go_ret
    exact⟨rfl,HB1.out⟩
   | true =>
    by_cases hp:0<c
    ·
     rw[decide_eq_true hp]
     cases k5 with
     | false =>
      go_enter Tryz.func64,Tryz.ntmps64
      go_wp2_with (fail)
      refine (CK.out _).mono ?_
      rintro e w1 ⟨rfl,rfl⟩
      go_wp2_with (fail)
      have BX:=hidIt (Bo.Box.new w #[.string a,.string b,.int .i64 c,.int .i64 d,.bool e] 60)
      have HB:=hidIt ((Below.refl w.heap.size w).alloc (Nat.le_refl _) (.cells #[.string a,.string b,.int .i64 c,.int .i64 d,.bool e] 60))
      refine (CV.out _).mono ?_
      rintro e w1 ⟨rfl,k1⟩
      have HB1:=hidIt (HB.out.trans (k1.mono HB.out.size))
      have e2:=(BX.out.kept k1).c 2 rfl
      have e3:=(BX.out.kept k1).c 3 rfl
      clear k1
      go_wp2_with (fail)
      refine (CT.out _).mono ?_
      rintro e w2 ⟨rfl,rfl⟩
      go_wp2_with (fail)
      refine (CN.out _).mono ?_
      rintro e w3 ⟨rfl,rfl⟩
      go_wp2_with (fail)
      go_ret
      exact⟨rfl,HB1.out⟩
     | true =>
      go_enter Tryz.func64,Tryz.ntmps64
      go_wp2_with (fail)
      refine (CK.out _).mono ?_
      rintro e w1 ⟨rfl,rfl⟩
      go_wp2_with (fail)
      have BX:=hidIt (Bo.Box.new w #[.string a,.string b,.int .i64 c,.int .i64 d,.bool e] 60)
      have HB:=hidIt ((Below.refl w.heap.size w).alloc (Nat.le_refl _) (.cells #[.string a,.string b,.int .i64 c,.int .i64 d,.bool e] 60))
      refine (CV.out _).mono ?_
      rintro e w1 ⟨rfl,k1⟩
      have HB1:=hidIt (HB.out.trans (k1.mono HB.out.size))
      have e2:=(BX.out.kept k1).c 2 rfl
      have e3:=(BX.out.kept k1).c 3 rfl
      clear k1
      go_wp2_with (fail)
      refine (CT.out _).mono ?_
      rintro e w2 ⟨rfl,rfl⟩
      go_wp2_with (fail)
      refine (CN.out _).mono ?_
      rintro e w3 ⟨rfl,rfl⟩
      go_wp2_with (fail)
      go_ret
      exact⟨rfl,HB1.out⟩
    ·
     rw[decide_eq_false hp]
     go_enter Tryz.func64,Tryz.ntmps64
     go_wp2_with (fail)
     refine (CK.out _).mono ?_
     rintro e w1 ⟨rfl,rfl⟩
     go_wp2_with (fail)
     have BX:=hidIt (Bo.Box.new w #[.string a,.string b,.int .i64 c,.int .i64 d,.bool e] 60)
     have HB:=hidIt ((Below.refl w.heap.size w).alloc (Nat.le_refl _) (.cells #[.string a,.string b,.int .i64 c,.int .i64 d,.bool e] 60))
     refine (CV.out _).mono ?_
     rintro e w1 ⟨rfl,k1⟩
     have HB1:=hidIt (HB.out.trans (k1.mono HB.out.size))
     have e2:=(BX.out.kept k1).c 2 rfl
     have e3:=(BX.out.kept k1).c 3 rfl
     clear k1
     go_wp2_with (fail)
     refine (CT.out _).mono ?_
     rintro e w2 ⟨rfl,rfl⟩
     go_wp2_with (fail)
     go_ret
     exact⟨rfl,HB1.out⟩
theorem impl_BookOk (a:Option Addr) (cap:Nat) (L:List Rw) (w:World) (h:Rd w a L) (hl:L.length<=9223372036854775807) (hs:∀ i,i<L.length->(rat L i).1.size<=9223372036854775807∧(rat L i).2.1.size<=9223372036854775807) :
  Calls Tryz.prog 38 #[.slice a L.length cap] w fun e w'=>e=.returned (.bool (okBk (toB L)))∧Below w.heap.size w w':=by
 have N1:Hid (¬ L.length<=80->okBk (toB L)=false):=hidIt book_no1
 have N2:Hid (∀ i,i<L.length->okE (toE (rat L i))=false->okBk (toB L)=false):=hidIt (fun i hi h=>book_no2 hi h)
 have N3:Hid (∀ i,i+1<L.length->¬ kat L i<kat L (i+1)->okBk (toB L)=false):=hidIt (fun i hi h=>book_no3 hi h)
 have N4:Hid (L.length<=80->(∀ i,i<L.length->okE (toE (rat L i))=true)->(∀ i,i+1<L.length->kat L i<kat L (i+1))->okBk (toB L)=true):=hidIt book_yes
 generalize okBk (toB L)=r at N1 N2 N3 N4 ⊢
 have HR:=hidIt h
 have HS:=hidIt hs
 clear h hs
 generalize hn:L.length=m at *
 have HN:=hidIt hn
 clear hn
 by_cases h80:m<=80
 ·
  have h80':¬ (80:Int)<(m:Int):=by omega
  go_enter Tryz.func38,Tryz.ntmps38
  go_wp2_with (fail)
  go_loopw [10] (fun y wx=>∃ i:Nat,y=.int .i64 i∧i<=m∧Hid (∀ j,j<i->okE (toE (rat L j))=true)∧Hid (∀ j,j+1<i->kat L j<kat L (j+1))∧Hid (Below w.heap.size w wx)) (fun y _=>(m - intOf y).toNat)
  case atStart=>exact⟨0,rfl,by omega,hidIt (fun j hj=>by omega),hidIt (fun j hj=>by omega),hidIt (Below.refl _ _)⟩
  case round =>
   obtain⟨i,rfl,hi,HO,HK,HB⟩:=hrel
   by_cases hin:i<m
   ·
    have hin':(i:Int)<(m:Int):=by omega
    have HRx:=hidIt (HR.out.kept HB.out)
    obtain⟨b,off,ea,c0,c1,c2,c3,c4⟩:=HRx.out.all (i:=i) (by rw[HN.out];exact hin)
    subst ea
    have CE:=hidIt (fun W=>impl_EntryOk (rat L i) W (HS.out i hin).1 (HS.out i hin).2)
    obtain⟨ok,hok⟩:∃ ok,okE (toE (rat L i))=ok:=⟨_,rfl⟩
    rw[hok] at CE
    have hkey:Hid (kat L i=bs (rat L i).1):=hidIt rfl
    have HOK:=hidIt hok
    clear hok
    generalize rat L i=x at c0 c1 c2 c3 c4 CE hkey
    obtain⟨xk,xv,xt,xn,xg⟩:=x
    simp only[rv] at CE c0 c1 c2 c3 c4
    have BX:=hidIt (Bo.Box.new wr #[.string xk,.string xv,.int .i64 xt,.int .i64 xn,.bool xg] 60)
    have HBz:=hidIt (HB.out.alloc HB.out.size (.cells #[.string xk,.string xv,.int .i64 xt,.int .i64 xn,.bool xg] 60))
    have HRz:=hidIt (HRx.out.alloc (.cells #[.string xk,.string xv,.int .i64 xt,.int .i64 xn,.bool xg] 60))
    cases ok with
    | false =>
     have er:=N2.out i hin HOK.out
     subst er
     go_wp2_with (fail)
     generalize wr.alloc (.cells #[.string xk,.string xv,.int .i64 xt,.int .i64 xn,.bool xg] 60)=wz at BX HBz HRz ⊢
     haveI:=BelowBy.one wz
     have g0:=fun p:BelowBy wz=>p.cell (BX.out.c 0 rfl)
     have g1:=fun p:BelowBy wz=>p.cell (BX.out.c 1 rfl)
     have g2:=fun p:BelowBy wz=>p.cell (BX.out.c 2 rfl)
     have g3:=fun p:BelowBy wz=>p.cell (BX.out.c 3 rfl)
     have g4:=fun p:BelowBy wz=>p.cell (BX.out.c 4 rfl)
     refine wp_region_below (by kernel_rfl) (by kernel_rfl) ?_
     repeat (go_big_quiet_step (first | (go_at_call 64;refine calls_below (CE.out _))))
     refine wpQuiet_nil ?_
     intro _ hw'
     obtain⟨pq,rfl⟩:=hw'
     have HB1:=hidIt (HBz.out.trans (pq.h.mono HBz.out.size))
     generalize pq.world=w2 at HB1 ⊢
     clear g0 g1 g2 g3 g4
     go_wp2_with (fail)
     go_ret
     exact⟨rfl,HB1.out⟩
    | true =>
     have HO':Hid (∀ j,j<i+1->okE (toE (rat L j))=true):=hidIt (fun j hj=>by
      rcases Nat.lt_succ_iff_lt_or_eq.1 hj with h | h
      ·
       exact HO.out j h
      ·
       subst h;exact HOK.out)
     rcases Nat.eq_zero_or_pos i with hz | hp
     ·
      subst hz
      simp only[Nat.zero_mul,Nat.add_zero] at c0 c1 c2 c3 c4
      go_wp2_with (fail)
      generalize wr.alloc (.cells #[.string xk,.string xv,.int .i64 xt,.int .i64 xn,.bool xg] 60)=wz at BX HBz HRz ⊢
      haveI:=BelowBy.one wz
      have g0:=fun p:BelowBy wz=>p.cell (BX.out.c 0 rfl)
      have g1:=fun p:BelowBy wz=>p.cell (BX.out.c 1 rfl)
      have g2:=fun p:BelowBy wz=>p.cell (BX.out.c 2 rfl)
      have g3:=fun p:BelowBy wz=>p.cell (BX.out.c 3 rfl)
      have g4:=fun p:BelowBy wz=>p.cell (BX.out.c 4 rfl)
      refine wp_region_below (by kernel_rfl) (by kernel_rfl) ?_
      repeat (go_big_quiet_step (first | (go_at_call 64;refine calls_below (CE.out _))))
      refine wpQuiet_nil ?_
      intro _ hw'
      obtain⟨pq,rfl⟩:=hw'
      have HB1:=hidIt (HBz.out.trans (pq.h.mono HBz.out.size))
      generalize pq.world=w2 at HB1 ⊢
      clear g0 g1 g2 g3 g4
      go_wp2_with (fail)
      exact⟨⟨1,by simp,by omega,HO',hidIt (fun j hj=>by omega),HB1⟩,by simp[intOf];omega⟩
     ·
      obtain⟨j,rfl⟩:∃ j,i=j+1:=⟨i - 1,by omega⟩
      obtain⟨b',off',ea,p0,_⟩:=HRx.out.all (i:=j) (by rw[HN.out];omega)
      cases ea
      have hkj:Hid (kat L j=bs (rat L j).1):=hidIt rfl
      obtain⟨pk,epk⟩:∃ pk,(rat L j).1=pk:=⟨_,rfl⟩
      rw[epk] at p0 hkj
      have EPK:=hidIt epk
      clear epk
      have hless:=less_of pk xk
      have hpos:(0:Int)<((j:Int)+1):=by omega
      by_cases hlt:bs pk<bs xk
      ·
       rw[decide_eq_true hlt] at hless
       have HK':Hid (∀ q,q+1<j+1+1->kat L q<kat L (q+1)):=hidIt (fun q hq=>by
        rcases Nat.lt_succ_iff_lt_or_eq.1 (show q+1<j+1+1 from hq) with h | h
        ·
         exact HK.out q h
        ·
         have:q=j:=by omega
         subst this
         rw[hkj.out,hkey.out]
         exact hlt)
       clear hlt
       go_wp2_with (fail)
       generalize wr.alloc (.cells #[.string xk,.string xv,.int .i64 xt,.int .i64 xn,.bool xg] 60)=wz at BX HBz HRz ⊢
       haveI:=BelowBy.one wz
       have g0:=fun p:BelowBy wz=>p.cell (BX.out.c 0 rfl)
       have g1:=fun p:BelowBy wz=>p.cell (BX.out.c 1 rfl)
       have g2:=fun p:BelowBy wz=>p.cell (BX.out.c 2 rfl)
       have g3:=fun p:BelowBy wz=>p.cell (BX.out.c 3 rfl)
       have g4:=fun p:BelowBy wz=>p.cell (BX.out.c 4 rfl)
       obtain⟨b'',off'',ea2,q0,_⟩:=HRz.out.all (i:=j) (by rw[HN.out];omega)
       cases ea2
       rw[EPK.out] at q0
       have k0:=fun p:BelowBy wz=>p.cell q0
       clear q0
       refine wp_region_below (by kernel_rfl) (by kernel_rfl) ?_
       repeat (go_big_quiet_step (first | (go_at_call 64;refine calls_below (CE.out _))))
       refine wpQuiet_nil ?_
       intro _ hw'
       obtain⟨pq,rfl⟩:=hw'
       have HB1:=hidIt (HBz.out.trans (pq.h.mono HBz.out.size))
       generalize pq.world=w2 at HB1 ⊢
       clear g0 g1 g2 g3 g4 k0
       go_wp2_with (fail)
       exact⟨⟨j+1+1,by simp,by omega,HO',HK',HB1⟩,by simp[intOf];omega⟩
      ·
       have er:=N3.out j (by omega) (by rw[hkj.out,hkey.out];exact hlt)
       rw[decide_eq_false hlt] at hless
       subst er
       clear hlt
       go_wp2_with (fail)
       generalize wr.alloc (.cells #[.string xk,.string xv,.int .i64 xt,.int .i64 xn,.bool xg] 60)=wz at BX HBz HRz ⊢
       haveI:=BelowBy.one wz
       have g0:=fun p:BelowBy wz=>p.cell (BX.out.c 0 rfl)
       have g1:=fun p:BelowBy wz=>p.cell (BX.out.c 1 rfl)
       have g2:=fun p:BelowBy wz=>p.cell (BX.out.c 2 rfl)
       have g3:=fun p:BelowBy wz=>p.cell (BX.out.c 3 rfl)
       have g4:=fun p:BelowBy wz=>p.cell (BX.out.c 4 rfl)
       obtain⟨b'',off'',ea2,q0,_⟩:=HRz.out.all (i:=j) (by rw[HN.out];omega)
       cases ea2
       rw[EPK.out] at q0
       have k0:=fun p:BelowBy wz=>p.cell q0
       clear q0
       refine wp_region_below (by kernel_rfl) (by kernel_rfl) ?_
       repeat (go_big_quiet_step (first | (go_at_call 64;refine calls_below (CE.out _))))
       refine wpQuiet_nil ?_
       intro _ hw'
       obtain⟨pq,rfl⟩:=hw'
       have HB1:=hidIt (HBz.out.trans (pq.h.mono HBz.out.size))
       generalize pq.world=w2 at HB1 ⊢
       clear g0 g1 g2 g3 g4 k0
       go_wp2_with (fail)
       go_ret
       exact⟨rfl,HB1.out⟩
   ·
    have hin':¬ (i:Int)<(m:Int):=by omega
    have HI:Hid (i=m):=hidIt (by omega)
    have er:=N4.out h80 (fun j hj=>HO.out j (by have:=HI.out;omega)) (fun j hj=>HK.out j (by have:=HI.out;omega))
    subst er
    go_wp2_with (fail)
    go_ret
    exact⟨rfl,HB.out⟩
 ·
  have h80':(80:Int)<(m:Int):=by omega
  have er:=N1.out h80
  subst er
  go_enter Tryz.func38,Tryz.ntmps38
  go_wp2
  go_ret
  exact⟨rfl,Below.refl _ _⟩
end Go.Proofs.YtkeapmmochpcfaaGreat.En
namespace Go.Proofs.YtkeapmmochpcfaaGreat.En
open Go.ChangeShapes Go.WideShapes Go.ChangeAt Go.RowKit
open Rc (BelowBy BelowBy.one wp_region_below calls_below calls_same)
end Go.Proofs.YtkeapmmochpcfaaGreat.En
