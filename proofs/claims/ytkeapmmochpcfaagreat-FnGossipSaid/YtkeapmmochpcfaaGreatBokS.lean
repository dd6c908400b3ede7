/- EntryOk, Newer and BookOk of the specification. -/
import Derived.Test.YtkeapmmochpcfaaGreatBokP
import Derived.Test.YtkeapmmochpcfaaGreatEntM
import Derived.Test.YtkeapmmochpcfaaGreatQuiet
import Derived.Handy
import Derived.Deep.RegionHeld3
import Derived.Lib.Strings
set_option maxRecDepth 100000
set_option maxHeartbeats 32000000
set_option linter.unusedVariables false
namespace Go.Proofs.YtkeapmmochpcfaaGreat.En
open Go.ChangeShapes Go.WideShapes Go.ChangeAt Go.RowKit
open Rc (BelowBy BelowBy.one wp_region_below calls_below calls_same)
open Bk (Bytes okE newB okBk look Ris)
abbrev bs (s:ByteArray):Bytes:=s.data.toList
theorem bs_length (s:ByteArray):(bs s).length=s.size:=by cases s;simp[ByteArray.size]
theorem bs_inj {a b:ByteArray} (h:bs a=bs b):a=b:=by
 cases a
 cases b
 simp[bs] at h
 rw[h]
def toE (x:Rw):Bk.En:=⟨bs x.1,bs x.2.1,x.2.2.1,x.2.2.2.1,x.2.2.2.2⟩
theorem toE_inj {x y:Rw} (h:toE x=toE y):x=y:=by
 obtain⟨a,b,c,d,e⟩:=x
 obtain⟨a',b',c',d',e'⟩:=y
 simp only[toE,Bk.En.mk.injEq] at h
 obtain⟨h1,h2,rfl,rfl,rfl⟩:=h
 rw[bs_inj h1,bs_inj h2]
abbrev toB (L:List Rw):List Bk.En:=L.map toE
theorem toB_inj {L M:List Rw} (h:toB L=toB M):L=M:=by
 induction L generalizing M with
 | nil=>cases M with
  | nil=>rfl
  | cons y M=>cases h
 | cons x L ih=>cases M with
  | nil=>cases h
  | cons y M =>
   simp only[toB,List.map_cons,List.cons.injEq] at h
   rw[toE_inj h.1,ih h.2]
def inB (n lo hi:Int):Bool:=decide (lo<=n)&&decide (n<=hi)
theorem less_eq:∀ x y:Bytes,Op.bytesLess x y=decide (x<y)
 | [],[]=>by simp[Op.bytesLess]
 | _::_,[]=>by simp[Op.bytesLess]
 | [],_::_=>by simp[Op.bytesLess]
 | a::x,b::y=>by
  rw[Op.bytesLess,less_eq x y]
  by_cases h:a=b
  ·
   subst h;simp
  ·
   simp[List.cons_lt_cons_iff,h]
theorem less_of (a b:ByteArray):Op.bytesLess a.toList b.toList=decide (bs a<bs b):=by rw[less_eq,Go.Lib.toList_data,Go.Lib.toList_data]
theorem eq_of (a b:ByteArray):(a.toList==b.toList)=decide (bs a=bs b):=by rw[Go.Lib.toList_data,Go.Lib.toList_data,Bool.eq_iff_iff];simp
theorem okE_eq (x:Rw):okE (toE x)=(inB (x.1.size:Int) 1 40&&(decide (x.2.1.size<=40)&&((!x.2.2.2.2||decide (x.2.1.size=0))&&(inB x.2.2.1 1 1000000&&inB x.2.2.2.1 0 7)))):=by
 obtain⟨a,b,c,d,e⟩:=x
 have h1:decide (1<=(a.size:Int))=decide (1<=a.size):=decide_eq_decide.2 (by omega)
 have h2:decide ((a.size:Int)<=40)=decide (a.size<=40):=decide_eq_decide.2 (by omega)
 simp only[okE,toE,inB,bs_length,h1,h2,Bool.and_assoc]
 rfl
theorem gt_bytes (x y:Bytes):(!Op.bytesLess x y && !(x==y))=Op.bytesLess y x:=by
 rw[less_eq,less_eq]
 by_cases h:y<x
 ·
  rw[decide_eq_true h,decide_eq_false (fun k=>List.lt_irrefl _ (List.lt_trans h k))]
  have:x≠y:=fun e=>by subst e;exact List.lt_irrefl _ h
  simp[this]
 ·
  rw[decide_eq_false h]
  by_cases k:x<y
  ·
   simp[k]
  ·
   have:x=y:=Bk.lt_total k h
   subst this
   simp
theorem le_bytes (x y:Bytes):(Op.bytesLess x y||(x==y)) = !Op.bytesLess y x:=by
 rw[<- gt_bytes x y]
 cases Op.bytesLess x y<;>cases x==y<;>rfl
theorem str_gtr (t:TypeId) (a b:ByteArray):binOp .gtr t (.string a) (.string b)=pure (.bool (Op.bytesLess b.toList a.toList)):=by
 rw[<- gt_bytes]
 simp[binOp,Op.stringOp]
theorem str_leq (t:TypeId) (a b:ByteArray):binOp .leq t (.string a) (.string b)=pure (.bool (!Op.bytesLess b.toList a.toList)):=by
 rw[<- le_bytes]
 simp[binOp,Op.stringOp]
attribute [local go_sem] str_gtr str_leq
theorem spec_l1In (n lo hi:Int) (w:World):Calls Tryz.prog 60 #[.int .i64 n,.int .i64 lo,.int .i64 hi] w fun e w'=>e=.returned (.bool (inB n lo hi))∧w'=w:=by
 unfold inB
 by_cases h:lo<=n
 ·
  have h':decide (lo<=n)=true:=decide_eq_true h
  rw[h',Bool.true_and]
  go_enter Tryz.func60,Tryz.ntmps60
  go_wp2
  go_ret
  exact⟨rfl,rfl⟩
 ·
  have h':decide (lo<=n)=false:=decide_eq_false h
  rw[h',Bool.false_and]
  go_enter Tryz.func60,Tryz.ntmps60
  go_wp2
  go_ret
  exact⟨rfl,rfl⟩
theorem spec_EntryOk (x:Rw) (w:World) (hs:x.1.size<=9223372036854775807) (hu:x.2.1.size<=9223372036854775807):Calls Tryz.prog 59 #[rv x] w fun e w'=>e=.returned (.bool (okE (toE x)))∧Below w.heap.size w w':=by
 rw[okE_eq]
 obtain⟨a,b,c,d,e⟩:=x
 simp only at hs hu ⊢
 have CK:=hidIt (fun W=>spec_l1In (a.size:Int) 1 40 W)
 have CT:=hidIt (fun W=>spec_l1In c 1 1000000 W)
 have CN:=hidIt (fun W=>spec_l1In d 0 7 W)
 generalize inB (a.size:Int) 1 40=k1 at CK ⊢
 generalize inB c 1 1000000=k4 at CT ⊢
 generalize inB d 0 7=k5 at CN ⊢
 have z1 : -9223372036854775808<=(a.size:Int):=by omega
 have z2:(a.size:Int)<=9223372036854775807:=by omega
 cases k1 with
 | false =>
  go_enter Tryz.func59,Tryz.ntmps59
  go_wp2_with (fail)
  refine (CK.out _).mono ?_
  rintro e w1 ⟨rfl,rfl⟩
  go_wp2_with (fail)
  go_ret
  exact⟨rfl,by go_grown⟩
 | true =>
  by_cases hb:b.size<=40
  ·
   have hb':(b.size:Int)<=40:=by omega
   rw[decide_eq_true hb]
   by_cases he:e=false∨b.size=0
   ·
    have er:(!e||decide (b.size=0))=true:=by rcases he with h | h<;>simp[h]
    rw[er]
    simp only[Bool.true_and]
    rcases he with h | h
    ·
     subst h
     cases k4 with
     | false =>
      go_enter Tryz.func59,Tryz.ntmps59
      go_wp2_with (fail)
      refine (CK.out _).mono ?_
      rintro e w1 ⟨rfl,rfl⟩
      go_wp2_with (fail)
      refine (CT.out _).mono ?_
      rintro e w1 ⟨rfl,rfl⟩
      go_wp2_with (fail)
      go_ret
      exact⟨rfl,by go_grown⟩
     | true =>
      go_enter Tryz.func59,Tryz.ntmps59
      go_wp2_with (fail)
      refine (CK.out _).mono ?_
      rintro e w1 ⟨rfl,rfl⟩
      go_wp2_with (fail)
      refine (CT.out _).mono ?_
      rintro e w1 ⟨rfl,rfl⟩
      go_wp2_with (fail)
      refine (CN.out _).mono ?_
      rintro e w1 ⟨rfl,rfl⟩
      go_wp2_with (fail)
      go_ret
      exact⟨rfl,by go_grown⟩
    ·
     obtain rfl:b=ByteArray.empty:=by
      apply bs_inj
      have:=bs_length b
      rw[h] at this
      rw[List.length_eq_zero_iff.1 this]
      rfl
     clear h hb hb' hu
     cases e with
     | false =>
      cases k4 with
      | false =>
       go_enter Tryz.func59,Tryz.ntmps59
       go_wp2_with (fail)
       refine (CK.out _).mono ?_
       rintro e w1 ⟨rfl,rfl⟩
       go_wp2_with (fail)
       refine (CT.out _).mono ?_
       rintro e w1 ⟨rfl,rfl⟩
       go_wp2_with (fail)
       go_ret
       exact⟨rfl,by go_grown⟩
      | true =>
       go_enter Tryz.func59,Tryz.ntmps59
       go_wp2_with (fail)
       refine (CK.out _).mono ?_
       rintro e w1 ⟨rfl,rfl⟩
       go_wp2_with (fail)
       refine (CT.out _).mono ?_
       rintro e w1 ⟨rfl,rfl⟩
       go_wp2_with (fail)
       refine (CN.out _).mono ?_
       rintro e w1 ⟨rfl,rfl⟩
       go_wp2_with (fail)
       go_ret
       exact⟨rfl,by go_grown⟩
     | true =>
      cases k4 with
      | false =>
       go_enter Tryz.func59,Tryz.ntmps59
       go_wp2_with (fail)
       refine (CK.out _).mono ?_
       rintro e w1 ⟨rfl,rfl⟩
       go_wp2_with (fail)
       refine (CT.out _).mono ?_
       rintro e w1 ⟨rfl,rfl⟩
       go_wp2_with (fail)
       go_ret
       exact⟨rfl,by go_grown⟩
      | true =>
       go_enter Tryz.func59,Tryz.ntmps59
       go_wp2_with (fail)
       refine (CK.out _).mono ?_
       rintro e w1 ⟨rfl,rfl⟩
       go_wp2_with (fail)
       refine (CT.out _).mono ?_
       rintro e w1 ⟨rfl,rfl⟩
       go_wp2_with (fail)
       refine (CN.out _).mono ?_
       rintro e w1 ⟨rfl,rfl⟩
       go_wp2_with (fail)
       go_ret
       exact⟨rfl,by go_grown⟩
   ·
    have h1:e=true:=by cases e<;>simp_all
    have h2:¬ b.size=0:=fun h=>he (.inr h)
    subst h1
    have hbl:(b.toList==[])=false:=by
     have:=bs_length b
     rw[Go.Lib.toList_data]
     cases hb':b.data.toList with
     | nil=>simp[bs,hb'] at this;omega
     | cons x r=>rfl
    have er:(!true||decide (b.size=0))=false:=by simp[h2]
    rw[er]
    clear he er
    go_enter Tryz.func59,Tryz.ntmps59
    go_wp2_with (fail)
    refine (CK.out _).mono ?_
    rintro e w1 ⟨rfl,rfl⟩
    go_wp2_with (fail)
    go_ret
    exact⟨rfl,by go_grown⟩
  ·
   have hb':¬ (b.size:Int)<=40:=by omega
   rw[decide_eq_false hb]
   go_enter Tryz.func59,Tryz.ntmps59
   go_wp2_with (fail)
   refine (CK.out _).mono ?_
   rintro e w1 ⟨rfl,rfl⟩
   go_wp2_with (fail)
   go_ret
   exact⟨rfl,by go_grown⟩
theorem spec_Newer (x y:Rw) (w:World):Calls Tryz.prog 97 #[rv x,rv y] w fun e w'=>e=.returned (.bool (newB (toE x) (toE y)))∧Below w.heap.size w w':=by
 obtain⟨k,v,t,n,g⟩:=x
 obtain⟨k',v',t',n',g'⟩:=y
 by_cases h1:t=t'
 ·
  by_cases h2:n=n'
  ·
   by_cases h3:g=g'
   ·
    have er:newB (toE (k,v,t,n,g)) (toE (k',v',t',n',g'))=Op.bytesLess v'.toList v.toList:=(Bk.newB_4 h1 h2 h3).trans (less_of v' v).symm
    rw[er]
    subst h1 h2 h3
    have e1:(t != t)=false:=by simp
    have e2:(n != n)=false:=by simp
    have e3:(g==g)=true:=by cases g<;>rfl
    clear er
    go_enter Tryz.func97,Tryz.ntmps97
    go_wp2
    go_ret
    exact⟨rfl,by go_grown⟩
   ·
    have er:newB (toE (k,v,t,n,g)) (toE (k',v',t',n',g'))=g:=Bk.newB_3 h1 h2 h3
    rw[er]
    subst h1 h2
    have e1:(t != t)=false:=by simp
    have e2:(n != n)=false:=by simp
    have e3:(g==g')=false:=by cases g<;>cases g'<;>simp_all
    clear h3 er
    go_enter Tryz.func97,Tryz.ntmps97
    go_wp2
    go_ret
    exact⟨rfl,by go_grown⟩
  ·
   have er:newB (toE (k,v,t,n,g)) (toE (k',v',t',n',g'))=decide (n'<n):=Bk.newB_2 h1 h2
   rw[er]
   subst h1
   have e1:(t != t)=false:=by simp
   have e2:(n != n')=true:=by simpa using h2
   clear h2 er
   go_enter Tryz.func97,Tryz.ntmps97
   go_wp2
   go_ret
   exact⟨rfl,by go_grown⟩
 ·
  have er:newB (toE (k,v,t,n,g)) (toE (k',v',t',n',g'))=decide (t'<t):=Bk.newB_1 h1
  rw[er]
  have e1:(t != t')=true:=by simpa using h1
  clear h1 er
  go_enter Tryz.func97,Tryz.ntmps97
  go_wp2
  go_ret
  exact⟨rfl,by go_grown⟩
end Go.Proofs.YtkeapmmochpcfaaGreat.En
