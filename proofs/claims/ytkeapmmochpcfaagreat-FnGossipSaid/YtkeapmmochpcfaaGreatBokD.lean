/- What the laws of chapter 11 ask besides: two books that read alike; a text among texts; what the drawing functions answer, whatever the bytes. -/
import Derived.Test.YtkeapmmochpcfaaGreatBokS
import Derived.Test.YtkeapmmochpcfaaGreatNameR
import Derived.Test.YtkeapmmochpcfaaGreatDraw
import Derived.Laws.StructEq
import Derived.Deep.QuietTactic
import Derived.BigQuiet
import Derived.WideLaws
set_option maxRecDepth 100000
set_option maxHeartbeats 32000000
set_option linter.unusedVariables false
namespace Go.Proofs.YtkeapmmochpcfaaGreat.En
open Go.ChangeShapes Go.WideShapes Go.ChangeAt Go.RowKit
open Dr
theorem likeBook_same (a b:Option Addr) (ca cb:Nat) (L:List Rw) (w:World) (ha:Rd w a L) (hb:Rd w b L) (hl:L.length<=9223372036854775806) :
  Calls Tryz.prog 16 #[.slice a L.length ca,.slice b L.length cb] w fun e w'=>e=.returned (.bool true)∧Below w.heap.size w w':=by
 generalize hn:L.length=n at *
 have HA:=hidIt ha
 have HB:=hidIt hb
 have HN:=hidIt hn
 clear ha hb hn
 have hnn:((n:Int) != (n:Int))=false:=by simp
 go_enter Tryz.func16,Tryz.ntmps16
 go_wp2_with (fail)
 go_loopw [5] (fun y wx=>∃ i:Nat,y=.int .i64 i∧i<=n∧Hid (Below w.heap.size w wx)) (fun y _=>(n - intOf y).toNat)
 case atStart=>exact⟨0,rfl,by omega,hidIt (Below.refl _ _)⟩
 case round =>
  obtain⟨i,rfl,hi,KX⟩:=hrel
  have RA:=hidIt (HA.out.kept KX.out)
  have RB:=hidIt (HB.out.kept KX.out)
  have KX':=hidIt (fun x=>Go.Proofs.YtkeapmmochpcfaaGreat.Below.drewN KX.out x)
  by_cases hin:i<n
  ·
   have hin':(i:Int)<(n:Int):=by omega
   obtain⟨b1,o1,rfl,c0,c1,c2,c3,c4⟩:=RA.out.all (i:=i) (by rw[HN.out];omega)
   obtain⟨b2,o2,rfl,d0,d1,d2,d3,d4⟩:=RB.out.all (i:=i) (by rw[HN.out];omega)
   generalize rat L i=x at c0 c1 c2 c3 c4 d0 d1 d2 d3 d4
   obtain⟨x0,x1,x2,x3,x4⟩:=x
   simp only at c0 c1 c2 c3 c4 d0 d1 d2 d3 d4
   have e0:=eq_of x0 x0
   rw[decide_eq_true rfl] at e0
   have e1:=eq_of x1 x1
   rw[decide_eq_true rfl] at e1
   have e2:(x2==x2)=true:=by simp
   have e3:(x3==x3)=true:=by simp
   have e4:(x4==x4)=true:=by simp
   clear RA RB HA HB
   go_wp2_with (fail)
   go_quiet (fail)
   go_wp2_with (fail)
   exact⟨⟨i+1,by simp,by omega,hidIt (KX'.out _)⟩,by simp[intOf];omega⟩
  ·
   have hin':¬ (i:Int)<(n:Int):=by omega
   go_wp2_with (fail)
   go_ret
   exact⟨rfl,KX.out⟩
theorem l11DrawKey_any (B c:Nat) (a:Option Addr) (len cap:Nat) (w:World) (hC:Cur B w c a len cap) :
  Calls Tryz.prog 109 #[.pointer (some ⟨c,0,none⟩)] w fun e w'=>∃ t:ByteArray,e=.returned (.string t)∧t.size<=40∧Cur B w' c a len cap∧Only c w w':=by
 have hlt:=hC.lt
 have HC:=hidIt hC
 clear hC
 go_enter Tryz.func109,Tryz.ntmps109
 go_wp2_with (fail)
 refine (l1Below_any B c a len cap _ _ (by decide) (HC.out.kept ((Below.refl (c+1) _).alloc (by omega) _))).mono ?_
 rintro e w2 ⟨x,x0,x1,rfl,hC2,hO2⟩
 have z2:w.heap.size<w2.heap.size:=by have:=hO2.size;simp at this;omega
 have hcell:=fun o=>hO2.cell (p:=⟨w.heap.size,o,none⟩) (by simp) (by simp;omega)
 have C2:=hidIt hC2
 have O2:=hidIt (((Only.refl c w).alloc _).trans hO2)
 clear hC2 hO2
 have hx:x=0∨x=1∨x=2∨x=3∨x=4∨x=5∨x=6:=by omega
 clear x0 x1
 rcases hx with rfl | rfl | rfl | rfl | rfl | rfl | rfl
 all_goals
  go_wp2_with (fail)
  go_ret
  exact⟨_,rfl,by decide,C2.out,O2.out⟩
end Go.Proofs.YtkeapmmochpcfaaGreat.En
