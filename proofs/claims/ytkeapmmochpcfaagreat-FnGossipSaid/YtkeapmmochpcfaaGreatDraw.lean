/- What the drawing functions of the specification answer, whatever the bytes: l1Byte a number from 0 to 255, l1Below one below n, l1Draw some int64; they write into their own cursor alone. -/
import Derived.Test.YtkeapmmochpcfaaGreatRows
import Derived.WalkKit
import Derived.ProofKit
import Derived.Below
import Derived.Deep.QuietTactic
import Derived.BigQuiet
import Derived.Laws.BitsLemmas
import Derived.Test.YtkeapmmochpcfaaGreatMem
set_option maxRecDepth 100000
set_option maxHeartbeats 32000000
set_option linter.unusedVariables false
namespace Go.Proofs.YtkeapmmochpcfaaGreat.Dr
open Go.ChangeShapes Go.WideShapes Go.ChangeAt Go.RowKit

structure Code (B:Nat) (w:World) (a:Option Addr) (len:Nat):Prop where
 cell:∀ i,i<len->∃ b off x,a=some ⟨b,off,none⟩∧b<B∧w.cell? ⟨b,off+i,none⟩=some (.int .u8 x)∧0<=x∧x<=255
structure Cur (B:Nat) (w:World) (c:Nat) (a:Option Addr) (len cap:Nat):Prop where
 here:B<=c
 lt:c<w.heap.size
 code:Code B w a len
 short:len<=4096
 c0:w.cell? ⟨c,0,none⟩=some (.slice a len cap)
 c1:∃ i:Nat,i<=4096∧w.cell? ⟨c,1,none⟩=some (.int .i64 i)
 c2:∃ h:Int,w.cell? ⟨c,2,none⟩=some (.int .i64 h)
 f1:w.frozen? ⟨c,1,none⟩=false
 f2:w.frozen? ⟨c,2,none⟩=false
theorem Cur.kept {B:Nat} {w w':World} {c:Nat} {a:Option Addr} {len cap:Nat} (h:Cur B w c a len cap) (k:Below (c+1) w w'):Cur B w' c a len cap:=by
 obtain⟨here,lt,code,short,c0,⟨i,hi,c1⟩,⟨x,c2⟩,f1,f2⟩:=h
 refine⟨here,Nat.lt_of_lt_of_le lt k.size,⟨fun j hj=>?_⟩,short,?_,⟨i,hi,?_⟩,⟨x,?_⟩,?_,?_⟩
 ·
  obtain⟨b,off,y,ea,hb,hy,r⟩:=code.cell j hj
  exact⟨b,off,y,ea,hb,by rw[k.cell (by simp;omega)];exact hy,r⟩
 ·
  rw[k.cell (by simp)];exact c0
 ·
  rw[k.cell (by simp)];exact c1
 ·
  rw[k.cell (by simp)];exact c2
 ·
  rw[k.frozen (by simp)];exact f1
 ·
  rw[k.frozen (by simp)];exact f2
theorem Cur.put1 {B:Nat} {w:World} {c:Nat} {a:Option Addr} {len cap:Nat} (h:Cur B w c a len cap) (n:Nat) (hn:n<=4096):Cur B (w.setCell ⟨c,1,none⟩ (.int .i64 n)) c a len cap:=by
 obtain⟨here,lt,code,short,c0,⟨i,hi,c1⟩,⟨x,c2⟩,f1,f2⟩:=h
 refine⟨here,by simpa [World.setCell] using lt,⟨fun j hj=>?_⟩,short,?_,⟨n,hn,?_⟩,⟨x,?_⟩,?_,?_⟩
 ·
  obtain⟨b,off,y,ea,hb,hy,r⟩:=code.cell j hj
  exact⟨b,off,y,ea,hb,by rw[cell_set_far (by omega)];exact hy,r⟩
 ·
  rw[cell_set_other (by decide)];exact c0
 ·
  exact World.cell?_setCell_same' _ _ _ (by rw[c1];rfl)
 ·
  rw[cell_set_other (by decide)];exact c2
 ·
  simpa using f1
 ·
  simpa using f2
theorem Cur.put2 {B:Nat} {w:World} {c:Nat} {a:Option Addr} {len cap:Nat} (h:Cur B w c a len cap) (n:Int):Cur B (w.setCell ⟨c,2,none⟩ (.int .i64 n)) c a len cap:=by
 obtain⟨here,lt,code,short,c0,⟨i,hi,c1⟩,⟨x,c2⟩,f1,f2⟩:=h
 refine⟨here,by simpa [World.setCell] using lt,⟨fun j hj=>?_⟩,short,?_,⟨i,hi,?_⟩,⟨n,?_⟩,?_,?_⟩
 ·
  obtain⟨b,off,y,ea,hb,hy,r⟩:=code.cell j hj
  exact⟨b,off,y,ea,hb,by rw[cell_set_far (by omega)];exact hy,r⟩
 ·
  rw[cell_set_other (by decide)];exact c0
 ·
  rw[cell_set_other (by decide)];exact c1
 ·
  exact World.cell?_setCell_same' _ _ _ (by rw[c2];rfl)
 ·
  simpa using f1
 ·
  simpa using f2
theorem Cur.drewN {B:Nat} {w:World} {c:Nat} {a:Option Addr} {len cap:Nat} (h:Cur B w c a len cap) (n:Nat):Cur B (w.drewN n) c a len cap :=
 ⟨h.here,h.lt,⟨h.code.cell⟩,h.short,h.c0,h.c1,h.c2,h.f1,h.f2⟩
theorem l1Byte_any (B c:Nat) (a:Option Addr) (len cap:Nat) (w:World) (hC:Cur B w c a len cap) :
  Calls Tryz.prog 76 #[.pointer (some ⟨c,0,none⟩)] w fun e w'=>∃ x:Int,0<=x∧x<=255∧e=.returned (.int .i64 x)∧Cur B w' c a len cap∧Only c w w':=by
 have hC':=hC
 obtain⟨here,lt,code,short,c0,⟨i,hi,c1⟩,⟨h,c2⟩,f1,f2⟩:=hC
 by_cases hl:i<len
 ·
  obtain⟨b,off,x,rfl,hb,hx,x0,x1⟩:=code.cell i hl
  have hbc:¬ b=c:=by omega
  have hl':(i:Int)<(len:Int):=by omega
  have HC:Hid (Cur B w c (some ⟨b,off,none⟩) len cap):=hC'
  clear hC'
  go_enter Tryz.func76,Tryz.ntmps76
  go_wp2
  go_quiet (fail)
  go_wp2
  go_quiet (fail)
  go_wp2
  go_quiet (fail)
  go_wp2
  go_ret
  refine⟨_,(mask255 _).1,(mask255 _).2,rfl,?_,?_⟩
  ·
   exact ((HC.out.put2 _).drewN _).put1 (i+1) (by omega)
  ·
   exact (((Only.refl _ _).setCell _ _).drewN _).setCell _ _
 ·
  have hl':¬ (i:Int)<(len:Int):=by omega
  have HC:Hid (Cur B w c a len cap):=hC'
  clear hC'
  go_enter Tryz.func76,Tryz.ntmps76
  go_wp2
  go_quiet (fail)
  go_wp2
  go_quiet (fail)
  go_wp2
  go_ret
  refine⟨_,(mask255 _).1,(mask255 _).2,rfl,?_,?_⟩
  ·
   exact ((HC.out.put2 _).drewN _).drewN _
  ·
   exact (((Only.refl _ _).setCell _ _).drewN _).drewN _
theorem l1Below_any (B c:Nat) (a:Option Addr) (len cap:Nat) (n:Int) (w:World) (hn:0<n) (hC:Cur B w c a len cap) :
  Calls Tryz.prog 51 #[.pointer (some ⟨c,0,none⟩),.int .i64 n] w fun e w'=>∃ x:Int,0<=x∧x<n∧e=.returned (.int .i64 x)∧Cur B w' c a len cap∧Only c w w':=by
 have hn0:¬ n<=0:=by omega
 have hnz:¬ n=0:=by omega
 have HC:Hid (Cur B w c a len cap):=hC
 clear hC
 by_cases hs:n<=256
 ·
  go_enter Tryz.func51,Tryz.ntmps51
  go_wp2_with (go_at_call 76;refine (l1Byte_any B c a len cap _ HC.out).mono ?_;rintro e w1 ⟨x,x0,x1,rfl,hC1,hO1⟩)
  go_ret
  exact⟨x % n,Int.emod_nonneg _ hnz,Int.emod_lt_of_pos _ hn,rfl,hC1,hO1⟩
 ·
  go_enter Tryz.func51,Tryz.ntmps51
  go_wp2_with fail
  refine (l1Byte_any B c a len cap _ HC.out).mono ?_
  rintro e w1 ⟨x1,x10,x11,rfl,hC1,hO1⟩
  have HC1:Hid (Cur B w1 c a len cap):=hC1
  clear hC1
  go_wp2_with fail
  refine (l1Byte_any B c a len cap _ HC1.out).mono ?_
  rintro e w2 ⟨x2,x20,x21,rfl,hC2,hO2⟩
  have HC2:Hid (Cur B w2 c a len cap):=hC2
  clear hC2
  go_wp2_with fail
  refine (l1Byte_any B c a len cap _ HC2.out).mono ?_
  rintro e w3 ⟨x3,x30,x31,rfl,hC3,hO3⟩
  have HC3:Hid (Cur B w3 c a len cap):=hC3
  clear hC3
  go_wp2_with fail
  refine (l1Byte_any B c a len cap _ HC3.out).mono ?_
  rintro e w4 ⟨x4,x40,x41,rfl,hC4,hO4⟩
  have HC4:Hid (Cur B w4 c a len cap):=hC4
  clear hC4
  go_wp2
  go_ret
  exact⟨_,Int.emod_nonneg _ hnz,Int.emod_lt_of_pos _ hn,rfl,HC4.out,((hO1.trans hO2).trans hO3).trans hO4⟩
theorem l1Once_any (B c:Nat) (a:Option Addr) (len cap:Nat) (n:Int) (w:World) (hn:0<n) (hC:Cur B w c a len cap) :
  Calls Tryz.prog 47 #[.pointer (some ⟨c,0,none⟩),.int .i64 n] w fun e w'=>∃ x:Bool,e=.returned (.bool x)∧Cur B w' c a len cap∧Only c w w':=by
 have HC:Hid (Cur B w c a len cap):=hC
 clear hC
 go_enter Tryz.func47,Tryz.ntmps47
 go_wp2_with fail
 refine (l1Below_any B c a len cap _ _ hn HC.out).mono ?_
 rintro e w1 ⟨x,x0,x1,rfl,hC1,hO1⟩
 have HC1:Hid (Cur B w1 c a len cap):=hC1
 clear hC1
 go_wp2
 go_ret
 exact⟨_,rfl,HC1.out,hO1⟩
theorem Cur.new {B:Nat} {w:World} {a:Option Addr} {len cap:Nat} (hB:B<=w.heap.size) (hc:Code B w a len) (hl:len<=4096) (h:Int) (t:TypeId) :
  Cur B (w.alloc (.cells #[.slice a len cap,.int .i64 0,.int .i64 h] t)) w.heap.size a len cap:=by
 refine⟨hB,by simp,⟨fun j hj=>?_⟩,hl,by simp,⟨0,by decide,by simp⟩,⟨h,by simp⟩,by simp,by simp⟩
 obtain⟨b,off,y,ea,hb,hy,r⟩:=hc.cell j hj
 exact⟨b,off,y,ea,hb,by rw[((Below.refl B w).alloc hB _).cell (by simpa using hb)];exact hy,r⟩
theorem l1New_any (B:Nat) (a:Option Addr) (len cap:Nat) (w:World) (hB:B<=w.heap.size) (hc:Code B w a len) (hl:len<=4096) :
  Calls Tryz.prog 25 #[.slice a len cap] w fun e w'=>∃ c,e=.returned (.pointer (some ⟨c,0,none⟩))∧Cur B w' c a len cap∧Below w.heap.size w w':=by
 have HC:Hid (Code B w a len):=hc
 clear hc
 go_enter Tryz.func25,Tryz.ntmps25
 go_wp2
 go_loop [3,4] (fun h i=>∃ (k:Nat) (x:Int),k<=len∧i=.int .i64 k∧h=.int .i64 x) (fun _ i=>len - (intOf i).toNat)
 case atStart=>exact⟨0,_,Nat.zero_le _,rfl,rfl⟩
 case round =>
  obtain⟨k,x,hk,rfl,rfl⟩:=hrel
  by_cases hlt:k<len
  ·
   obtain⟨b,off,y,rfl,hb,hy,y0,y1⟩:=HC.out.cell k hlt
   have hlt':(k:Int)<(len:Int):=by omega
   go_wp2
   go_round
   case rel=>exact⟨k+1,_,by omega,by go_num,rfl⟩
   case measure=>simp[intOf];omega
  ·
   go_wp2
   go_ret
   exact⟨_,rfl,Cur.new hB HC.out hl _ _,(Below.refl _ _).alloc (Nat.le_refl _) _⟩
end Go.Proofs.YtkeapmmochpcfaaGreat.Dr
