/- The laws' own helpers on lists of texts: eqStringS, markText, markStringS, heldStringS. -/
import Derived.Test.YtpkkmhpobfjclaaGreatNameR
import Derived.Test.YtpkkmhpobfjclaaGreatNameJ
import Derived.Deep.RegionHeld3
import Derived.Deep.QuietTactic
import Derived.BigQuiet
import Derived.Laws.BytesArg
import Derived.Laws.IdiomStrings
import Derived.WalkLawsBesides
set_option maxRecDepth 100000
set_option maxHeartbeats 32000000
set_option linter.unusedVariables false
namespace Go.Proofs.YtpkkmhpobfjclaaGreat.Nm
open Go.ChangeShapes Go.WideShapes Go.ChangeAt Go.RowKit
def digs : Nat → Nat → Bytes → Bytes
 | 0,_,l=>l
 | f + 1,k,l=>if k = 0 then l else digs f (k / 10) (UInt8.ofNat (48 + k % 10) :: l)
theorem digs_zero (f : Nat) (l : Bytes) : digs f 0 l = l:=by cases f <;> rfl
theorem digs_step {f k : Nat} (hk : 0 < k) (hf : k ≤ f) (l : Bytes) : ∃ g,k / 10 ≤ g ∧ digs f k l = digs g (k / 10) (UInt8.ofNat (48 + k % 10) :: l):=by
 cases f with
 | zero=>omega
 | succ g=>exact ⟨g,by omega,by show (if k = 0 then l else _) = _; rw [if_neg (by omega)]⟩
def mt (k : Nat) : ByteArray:=⟨#[109]⟩ ++ B (digs k k [])
theorem cv1 (x : Nat) (hx : x < 256) (wr : World) : (convert 116 9 (.slice (some ⟨wr.heap.size,0,none⟩) 1 1)).run Tryz.prog (wr.alloc (.cells #[.int .u8 x] 5)) = .ok (.string ⟨#[UInt8.ofNat x]⟩) (wr.alloc (.cells #[.int .u8 x] 5)):=by
 refine run_convert_bytes_back _ _ _ 5 ⟨wr.heap.size,0,none⟩ 1 [UInt8.ofNat x] Tryz.underlying116 Tryz.underlying5 Tryz.underlying9 (fun j hj=>?_)
 have hj0 : j = 0:=by simp at hj; omega
 subst hj0
 have e : (UInt8.ofNat x).toNat = x:=by simp; omega
 simp [Addr.add,Nat.mod_eq_of_lt hx]
theorem markText_any (n : Nat) (w : World) (h1 : 1 ≤ n) (hn : n ≤ 1099511627776) :
  Calls Tryz.prog 43 #[.int .i64 n] w fun e w'=>e = .returned (.string (mt n)) ∧ Below w.heap.size w w':=by
 have h0 : ¬ (n : Int) ≤ 0:=by omega
 have em : Hid (mt n = ⟨#[109]⟩ ++ B (digs n n [])):=rfl
 generalize mt n = res at em ⊢
 go_enter Tryz.func43,Tryz.ntmps43
 go_wp2_with (fail)
 go_loopw [0,3] (fun y z wx=>∃ (m : Nat) (s : ByteArray),y = .int .i64 m ∧ z = .string s ∧ m ≤ 1099511627776 ∧ s.size + m ≤ n + 1 ∧ Hid (∃ f,m ≤ f ∧ digs n n [] = digs f m (bs s)) ∧ Below w.heap.size w wx) (fun y _ _=>(intOf y).toNat)
 case atStart=>exact ⟨n,_,rfl,rfl,hn,by simp [ByteArray.size],hidIt ⟨n,Nat.le_refl _,rfl⟩,Below.refl _ _⟩
 case round =>
  obtain ⟨m,s,rfl,rfl,hm,hsm,HL,hB⟩:=hrel
  have HB:=hidIt hB
  clear hB
  by_cases hg : 0 < m
  ·
   have l0 : (0 : Int) < m:=by omega
   have l2 : (m : Int) ≤ 1099511627776:=by omega
   have l3 : ¬ (m : Int) % 10 < 0:=by omega
   have hq1 : (⟨#[48 + UInt8.ofNat (m % 10)]⟩ : ByteArray).size = 1:=rfl
   have hq2 : ¬ 9223372036854775807 < 1 + s.size:=by omega
   have hq3 : Hid (1 + s.size + m / 10 ≤ n + 1):=hidIt (by omega)
   have hcv:=cv1 (48 + m % 10) (by omega) wr
   have ec : ((48 + m % 10 : Nat) : Int) = 48 + (m : Int) % 10:=by omega
   rw [ec] at hcv
   clear ec
   have hstep : Hid (∃ f,m / 10 ≤ f ∧ digs n n [] = digs f (m / 10) (UInt8.ofNat (48 + m % 10) :: bs s)):=hidIt (by
    obtain ⟨f,hf,e⟩:=HL.out
    obtain ⟨g,hg',e'⟩:=digs_step hg hf (bs s)
    exact ⟨g,hg',e.trans e'⟩)
   have hg':=hidIt hg
   clear hg
   go_wp2_with (fail)
   refine ⟨⟨m / 10,_,by simp,rfl,by omega,by rw [ByteArray.size_append,hq1]; exact hq3.out,hidIt ?_,HB.out.alloc (HB.out.size) _⟩,?_⟩
   ·
    have:=hstep.out
    simpa using this
   ·
    have:=hg'.out
    simp [intOf]; omega
  ·
   have l0 : ¬ (0 : Int) < m:=by omega
   have hz : m = 0:=by omega
   subst hz
   have HS : Hid (res = ⟨#[109]⟩ ++ s):=hidIt (by
    obtain ⟨f,_,e⟩:=HL.out
    rw [digs_zero] at e
    rw [em.out,e,B_bs])
   have hq1 : (⟨#[109]⟩ : ByteArray).size = 1:=rfl
   have hq2 : ¬ 9223372036854775807 < 1 + s.size:=by omega
   go_wp2_with (fail)
   go_ret
   exact ⟨by rw [HS.out]; rfl,HB.out⟩
end Go.Proofs.YtpkkmhpobfjclaaGreat.Nm
