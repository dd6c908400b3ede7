/- The specification's numerals: l1Int of a number from 0 on is its decimal numeral. -/
import Derived.Test.YtgbnkkjjgodilaaGreatDoorSignI
import Derived.Test.YtgbnkkjjgodilaaGreatDoorDoorMet
import Derived.WalkLawsBesides
import Derived.Lib.ItoaLen
import Derived.Laws.OwnMore
set_option maxRecDepth 100000
set_option maxHeartbeats 32000000
set_option linter.unusedVariables false
namespace Go.Proofs.YtgbnkkjjgodilaaGreatDoor.Sg
open Go.ChangeShapes Go.WideShapes Go.ChangeAt Go.RowKit
def Lr (n m : Nat) (l : List UInt8) : Prop:=(l = [] ∧ m = n) ∨ (l ≠ [] ∧ m = 0 ∧ l = Lib.decDigits n) ∨ (l ≠ [] ∧ m ≠ 0 ∧ Lib.decDigits m ++ l = Lib.decDigits n)
theorem Lr.step {n m : Nat} {l : List UInt8} (h : Lr n m l) (hg : l = [] ∨ m ≠ 0) : Lr n (m / 10) (UInt8.ofNat (48 + m % 10) :: l):=by
 have key : Lib.decDigits m ++ l = Lib.decDigits n:=by
  rcases h with ⟨h1,h2⟩ | ⟨h1,h2,_⟩ | ⟨_,_,h3⟩
  ·
   rw [h1,h2,List.append_nil]
  ·
   rcases hg with h4 | h4
   ·
    exact absurd h4 h1
   ·
    exact absurd h2 h4
  ·
   exact h3
 by_cases hm : m < 10
 ·
  refine .inr (.inl ⟨by simp,by omega,?_⟩)
  rw [← key,Lib.decDigits_one hm,Nat.mod_eq_of_lt hm]
  rfl
 ·
  refine .inr (.inr ⟨by simp,by omega,?_⟩)
  rw [← key,Lib.decDigits.eq_def m,dif_neg hm,List.append_assoc]
  rfl
theorem Lr.done {n m : Nat} {l : List UInt8} (h : Lr n m l) (h1 : l ≠ []) (h2 : m = 0) : l = Lib.decDigits n:=by
 rcases h with ⟨h3,_⟩ | ⟨_,_,h3⟩ | ⟨_,h3,_⟩
 ·
  exact absurd h3 h1
 ·
  exact h3
 ·
  exact absurd h2 h3
def mz : Value → Value → Nat
 | y,.string s=>if s.data.toList = [] then 2 * (intOf y).toNat + 1 else 2 * (intOf y).toNat
 | _,_=>0
theorem mz_nil (m : Nat) (s : ByteArray) (h : s.data.toList = []) : mz (.int .i64 m) (.string s) = 2 * m + 1:=by simp only [mz,h,intOf,if_true]; omega
theorem mz_cons (m : Nat) (s : ByteArray) (h : ¬ s.data.toList = []) : mz (.int .i64 m) (.string s) = 2 * m:=by simp only [mz,h,intOf,if_false]; omega
theorem cv1 (x : Nat) (hx : x < 256) (wr : World) : (convert 122 9 (.slice (some ⟨wr.heap.size,0,none⟩) 1 1)).run Tryz.prog (wr.alloc (.cells #[.int .u8 x] 5)) = .ok (.string ⟨#[UInt8.ofNat x]⟩) (wr.alloc (.cells #[.int .u8 x] 5)):=by
 refine run_convert_bytes_back _ _ _ 5 ⟨wr.heap.size,0,none⟩ 1 [UInt8.ofNat x] Tryz.underlying122 Tryz.underlying5 Tryz.underlying9 (fun j hj=>?_)
 have hj0 : j = 0:=by simp at hj; omega
 subst hj0
 have e : (UInt8.ofNat x).toNat = x:=by simp; omega
 simp [Addr.add,Nat.mod_eq_of_lt hx]
theorem l1Int_any (n : Nat) (w : World) (hn : n ≤ 1099511627776) :
  Calls Tryz.prog 95 #[.int .i64 n] w fun e w'=>e = .returned (.string ⟨(Lib.itoa n).toArray⟩) ∧ Below w.heap.size w w':=by
 have h0 : ¬ (n : Int) < 0:=by omega
 go_enter Tryz.func95,Tryz.ntmps95
 go_wp2_with (fail)
 go_loopw [0,3] (fun y z wx=>∃ (m : Nat) (s : ByteArray),y = .int .i64 m ∧ z = .string s ∧ m ≤ 1099511627776 ∧ s.size + m ≤ n + 1 ∧ Lr n m s.data.toList ∧ Below w.heap.size w wx) (fun y z _=>mz y z)
 case atStart=>exact ⟨n,_,rfl,rfl,hn,by simp [ByteArray.size],.inl ⟨rfl,rfl⟩,Below.refl _ _⟩
 case round =>
  obtain ⟨m,s,rfl,rfl,hm,hsm,hL,hB⟩:=hrel
  have HL:=hidIt hL
  have HB:=hidIt hB
  clear hL hB
  by_cases hg : s.data.toList = [] ∨ m ≠ 0
  ·
   have l1 : (0 : Int) ≤ m:=by omega
   have l2 : (m : Int) ≤ 1099511627776:=by omega
   have l3 : ¬ (m : Int) % 10 < 0:=by omega
   have hq1 : (⟨#[48 + UInt8.ofNat (m % 10)]⟩ : ByteArray).size = 1:=rfl
   have hq2 : ¬ 9223372036854775807 < 1 + s.size:=by omega
   have hq3 : Hid (1 + s.size + m / 10 ≤ n + 1):=by
    refine hidIt ?_
    rcases hg with h1 | h1
    ·
     have h2 : s.size = 0:=by rw [show s.size = s.data.toList.length from (Array.length_toList).symm,h1]; rfl
     omega
    ·
     omega
   have hcv:=cv1 (48 + m % 10) (by omega) wr
   have ec : ((48 + m % 10 : Nat) : Int) = 48 + (m : Int) % 10:=by omega
   rw [ec] at hcv
   clear ec
   have hstep:=hidIt (HL.out.step hg)
   have hend : Hid (mz (.int .i64 (m / 10 : Nat)) (.string (⟨#[UInt8.ofNat (48 + m % 10)]⟩ ++ s)) < mz (.int .i64 m) (.string s)):=by
    refine hidIt ?_
    rw [mz_cons _ _ (by simp)]
    by_cases hs : s.data.toList = []
    ·
     rw [mz_nil _ _ hs]; omega
    ·
     rw [mz_cons _ _ hs]
     have : m ≠ 0:=hg.resolve_left hs
     omega
   by_cases hs : s.data.toList = []
   ·
    have hs' : s.toList.isEmpty = true:=by rw [ByteArray.toList_eq,hs]; rfl
    clear hg hs
    go_wp2_with (fail)
    refine ⟨⟨m / 10,_,by simp,rfl,by omega,by rw [ByteArray.size_append,hq1]; exact hq3.out,?_,HB.out.alloc (HB.out.size) _⟩,?_⟩
    ·
     have:=hstep.out
     simpa using this
    ·
     have:=hend.out
     simpa using this
   ·
    have hs' : s.toList.isEmpty = false:=by rw [ByteArray.toList_eq]; simpa using hs
    have hm0 : ((m : Int) != 0) = true:=by have : m ≠ 0:=hg.resolve_left hs; simp; omega
    clear hg hs
    go_wp2_with (fail)
    refine ⟨⟨m / 10,_,by simp,rfl,by omega,by rw [ByteArray.size_append,hq1]; exact hq3.out,?_,HB.out.alloc (HB.out.size) _⟩,?_⟩
    ·
     have:=hstep.out
     simpa using this
    ·
     have:=hend.out
     simpa using this
  ·
   have hs : ¬ s.data.toList = []:=fun h=>hg (.inl h)
   have hz : m = 0:=Decidable.byContradiction fun h=>hg (.inr h)
   have hs' : s.toList.isEmpty = false:=by rw [ByteArray.toList_eq]; simpa using hs
   have hd:=hidIt (HL.out.done hs hz)
   clear hg hs
   subst hz
   go_wp2_with (fail)
   go_ret
   refine ⟨?_,HB.out⟩
   rw [Lib.itoa_nonneg,← hd.out]
   rfl
end Go.Proofs.YtgbnkkjjgodilaaGreatDoor.Sg
namespace Go.Proofs.YtgbnkkjjgodilaaGreatDoor.Sg
open Go.ChangeShapes Go.WideShapes Go.ChangeAt Go.RowKit
def numS (n : Nat) : ByteArray:=⟨(Lib.itoa n).toArray⟩
def blank : ByteArray:=⟨#[32]⟩
theorem numS_size (n : Nat) (h : n ≤ 1099511627776) : (numS n).size ≤ 21:=by
 have:=Lib.itoa_length_le (n : Int) (by omega) (by omega)
 show (Lib.itoa n).toArray.size ≤ 21
 simpa using this
end Go.Proofs.YtgbnkkjjgodilaaGreatDoor.Sg
namespace Go.Proofs.YtgbnkkjjgodilaaGreatDoor.Sg
open Go.ChangeShapes Go.WideShapes Go.ChangeAt Go.RowKit
theorem Tab.lt {w : World} (h : Tab w) : 0 < w.heap.size:=by
 unfold Tab Lib.TabIs World.var? at h
 rw [gPow] at h
 simp only [Option.bind_some] at h
 rcases Nat.lt_or_ge 0 w.heap.size with h' | h'
 ·
  exact h'
 ·
  rw [Array.getElem?_eq_none h'] at h; cases h
theorem Tab.old {w : World} {o : Obj} (h : Tab w) : Tab (w.alloc o):=h.kept ((Below.refl _ _).alloc (Nat.le_refl _) o)
theorem hrun_two (h : Nat) (a b : ByteArray) : hrun (hrun h (nums a)) (nums b) = hrun h (nums (a ++ b)):=by
 rw [← hrun_append,← nums_append]
theorem nums_blank : nums blank = [32]:=rfl
theorem hrun_blank (h : Nat) (a : ByteArray) : hstep (hrun h (nums a)) 32 = hrun h (nums (a ++ blank)):=by
 rw [← hrun_two,nums_blank,hrun_cons,hrun_nil]
theorem One.next {w w' : World} {b h : Nat} (o : One w b h) (k : Below w.heap.size w w') : One w' b h:=o.kept k o.lt
theorem number_any (b h n : Nat) (w : World) (o : One w b h) (hh : h < 2147483647) (hn : n ≤ 1099511627776) (ht : Tab w) :
  Calls Tryz.prog 129 #[.pointer (some ⟨b,0,none⟩),.int .i64 n] w fun e w'=>e = .returned (.tuple #[]) ∧ One w' b (hrun h (nums (numS n ++ blank))) ∧ Only b w w':=by
 have HO:=hidIt o
 have CF:=hidIt (fun w=>formatInt_any n (by omega) (by omega) w)
 have hs:=numS_size n hn
 have HT:=hidIt ht
 clear o ht
 go_enter Tryz.func129,Tryz.ntmps129
 go_wp2_with (fail)
 refine (CF.out _ HT.out).mono ?_
 rintro e w1 ⟨rfl,hb1⟩
 have HB1:=hidIt hb1
 clear hb1
 go_wp2_with (fail)
 refine (text_any b h (numS n) _ (HO.out.next HB1.out) hh (by omega)).mono ?_
 rintro e w2 ⟨rfl,hO2,hB2⟩
 have HO2:=hidIt hO2
 have HB2:=hidIt hB2
 clear hO2 hB2
 go_wp2_with (fail)
 refine (take_any b _ 32 _ HO2.out (hrun_lt _ _ hh) (by omega)).mono ?_
 rintro e w3 ⟨rfl,rfl⟩
 go_wp2_with (fail)
 refine bodyPost_end (v:=.tuple #[]) (by simp [results,Tryz.results129,go_sem]) rfl ⟨rfl,?_,((Only.of_below HB1.out).trans HB2.out).setCell 0 _⟩
 have:=HO2.out.put (g:=hstep (hrun h (nums (numS n))) 32)
 rw [hrun_blank] at this ⊢
 exact this
end Go.Proofs.YtgbnkkjjgodilaaGreatDoor.Sg
namespace Go.Proofs.YtgbnkkjjgodilaaGreatDoor.Lg
open Go.ChangeShapes Go.WideShapes Go.ChangeAt Go.RowKit
open Sg
abbrev Ln:=ByteArray × Int
def lat (L : List Ln) (i : Nat) : Ln:=L.getD i (ByteArray.empty,0)
def sumN (n : Nat) (s : ByteArray) : Nat:=hashN (nums (numS n ++ Sg.blank ++ s))
theorem sumN_lt (n : Nat) (s : ByteArray) : sumN n s < 2147483647:=hashN_lt _
def prev (L : List Ln) : Nat → Nat
 | 0=>0
 | k + 1=>(lat L k).2.toNat
theorem prev_zero (L : List Ln) : prev L 0 = 0:=rfl
theorem prev_succ (L : List Ln) (k : Nat) : prev L (k + 1) = (lat L k).2.toNat:=rfl
def Good (L : List Ln) (i : Nat) : Prop:=(lat L i).1.size ≤ 100 ∧ (lat L i).2 = (sumN (prev L i) (lat L i).1 : Int)
def LogIs (L : List Ln) : Prop:=L.length ≤ 300 ∧ ∀ i,i < L.length → Good L i
def goodB (L : List Ln) (i : Nat) : Bool:=decide ((lat L i).1.size ≤ 100) && decide ((lat L i).2 = (sumN (prev L i) (lat L i).1 : Int))
def okL (L : List Ln) : Bool:=decide (L.length ≤ 300) && (List.range L.length).all (goodB L)
theorem goodB_iff (L : List Ln) (i : Nat) : goodB L i = true ↔ Good L i:=by
 unfold goodB Good
 rw [Bool.and_eq_true,decide_eq_true_iff,decide_eq_true_iff]
theorem okL_iff (L : List Ln) : okL L = true ↔ LogIs L:=by
 unfold okL LogIs
 rw [Bool.and_eq_true,decide_eq_true_iff,List.all_eq_true]
 exact ⟨fun h=>⟨h.1,fun i hi=>(goodB_iff L i).1 (h.2 i (List.mem_range.2 hi))⟩,fun h=>⟨h.1,fun i hi=>(goodB_iff L i).2 (h.2 i (List.mem_range.1 hi))⟩⟩
theorem okL_true {L : List Ln} (h : LogIs L) : okL L = true:=(okL_iff L).2 h
theorem okL_false {L : List Ln} (h : ¬ LogIs L) : okL L = false:=by
 cases e : okL L with
 | false=>rfl
 | true=>exact absurd ((okL_iff L).1 e) h
theorem of_okL {L : List Ln} (h : okL L = true) : LogIs L:=(okL_iff L).1 h
def headL (L : List Ln) : Int:=match L.length with
 | 0=>0
 | k + 1=>(lat L k).2
theorem headL_len {L : List Ln} {k : Nat} (h : L.length = k + 1) : headL L = (lat L k).2:=by unfold headL; rw [h]
theorem lat_take {L : List Ln} {n i : Nat} (h : i < n) : lat (L.take n) i = lat L i:=by
 unfold lat
 rw [List.getD_eq_getElem?_getD,List.getD_eq_getElem?_getD,List.getElem?_take,if_pos h]
theorem lat_set {L : List Ln} {i j : Nat} {x : Ln} (h : i < L.length) : lat (L.set i x) j = if i = j then x else lat L j:=by
 unfold lat
 rw [List.getD_eq_getElem?_getD,List.getD_eq_getElem?_getD,List.getElem?_set]
 by_cases e : i = j
 ·
  subst e; simp [h]
 ·
  simp [e]
theorem lat_getElem? {L : List Ln} {i : Nat} (h : i < L.length) : L[i]? = some (lat L i):=by
 unfold lat
 rw [List.getD_eq_getElem?_getD,List.getElem?_eq_getElem h]; rfl
theorem ext_lat {L M : List Ln} (h : L.length = M.length) (e : ∀ i,i < L.length → lat L i = lat M i) : L = M:=by
 apply List.ext_getElem? ; intro i
 by_cases hi : i < L.length
 ·
  rw [lat_getElem? hi,lat_getElem? (by omega),e i hi]
 ·
  rw [List.getElem?_eq_none (by omega),List.getElem?_eq_none (by omega)]
theorem prev_lt {L : List Ln} {i : Nat} (h : ∀ j,j < i → Good L j) : prev L i < 2147483647:=by
 cases i with
 | zero=>rw [prev_zero]; omega
 | succ k =>
  rw [prev_succ,(h k (by omega)).2]
  have:=sumN_lt (prev L k) (lat L k).1
  omega
theorem prev_cast {L : List Ln} {i : Nat} (h : ∀ j,j < i → Good L j) : headL (L.take i) = (prev L i : Int) ∨ L.length < i:=by
 by_cases hl : L.length < i
 ·
  exact .inr hl
 ·
  left
  cases i with
  | zero=>rfl
  | succ k =>
   rw [headL_len (k:=k) (by rw [List.length_take]; omega),lat_take (by omega),prev_succ,(h k (by omega)).2]
   omega
theorem logIs_cut {L : List Ln} {i : Nat} (hi : i < L.length) (h : ¬ Good L i) : ¬ LogIs L:=fun k=>h (k.2 i hi)
def lcells : List Ln → List Value
 | []=>[]
 | x :: r=>.string x.1 :: .int .i64 x.2 :: lcells r
theorem lcells_cons (x : Ln) (r : List Ln) : lcells (x :: r) = .string x.1 :: .int .i64 x.2 :: lcells r:=rfl
theorem lcells_length (L : List Ln) : (lcells L).length = L.length * 2:=by
 induction L with
 | nil=>rfl
 | cons x r ih=>rw [lcells_cons,List.length_cons,List.length_cons,ih,List.length_cons]; omega
theorem lcells_text (L : List Ln) : ∀ i,i < L.length → (lcells L)[i * 2]? = some (.string (lat L i).1):=by
 induction L with
 | nil=>intro i hi; simp at hi
 | cons x r ih =>
  intro i hi
  cases i with
  | zero=>rfl
  | succ k =>
   rw [lcells_cons,show (k + 1) * 2 = k * 2 + 1 + 1 from by omega,List.getElem?_cons_succ,List.getElem?_cons_succ,ih k (by simp at hi; omega)]
   rfl
theorem lcells_sum (L : List Ln) : ∀ i,i < L.length → (lcells L)[i * 2 + 1]? = some (.int .i64 (lat L i).2):=by
 induction L with
 | nil=>intro i hi; simp at hi
 | cons x r ih =>
  intro i hi
  cases i with
  | zero=>rfl
  | succ k =>
   rw [lcells_cons,show (k + 1) * 2 + 1 = k * 2 + 1 + 1 + 1 from by omega,List.getElem?_cons_succ,List.getElem?_cons_succ,ih k (by simp at hi; omega)]
   rfl
theorem lcells_set_text (L : List Ln) (s : ByteArray) : ∀ i,i < L.length → (lcells L).set (i * 2) (.string s) = lcells (L.set i (s,(lat L i).2)):=by
 induction L with
 | nil=>intro i hi; simp at hi
 | cons x r ih =>
  intro i hi
  cases i with
  | zero=>rfl
  | succ k =>
   rw [lcells_cons,show (k + 1) * 2 = k * 2 + 1 + 1 from by omega,List.set_cons_succ,List.set_cons_succ,ih k (by simp at hi; omega)]
   rfl
theorem lcells_set_sum (L : List Ln) (n : Int) : ∀ i,i < L.length → (lcells L).set (i * 2 + 1) (.int .i64 n) = lcells (L.set i ((lat L i).1,n)):=by
 induction L with
 | nil=>intro i hi; simp at hi
 | cons x r ih =>
  intro i hi
  cases i with
  | zero=>rfl
  | succ k =>
   rw [lcells_cons,show (k + 1) * 2 + 1 = k * 2 + 1 + 1 + 1 from by omega,List.set_cons_succ,List.set_cons_succ,ih k (by simp at hi; omega)]
   rfl
theorem lcells_one (L : List Ln) : ∀ u ∈ lcells L,u.oneCell' = true:=by
 induction L with
 | nil=>intro u hu; cases hu
 | cons x r ih =>
  intro u hu
  rw [lcells_cons] at hu
  rcases List.mem_cons.1 hu with rfl | hu
  ·
   rfl
  rcases List.mem_cons.1 hu with rfl | hu
  ·
   rfl
  exact ih u hu
theorem lat_zero (n i : Nat) : lat (List.replicate n (ByteArray.empty,0)) i = (ByteArray.empty,0):=by
 unfold lat
 rw [List.getD_eq_getElem?_getD,List.getElem?_replicate]
 split <;> rfl
theorem lcells_zero (n : Nat) : lcells (List.replicate n (ByteArray.empty,0)) = (madeCells #[.string ByteArray.empty,.int .i64 0] (n * 2)).toList:=by
 apply List.ext_getElem?
 intro j
 rcases Nat.lt_or_ge j (n * 2) with hj | hj
 ·
  have h2 : j / 2 < (List.replicate n ((ByteArray.empty,0) : Ln)).length:=by simp; omega
  rcases Nat.mod_two_eq_zero_or_one j with e | e
  ·
   have:=lcells_text _ _ h2
   rw [show j / 2 * 2 = j from by omega] at this
   rw [this,lat_zero]
   simp [madeCells,hj,e]
  ·
   have:=lcells_sum _ _ h2
   rw [show j / 2 * 2 + 1 = j from by omega] at this
   rw [this,lat_zero]
   simp [madeCells,hj,e]
 ·
  rw [List.getElem?_eq_none (by rw [lcells_length]; simp; omega),List.getElem?_eq_none (by simp [madeCells]; omega)]
structure Rd (w : World) (a : Option Addr) (L : List Ln) : Prop where
 cell : ∀ i,i < L.length → ∃ b off,a = some ⟨b,off,none⟩ ∧ w.cell? ⟨b,off + i * 2,none⟩ = some (.string (lat L i).1) ∧ w.cell? ⟨b,off + i * 2 + 1,none⟩ = some (.int .i64 (lat L i).2)
theorem cell_block {w : World} {b o : Nat} {v : Value} (h : w.cell? ⟨b,o,none⟩ = some v) : b < w.heap.size:=World.block_lt_of_cell? w ⟨b,o,none⟩ h
theorem Rd.kept {w w' : World} {a : Option Addr} {L : List Ln} (h : Rd w a L) (k : Below w.heap.size w w') : Rd w' a L :=
 ⟨fun i hi=>by
  obtain ⟨b,off,e,c0,c1⟩:=h.cell i hi
  exact ⟨b,off,e,by rw [k.cell (by simpa using cell_block c0)]; exact c0,by rw [k.cell (by simpa using cell_block c1)]; exact c1⟩⟩
theorem Rd.alloc {w : World} {a : Option Addr} {L : List Ln} (h : Rd w a L) (o : Obj) : Rd (w.alloc o) a L:=h.kept ((Below.refl _ _).alloc (Nat.le_refl _) o)
theorem Rd.drew {w : World} {a : Option Addr} {L : List Ln} (h : Rd w a L) : Rd w.drew a L:=⟨h.cell⟩
theorem Rd.take {w : World} {a : Option Addr} {L : List Ln} (h : Rd w a L) (n : Nat) : Rd w a (L.take n) :=
 ⟨fun i hi=>by
  rw [List.length_take] at hi
  rw [lat_take (by omega)]
  exact h.cell i (by omega)⟩
theorem Rd.nil (w : World) (a : Option Addr) : Rd w a []:=⟨fun i hi=>by simp at hi⟩
def Own (w : World) (base : Nat) (v : Value) (L : List Ln) : Prop:=w.ownsRow base 104 2 v L.length (lcells L)
theorem Own.form {w : World} {base : Nat} {v : Value} {L : List Ln} (h : Own w base v L) : ∃ a cap,v = .slice a L.length cap ∧ L.length ≤ cap ∧ cap ≤ maxLen ∧ Rd w a L ∧ (a = none → cap = 0) ∧ (∀ x,a = some x → ∃ g,x = ⟨g,0,none⟩ ∧ base ≤ g ∧ g < w.heap.size):=by
 have h':=h
 rcases h.2 with ⟨rfl,h0⟩ | ⟨g,cap,cur,rfl,hb,hg,hn,hm,rest⟩
 ·
  exact ⟨none,0,by rw [h0],by omega,by decide,⟨fun i hi=>by omega⟩,fun _=>rfl,fun x hx=>by cases hx⟩
 ·
  refine ⟨some ⟨g,0,none⟩,cap,rfl,hn,hm,⟨fun i hi=>⟨g,0,rfl,?_,?_⟩⟩,(fun e=>by cases e),fun x hx=>⟨g,by cases hx; rfl,hb,(Array.getElem?_eq_some_iff.1 hg).1⟩⟩
  ·
   rw [Nat.zero_add,World.ownsRow.cellAt h' _ (by omega),lcells_text _ _ hi]
  ·
   rw [Nat.zero_add,World.ownsRow.cellAt h' _ (by omega),lcells_sum _ _ hi]
theorem Own.kept {w w' : World} {base : Nat} {v : Value} {L : List Ln} (h : Own w base v L) (k : Below w.heap.size w w') : Own w' base v L :=
 World.ownsRow.kept (row:=none) h ⟨k.os,k.tape,k.output,k.size,fun i hi _=>k.block i hi⟩ (by cases v.ownBlock <;> simp)
theorem Own.only {w w' : World} {base c : Nat} {v : Value} {L : List Ln} (h : Own w base v L) (k : Only c w w') (hc : c < base ∨ ∀ g,v.ownBlock = some g → g ≠ c) : Own w' base v L:=by
 refine World.ownsRow.kept h (row:=some c) ⟨k.os,k.tape,k.output,k.size,fun i hi hne=>k.block i hi (fun e=>hne (by rw [e]))⟩ ?_
 cases hv : v.ownBlock with
 | none=>exact .inl rfl
 | some g =>
  refine .inr (fun e=>?_)
  cases e
  rcases hc with hc | hc
  ·
   have:=(World.ownsRow.lt h _ hv).1; omega
  ·
   exact hc _ hv rfl
theorem Own.mono {w : World} {base b' : Nat} {v : Value} {L : List Ln} (h : Own w base v L) (hb : b' ≤ base) : Own w b' v L:=by
 refine ⟨h.1,?_⟩
 rcases h.2 with h0 | ⟨g,cap,cur,e,hb',r⟩
 ·
  exact .inl h0
 ·
  exact .inr ⟨g,cap,cur,e,by omega,r⟩
theorem Own.text {w : World} {base g n cap i : Nat} {L : List Ln} (h : Own w base (.slice (some ⟨g,0,none⟩) n cap) L) (hi : i < L.length) (s : ByteArray) :
  Own (w.setCell ⟨g,i * 2,none⟩ (.string s)) base (.slice (some ⟨g,0,none⟩) n cap) (L.set i (s,(lat L i).2)):=by
 obtain ⟨a,c',e,_⟩:=h.form
 cases e
 have:=(World.ownsRow.stored h (i * 2) (.string s)).1
 rw [lcells_set_text _ _ _ hi] at this
 unfold Own
 rw [List.length_set]
 exact this
theorem Own.sum {w : World} {base g n cap i : Nat} {L : List Ln} (h : Own w base (.slice (some ⟨g,0,none⟩) n cap) L) (hi : i < L.length) (x : Int) :
  Own (w.setCell ⟨g,i * 2 + 1,none⟩ (.int .i64 x)) base (.slice (some ⟨g,0,none⟩) n cap) (L.set i ((lat L i).1,x)):=by
 obtain ⟨a,c',e,_⟩:=h.form
 cases e
 have:=(World.ownsRow.stored h (i * 2 + 1) (.int .i64 x)).1
 rw [lcells_set_sum _ _ _ hi] at this
 unfold Own
 rw [List.length_set]
 exact this
theorem Own.free {w : World} {base g n cap : Nat} {L : List Ln} (h : Own w base (.slice (some ⟨g,0,none⟩) n cap) L) (j : Nat) : w.frozen? ⟨g,j,none⟩ = false:=by
 obtain ⟨a,c',e,_⟩:=h.form
 cases e
 exact World.ownsRow.frozenAt h j
theorem Own.at {w : World} {base g n cap i : Nat} {L : List Ln} (h : Own w base (.slice (some ⟨g,0,none⟩) n cap) L) (hi : i < L.length) :
  w.cell? ⟨g,i * 2,none⟩ = some (.string (lat L i).1) ∧ w.cell? ⟨g,i * 2 + 1,none⟩ = some (.int .i64 (lat L i).2) ∧ w.frozen? ⟨g,i * 2,none⟩ = false ∧ w.frozen? ⟨g,i * 2 + 1,none⟩ = false:=by
 obtain ⟨a',c',e1,_,_,r,_⟩:=h.form
 cases e1
 obtain ⟨b',o',e2,k0,k1⟩:=r.cell i hi
 cases e2
 exact ⟨by simpa using k0,by simpa using k1,h.free _,h.free _⟩
theorem Own.line {w : World} {base g n cap i : Nat} {L : List Ln} (h : Own w base (.slice (some ⟨g,0,none⟩) n cap) L) (hi : i < L.length) (s : ByteArray) (x : Int) :
  Own ((w.setCell ⟨g,i * 2,none⟩ (.string s)).setCell ⟨g,i * 2 + 1,none⟩ (.int .i64 x)) base (.slice (some ⟨g,0,none⟩) n cap) (L.set i (s,x)):=by
 have:=(h.text hi s).sum (i:=i) (by rw [List.length_set]; exact hi) x
 rw [lat_set hi,if_pos rfl,List.set_set] at this
 exact this
end Go.Proofs.YtgbnkkjjgodilaaGreatDoor.Lg
namespace Go.Proofs.YtgbnkkjjgodilaaGreatDoor.Lg
open Go.ChangeShapes Go.WideShapes Go.ChangeAt Go.RowKit
open Sg
theorem impl_sumBehind (n : Nat) (s : ByteArray) (w : World) (hn : n ≤ 1099511627776) (hs : s.size ≤ 9223372036854775807) (ht : Tab w) :
  Calls Tryz.prog 108 #[.int .i64 n,.string s] w fun e w'=>e = .returned (.int .i64 (sumN n s)) ∧ Below w.heap.size w w':=by
 have HT:=hidIt ht
 have htl:=ht.lt
 have ec : ((sumN n s : Nat) : Int) = (hend (hrun 17 (nums (numS n ++ Sg.blank ++ s))) : Int):=by
  unfold sumN hashN; rfl
 rw [ec]
 clear ec ht
 go_enter Tryz.func108,Tryz.ntmps108
 go_wp2_with (fail)
 refine (newHasher_any _).mono ?_
 rintro e w1 ⟨rfl,hb1⟩
 have HB1:=hidIt hb1
 have z1:=hb1.size
 clear hb1
 have HT1:=hidIt (HT.out.kept HB1.out)
 go_wp2_with (fail)
 refine (number_any w1.heap.size 17 n _ (One.newAt rfl) (by omega) hn HT1.out.old).mono ?_
 rintro e w2 ⟨rfl,hO2,hB2⟩
 have HO2:=hidIt hO2
 have HB2:=hidIt hB2
 clear hO2 hB2
 go_wp2_with (fail)
 refine (text_any w1.heap.size _ s _ HO2.out (hrun_lt _ _ (by omega)) hs).mono ?_
 rintro e w3 ⟨rfl,hO3,hB3⟩
 rw [hrun_two] at hO3
 have hl:=hrun_lt (nums (numS n ++ Sg.blank ++ s)) 17 (by omega)
 have CE:=hidIt (fun w=>ended_any (hrun 17 (nums (numS n ++ Sg.blank ++ s))) w hl)
 have HB3:=hidIt hB3
 generalize hg : hrun 17 (nums (numS n ++ Sg.blank ++ s)) = g at hO3 CE
 have HG:=hidIt hg
 clear hg hl
 have c0:=hO3.c0
 have z3:=hO3.lt
 clear hO3 hB3
 go_wp2_with (fail)
 refine (CE.out _).mono ?_
 rintro e w4 ⟨rfl,hb4⟩
 go_wp2_with (fail)
 go_ret
 refine ⟨?_,(((HB1.out.alloc z1 _).trans (HB2.out.below (B:=w.heap.size) (by omega) (by simp; omega))).trans (HB3.out.below (B:=w.heap.size) (by omega) (by have:=HB2.out.size; simp at this; omega))).trans (hb4.mono (by omega))⟩
 rw [HG.out]
 rfl
theorem spec_l4Sum (n : Nat) (s : ByteArray) (w : World) (hn : n ≤ 1099511627776) (hs : s.size ≤ 4611686018427380000) :
  Calls Tryz.prog 69 #[.int .i64 n,.string s] w fun e w'=>e = .returned (.int .i64 (sumN n s)) ∧ Below w.heap.size w w':=by
 have ca:=fun w=>l1Int_any n w hn
 have sa:=numS_size n hn
 have ep : sumN n s = hashN (nums (numS n ++ ⟨#[32]⟩ ++ s)):=rfl
 rw [ep]
 clear ep
 change ∀ w,Calls Tryz.prog _ _ w fun e w'=>e = .returned (.string (numS n)) ∧ _ at ca
 have CA:=hidIt ca
 clear ca
 generalize numS n = xa at CA sa ⊢
 have q0 : (⟨#[32]⟩ : ByteArray).size = 1:=rfl
 have q1 : ¬ 9223372036854775807 < xa.size + 1:=by omega
 have q2 : ¬ 9223372036854775807 < xa.size + 1 + s.size:=by omega
 have CH:=hidIt (fun w=>spec_Hash (xa ++ ⟨#[32]⟩ ++ s) w (by rw [ByteArray.size_append,ByteArray.size_append,q0]; omega))
 generalize (hashN (nums (xa ++ ⟨#[32]⟩ ++ s)) : Int) = hh at CH ⊢
 go_enter Tryz.func69,Tryz.ntmps69
 go_wp2_with (fail)
 refine (CA.out _).mono ?_
 rintro e w1 ⟨rfl,hb1⟩
 go_wp2_with (fail)
 refine (CH.out _).mono ?_
 rintro e w2 ⟨rfl,rfl⟩
 go_wp2_with (fail)
 go_ret
 exact ⟨rfl,hb1⟩
theorem Rd.last {w : World} {a : Option Addr} {L : List Ln} {k : Nat} (h : Rd w a L) (hk : L.length = k + 1) : ∃ b off,a = some ⟨b,off,none⟩ ∧ w.cell? ⟨b,off + k * 2 + 1,none⟩ = some (.int .i64 (headL L)):=by
 obtain ⟨b,off,e,_,c1⟩:=h.cell k (by omega)
 exact ⟨b,off,e,by rw [headL_len hk]; exact c1⟩
theorem impl_lastSum (a : Option Addr) (cap : Nat) (L : List Ln) (w : World) (h : Rd w a L) (hl : L.length ≤ 9223372036854775807) :
  Calls Tryz.prog 109 #[.slice a L.length cap] w fun e w'=>e = .returned (.int .i64 (headL L)) ∧ w' = w:=by
 generalize hn : L.length = n at hl
 cases n with
 | zero =>
  have e : L = []:=List.eq_nil_of_length_eq_zero hn
  subst e
  go_enter Tryz.func109,Tryz.ntmps109
  go_wp2
  go_ret
  exact ⟨rfl,rfl⟩
 | succ k =>
  obtain ⟨b,off,rfl,c1⟩:=h.last hn
  generalize headL L = hd at c1 ⊢
  have h2 : (((k : Int) + 1) == 0) = false:=by simp; omega
  go_enter Tryz.func109,Tryz.ntmps109
  go_wp2
  go_ret
  exact ⟨rfl,rfl⟩
end Go.Proofs.YtgbnkkjjgodilaaGreatDoor.Lg
