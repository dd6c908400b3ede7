/- Noted of the program and of the specification: what is noted on a log. -/
import Derived.Test.YtgbnkkjjgodilaaGreatDoorBun2
import Derived.Deep.RegionLawGrows
import Derived.ArgAppend
import Derived.Laws.CopyOwn
import Derived.Laws.AppendOwnNone
import Derived.Test.YtgbnkkjjgodilaaGreatDoorNameT
import Derived.Test.YtgbnkkjjgodilaaGreatDoorNameL
set_option maxRecDepth 100000
set_option maxHeartbeats 32000000
set_option linter.unusedVariables false
namespace Go.Proofs.YtgbnkkjjgodilaaGreatDoor.Lg
open Go.ChangeShapes Go.WideShapes Go.ChangeAt Go.RowKit
open Sg
theorem Rd.cells {w : World} {x : Addr} {L : List Ln} (h : Rd w (some x) L) : ∀ j u,(lcells L)[j]? = some u → w.cell? (x.add j) = some u:=by
 intro j u hj
 have hlt : j < L.length * 2:=by
  rcases Nat.lt_or_ge j (L.length * 2) with h | h
  ·
   exact h
  ·
   rw [List.getElem?_eq_none (by rw [lcells_length]; exact h)] at hj; cases hj
 obtain ⟨b,off,e,c0,c1⟩:=h.cell (j / 2) (by omega)
 cases e
 rw [Go.WideShapes.add_plain]
 rcases Nat.mod_two_eq_zero_or_one j with e | e
 ·
  have:=lcells_text L (j / 2) (by omega)
  rw [show j / 2 * 2 = j from by omega] at this c0
  rw [this] at hj
  cases hj
  exact c0
 ·
  have:=lcells_sum L (j / 2) (by omega)
  rw [show j / 2 * 2 + 1 = j from by omega] at this
  rw [show off + j / 2 * 2 + 1 = off + j from by omega] at c1
  rw [this] at hj
  cases hj
  exact c1
theorem Rd.none_nil {w : World} {L : List Ln} (h : Rd w none L) : L = []:=by
 cases L with
 | nil=>rfl
 | cons x r=>obtain ⟨b,off,e,_⟩:=h.cell 0 (by simp); cases e
theorem setRow_only {w : World} {g : Nat} (cs : Array Value) : Only g w (w.setRow g cs) :=
 ⟨rfl,rfl,rfl,by simp [World.setRow],fun k _ hk=>setRow_other w g k cs hk⟩
theorem run_copy_lines {w : World} {base g dcap cap n : Nat} {a : Option Addr} {L M : List Ln} (ty : TypeId) (hn : L.length = n) (hm : M.length = n) (hO : Own w base (.slice (some ⟨g,0,none⟩) n dcap) M) (h : Rd w a L) :
  ∃ w',(Builtin.copy_ #[47,47] ty #[.slice (some ⟨g,0,none⟩) n dcap,.slice a n cap]).run Tryz.prog w = .ok (goInt n) w' ∧ Own w' base (.slice (some ⟨g,0,none⟩) n dcap) L ∧ Only g w w':=by
 obtain ⟨i0,hi,hz0,hz1,hz2⟩:=info_parts infoLn
 subst hn
 cases a with
 | none =>
  have e:=h.none_nil
  subst e
  have e:=List.eq_nil_of_length_eq_zero hm
  subst e
  exact ⟨w,by simp [Builtin.copy_,run_underlying Tryz.underlying47,Builtin.lenOf,Builtin.firstCells,sizeOf,typeInfo,hi,storeCells],hO,Only.refl _ _⟩
 | some x =>
  rcases hO.2 with ⟨e,_⟩ | ⟨g',cap',cur,e,hb,hg,hnc,hcm,hsz,htk⟩
  ·
   cases e
  ·
   simp only [Value.slice.injEq,Option.some.injEq,Addr.mk.injEq,and_true] at e
   obtain ⟨rfl,hML,rfl⟩:=e
   have hl:=run_firstCells_some (P:=Tryz.prog) w 2 L.length x L.length cap (lcells L) (lcells_length L) h.cells
   have hst:=run_storeCells_at Tryz.prog g 0 104 (lcells L) 0 cur w hg (by rw [lcells_length,hsz]; omega) (lcells_one L)
   simp only [Nat.add_zero,Nat.zero_add,List.take_zero,List.nil_append] at hst
   refine ⟨w.setRow g (lcells L ++ List.drop (lcells L).length cur.toList).toArray,?_,?_,setRow_only _⟩
   ·
    simp [Builtin.copy_,run_underlying Tryz.underlying47,Builtin.lenOf,sizeOf,typeInfo,hi,hz1,hl,hst]
   ·
    refine ⟨lcells_length L,.inr ⟨g,dcap,_,rfl,hb,setRow_heap w g _ _ _ _ hg,by omega,hcm,?_,?_⟩⟩
    ·
     simp [lcells_length,hsz]; omega
    ·
     simp [← lcells_length]
theorem impl_copied (a : Option Addr) (cap : Nat) (L : List Ln) (w : World) (h : Rd w a L) (hl : L.length ≤ 1048576) :
  Calls Tryz.prog 89 #[.slice a L.length cap] w fun e w'=>∃ v,e = .returned v ∧ Own w' w.heap.size v L ∧ Below w.heap.size w w':=by
 generalize hn : L.length = n at *
 obtain ⟨i0,hi,hz0,hz1,hz2⟩:=info_parts infoLn
 have HR:=hidIt h
 have HN:=hidIt hn
 clear h hn
 go_enter Tryz.func89,Tryz.ntmps89
 go_wp2_with (first
  | (at_make; refine wpList_make_full _ rfl _ _ 47 rfl w.heap.size 104 i0 (.agg #[.string ByteArray.empty,.int .i64 0]) 2 Tryz.underlying47 hi hz0 hz1 _ _ _ _ n rfl rfl (by omega) (by omega) (by rw [hz2]; omega) (by unfold maxLen; omega) (Nat.le_refl _) ?_)
  | fail)
 intro w1 hown hgrow
 have HO : Hid (Own w1 w.heap.size (.slice (some ⟨w.heap.size,0,none⟩) n n) (List.replicate n (ByteArray.empty,0))):=by
  refine hidIt ?_
  unfold Own
  rw [List.length_replicate,lcells_zero]
  exact hown
 have HB:=hidIt ((Below.refl w.heap.size w).grown hgrow (Nat.le_refl _) (fun k hk=>by cases hk))
 have HR1:=hidIt (HR.out.kept HB.out)
 clear hown hgrow
 obtain ⟨w2,hrun,hO2,hY2⟩:=run_copy_lines (cap:=cap) 3 HN.out (List.length_replicate ..) HO.out HR1.out
 have HO2:=hidIt hO2
 have HB2:=hidIt (HB.out.trans (hY2.below (B:=w.heap.size) (Nat.le_refl _) HB.out.size))
 clear hO2 hY2
 go_wp2_with (fail)
 go_ret
 exact ⟨_,rfl,HO2.out,HB2.out⟩
end Go.Proofs.YtgbnkkjjgodilaaGreatDoor.Lg
namespace Go.Proofs.YtgbnkkjjgodilaaGreatDoor.Lg
open Go.ChangeShapes Go.WideShapes Go.ChangeAt Go.RowKit
open Sg
end Go.Proofs.YtgbnkkjjgodilaaGreatDoor.Lg
namespace Go.Proofs.YtgbnkkjjgodilaaGreatDoor.Lg
open Go.ChangeShapes Go.WideShapes Go.ChangeAt Go.RowKit
open Sg
def mt (k : Nat) : ByteArray:=⟨#[109]⟩ ++ ⟨(Lib.decDigits k).toArray⟩
theorem markText_any (n : Nat) (w : World) (h1 : 1 ≤ n) (hn : n ≤ 1099511627776) :
  Calls Tryz.prog 59 #[.int .i64 n] w fun e w'=>e = .returned (.string (mt n)) ∧ Below w.heap.size w w':=by
 have h0 : ¬ (n : Int) ≤ 0:=by omega
 have em : mt n = ⟨#[109]⟩ ++ ⟨(Lib.decDigits n).toArray⟩:=rfl
 rw [em]
 clear em
 go_enter Tryz.func59,Tryz.ntmps59
 go_wp2_with (fail)
 go_loopw [0,3] (fun y z wx=>∃ (m : Nat) (s : ByteArray),y = .int .i64 m ∧ z = .string s ∧ m ≤ 1099511627776 ∧ s.size + m ≤ n + 1 ∧ Lr n m s.data.toList ∧ Below w.heap.size w wx) (fun y _ _=>(intOf y).toNat)
 case atStart=>exact ⟨n,_,rfl,rfl,hn,by simp [ByteArray.size],.inl ⟨rfl,rfl⟩,Below.refl _ _⟩
 case round =>
  obtain ⟨m,s,rfl,rfl,hm,hsm,hL,hB⟩:=hrel
  have HL:=hidIt hL
  have HB:=hidIt hB
  clear hL hB
  by_cases hg : 0 < m
  ·
   have l0 : (0 : Int) < m:=by omega
   have l2 : (m : Int) ≤ 1099511627776:=by omega
   have l3 : ¬ (m : Int) % 10 < 0:=by omega
   have hq1 : (⟨#[48 + UInt8.ofNat (m % 10)]⟩ : ByteArray).size = 1:=rfl
   have hq2 : ¬ 9223372036854775807 < 1 + s.size:=by omega
   have hq3 : Hid (1 + s.size + m / 10 ≤ n + 1):=hidIt (by omega)
   have hcv:=cv1 (48 + m % 10) (by omega) wr
   have ec : ((48 + m % 10 : Nat) : Int) = 48 + (m : Int) % 10:=by omega
   rw [ec] at hcv
   clear ec
   have hstep:=hidIt (HL.out.step (.inr (by omega)))
   have hg':=hidIt hg
   clear hg
   go_wp2_with (fail)
   refine ⟨⟨m / 10,_,by simp,rfl,by omega,by rw [ByteArray.size_append,hq1]; exact hq3.out,?_,HB.out.alloc (HB.out.size) _⟩,?_⟩
   ·
    have:=hstep.out
    simpa using this
   ·
    have:=hg'.out
    simp [intOf]; omega
  ·
   have l0 : ¬ (0 : Int) < m:=by omega
   have hz : m = 0:=by omega
   subst hz
   have hd : Hid (s.data.toList = Lib.decDigits n):=hidIt (by
    rcases HL.out with ⟨_,h⟩ | ⟨_,_,h⟩ | ⟨_,h,_⟩
    ·
     omega
    ·
     exact h
    ·
     exact absurd rfl h)
   have hs1 : s = ⟨(Lib.decDigits n).toArray⟩:=by
    rw [← hd.out]
   have hq1 : (⟨#[109]⟩ : ByteArray).size = 1:=rfl
   have hq2 : ¬ 9223372036854775807 < 1 + s.size:=by omega
   have HS:=hidIt hs1
   clear hs1
   go_wp2_with (fail)
   go_ret
   exact ⟨by rw [HS.out]; rfl,HB.out⟩
def markL (k n : Nat) : List Ln:=(List.range n).map fun j=>(mt (k + 2 * j),((k + 2 * j + 1 : Nat) : Int))
theorem markL_length (k n : Nat) : (markL k n).length = n:=by simp [markL]
theorem lat_markL (k n j : Nat) (h : j < n) : lat (markL k n) j = (mt (k + 2 * j),((k + 2 * j + 1 : Nat) : Int)):=by
 unfold markL
 rw [lat_map _ _ _ h]
def ob (w : World) (v : Value) : Nat:=v.ownBlock.getD w.heap.size
theorem markLineS_any (base : Nat) (v : Value) (L : List Ln) (k : Nat) (w : World) (h : Own w base v L) (h1 : 1 ≤ k) (h2 : k + 2 * L.length ≤ 1099511627776) :
  Calls Tryz.prog 58 #[v,.int .i64 k] w fun e w'=>e = .returned (.int .i64 ((k + 2 * L.length : Nat) : Int)) ∧ Own w' base v (markL k L.length) ∧ Only (ob w v) w w':=by
 obtain ⟨a,cap,rfl,hcap,hcm,hR,hna,hsome⟩:=h.form
 cases a with
 | none =>
  have e:=hR.none_nil
  subst e
  have e:=hna rfl
  subst e
  clear hsome hna
  go_enter Tryz.func58,Tryz.ntmps58
  go_wp2_with (fail)
  refine wp_loop_rounds 1 ?_
  rw [rounds_succ]
  go_wp2_with (fail)
  go_ret
  exact ⟨by simp,h,Only.refl _ _⟩
 | some x =>
  obtain ⟨g,rfl,hbg,hgl⟩:=hsome x rfl
  have eo : ob w (.slice (some ⟨g,0,none⟩) L.length cap) = g:=rfl
  rw [eo]
  have HO:=hidIt h
  generalize hn : L.length = n at *
  have HN:=hidIt hn
  clear h hR hna hsome hn eo hcm
  go_enter Tryz.func58,Tryz.ntmps58
  go_wp2_with (fail)
  go_loopw [1,5] (fun z y wx=>∃ (i : Nat) (M : List Ln),y = .int .i64 i ∧ z = .int .i64 ((k + 2 * i : Nat) : Int) ∧ i ≤ n ∧ M.length = n ∧ Hid (∀ j,j < i → lat M j = (mt (k + 2 * j),((k + 2 * j + 1 : Nat) : Int))) ∧ Own wx base (.slice (some ⟨g,0,none⟩) n cap) M ∧ Only g w wx) (fun _ y _=>(n - intOf y).toNat)
  case atStart=>exact ⟨0,L,rfl,rfl,by omega,HN.out,hidIt (fun j hj=>by omega),HO.out,Only.refl _ _⟩
  case round =>
   obtain ⟨i,M,rfl,rfl,hi,hM,hE,hO,hY⟩:=hrel
   have HM:=hidIt hM
   have HOx:=hidIt hO
   have HY:=hidIt hY
   clear hM hO hY
   by_cases hin : i < n
   ·
    have hin' : (i : Int) < (n : Int):=by omega
    have hiM : i < M.length:=by rw [HM.out]; exact hin
    generalize hk : k + 2 * i = q
    have HK:=hidIt hk
    clear hk
    have q1 : q + 2 ≤ 1099511627776:=by have:=HK.out; omega
    have CM:=hidIt (fun w=>markText_any q w (by have:=HK.out; omega) (by omega))
    go_wp2_with (fail)
    refine (CM.out _).mono ?_
    rintro e w1 ⟨rfl,hb1⟩
    have HO1:=hidIt (HOx.out.kept hb1)
    obtain ⟨c0,c1,f0,f1⟩:=HO1.out.at hiM
    have HY1:=hidIt (HY.out.trans (Only.of_below hb1))
    have HL:=hidIt (HO1.out.line hiM (mt q) ((q + 1 : Nat) : Int))
    have HMi:=hidIt hiM
    clear hb1 HOx HY HO1 hiM
    generalize hmt : mt q = tx at HL
    have HTX:=hidIt hmt
    clear hmt
    have q2 : ((q + 1 : Nat) : Int) = (q : Int) + 1:=by omega
    rw [q2] at HL
    clear q2
    go_wp2_with (fail)
    refine ⟨⟨i + 1,_,by simp,?_,by omega,by rw [List.length_set]; exact HM.out,hidIt (fun j hj=>?_),HL.out,(HY1.out.setCell _ _).setCell _ _⟩,by simp [intOf]; omega⟩
    ·
     have:=HK.out
     congr 1
     omega
    ·
     rw [lat_set HMi.out]
     split
     ·
      next e =>
      subst e
      rw [HK.out,HTX.out]
      simp
     ·
      exact hE.out j (by omega)
   ·
    have hin' : ¬ (i : Int) < (n : Int):=by omega
    have ei : i = n:=by omega
    subst ei
    have e : M = markL k i:=ext_lat (by rw [HM.out,markL_length]) (fun j hj=>by rw [HM.out] at hj; rw [hE.out j hj,lat_markL _ _ _ hj])
    subst e
    generalize hk : k + 2 * i = q
    go_wp2_with (fail)
    go_ret
    exact ⟨rfl,HOx.out,HY.out⟩
theorem heldLineS_any (a : Option Addr) (cap n k : Nat) (w : World) (h : Rd w a (markL k n)) (h1 : 1 ≤ k) (h2 : k + 2 * n ≤ 1099511627776) :
  Calls Tryz.prog 63 #[.slice a n cap,.int .i64 k] w fun e w'=>e = .returned (.int .i64 ((k + 2 * n : Nat) : Int)) ∧ Below w.heap.size w w':=by
 have HR:=hidIt h
 clear h
 go_enter Tryz.func63,Tryz.ntmps63
 go_wp2_with (fail)
 go_loopw [1,5] (fun z y wx=>∃ i : Nat,y = .int .i64 i ∧ z = .int .i64 ((k + 2 * i : Nat) : Int) ∧ i ≤ n ∧ Below w.heap.size w wx) (fun _ y _=>(n - intOf y).toNat)
 case atStart=>exact ⟨0,rfl,rfl,by omega,Below.refl _ _⟩
 case round =>
  obtain ⟨i,rfl,rfl,hi,hB⟩:=hrel
  have RA:=hidIt (HR.out.kept hB)
  have HB:=hidIt hB
  clear hB
  by_cases hin : i < n
  ·
   have hin' : (i : Int) < (n : Int):=by omega
   obtain ⟨b,off,rfl,c0,c1⟩:=RA.out.cell i (by rw [markL_length]; exact hin)
   rw [lat_markL _ _ _ hin] at c0 c1
   simp only at c0 c1
   have CM:=hidIt (fun w=>markText_any (k + 2 * i) w (by omega) (by omega))
   have q1 : k + 2 * i + 2 ≤ 1099511627776:=by omega
   have q3 : Hid (k + 2 * (i + 1) = k + 2 * i + 2):=hidIt (by omega)
   generalize k + 2 * i = q at c0 c1 CM q1 q3
   generalize mt q = tx at c0 CM
   have q2 : ((q + 1 : Nat) : Int) = (q : Int) + 1:=by omega
   rw [q2] at c1
   clear q2
   have hf:=And.intro c0 c1
   clear HR RA
   go_wp2_with (fail)
   go_region_held3 (fun w'=>w'.cell? ⟨b,off + i * 2,none⟩ = some (.string tx) ∧ w'.cell? ⟨b,off + i * 2 + 1,none⟩ = some (.int .i64 ((q : Int) + 1)))
    (first | assumption | (with_reducible exact held2c_drew hbB hf) | go_keep)
    (first | (go_at_call 59; refine (CM.out _).mono ?_; rintro e wB ⟨rfl,hbB⟩))
   have hBB : Hid (Below w.heap.size w wB):=hidIt (HB.out.drew.trans (hbB.mono (by have:=HB.out.size; simpa using this)))
   have hg : wB.cell? ⟨b,off + i * 2,none⟩ = some (.string tx) ∧ wB.cell? ⟨b,off + i * 2 + 1,none⟩ = some (.int .i64 ((q : Int) + 1)):=by assumption
   obtain ⟨g0,g1⟩:=hg
   clear hbB hf
   have hne : ((q : Int) + 1 != (q : Int) + 1) = false:=by simp
   go_wp2_with (fail)
   refine ⟨⟨i + 1,by simp,?_,by omega,hBB.out⟩,by simp [intOf]; omega⟩
   rw [q3.out]
   congr 1
  ·
   have hin' : ¬ (i : Int) < (n : Int):=by omega
   have ei : i = n:=by omega
   subst ei
   generalize hk : k + 2 * i = q
   go_wp2_with (fail)
   go_ret
   exact ⟨rfl,HB.out⟩
end Go.Proofs.YtgbnkkjjgodilaaGreatDoor.Lg
namespace Go.Proofs.YtgbnkkjjgodilaaGreatDoor.Nd
open Go.ChangeShapes Go.WideShapes Go.ChangeAt Go.RowKit
theorem hidA {p : Prop} (h : p) : Hid p:=h
def apexB (s : ByteArray) : Bool:=Nm.okB s.data.toList && decide (s.size ≠ 0)
theorem txt_empty (s : ByteArray) : (s.toList == []) = decide (s.size = 0):=by
 rw [Go.Lib.toList_data]
 have e : s.data.toList.length = s.size:=by cases s; simp [ByteArray.size]
 cases hl : s.data.toList with
 | nil=>rw [hl] at e; rw [decide_eq_true (by simpa using e.symm)]; rfl
 | cons a b=>rw [hl] at e; rw [decide_eq_false (by simp at e; omega)]; rfl
theorem spec_l17Apex (s : ByteArray) (w : World) : Calls Tryz.prog 43 #[.string s] w fun en w'=>en = .returned (.bool (apexB s)) ∧ Below w.heap.size w w':=by
 have C : Hid (∀ W,Calls Tryz.prog 70 #[.string s] W fun e w'=>e = .returned (.bool (Nm.okB s.data.toList)) ∧ Below W.heap.size W w'):=hidA (fun W=>Nm.spec_NameOk s W)
 have HOK : Hid (apexB s = (Nm.okB s.data.toList && decide (s.size ≠ 0))):=hidA rfl
 have he:=txt_empty s
 generalize Nm.okB s.data.toList = k1 at C HOK
 cases k1 with
 | false =>
  rw [HOK.out,Bool.false_and]
  go_enter Tryz.func43,Tryz.ntmps43
  go_wp2_with (fail)
  refine (C.out _).mono ?_
  rintro en w1 ⟨rfl,kk⟩
  have HB:=hidA kk
  clear kk
  go_wp2_with (fail)
  go_ret
  exact ⟨rfl,HB.out⟩
 | true =>
  rw [HOK.out,Bool.true_and]
  by_cases h0 : s.size = 0
  ·
   rw [decide_eq_true h0] at he
   rw [decide_eq_false (p:=s.size ≠ 0) (by omega)]
   clear h0 HOK
   go_enter Tryz.func43,Tryz.ntmps43
   go_wp2_with (fail)
   refine (C.out _).mono ?_
   rintro en w1 ⟨rfl,kk⟩
   have HB:=hidA kk
   clear kk
   go_wp2_with (fail)
   go_ret
   exact ⟨rfl,HB.out⟩
  ·
   rw [decide_eq_false h0] at he
   rw [decide_eq_true (p:=s.size ≠ 0) h0]
   clear h0 HOK
   go_enter Tryz.func43,Tryz.ntmps43
   go_wp2_with (fail)
   refine (C.out _).mono ?_
   rintro en w1 ⟨rfl,kk⟩
   have HB:=hidA kk
   clear kk
   go_wp2_with (fail)
   go_ret
   exact ⟨rfl,HB.out⟩
end Go.Proofs.YtgbnkkjjgodilaaGreatDoor.Nd
namespace Go.Proofs.YtgbnkkjjgodilaaGreatDoor.Nd
open Go.ChangeShapes Go.WideShapes Go.ChangeAt Go.RowKit
theorem impl_hasLabels (s : ByteArray) (w : World) : Calls Tryz.prog 81 #[.string s] w fun en w'=>en = .returned (.bool (apexB s)) ∧ Below w.heap.size w w':=by
 have C : Hid (∀ W,Calls Tryz.prog 110 #[.string s] W fun e w'=>e = .returned (.bool (Nm.okB s.data.toList)) ∧ Below W.heap.size W w'):=hidA (fun W=>Nm.impl_NameOk s W)
 have HOK : Hid (apexB s = (Nm.okB s.data.toList && decide (s.size ≠ 0))):=hidA rfl
 have he:=txt_empty s
 generalize Nm.okB s.data.toList = k1 at C HOK
 by_cases h0 : s.size = 0
 ·
  rw [decide_eq_true h0] at he
  rw [HOK.out,decide_eq_false (p:=s.size ≠ 0) (by omega),Bool.and_false]
  clear h0 HOK
  go_enter Tryz.func81,Tryz.ntmps81
  go_wp2_with (fail)
  go_ret
  exact ⟨rfl,Below.refl _ _⟩
 ·
  rw [decide_eq_false h0] at he
  rw [HOK.out,decide_eq_true (p:=s.size ≠ 0) h0,Bool.and_true]
  clear h0 HOK
  go_enter Tryz.func81,Tryz.ntmps81
  go_wp2_with (fail)
  refine (C.out _).mono ?_
  rintro en w1 ⟨rfl,kk⟩
  have HB:=hidA kk
  clear kk
  go_wp2_with (fail)
  go_ret
  exact ⟨rfl,HB.out⟩
end Go.Proofs.YtgbnkkjjgodilaaGreatDoor.Nd
