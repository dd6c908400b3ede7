/- l15Draw and Drawn of the specification. (Written by wip/mkBuW.py.) -/
import Derived.Test.YtgbnkkjjgodilaaGreatDoorBun4
import Derived.Test.YtgbnkkjjgodilaaGreatDoorBun13
import Derived.Test.YtgbnkkjjgodilaaGreatDoorBoxM
import Derived.Test.YtgbnkkjjgodilaaGreatDoorQuiet
import Derived.WalkMore
import Derived.Laws.OwnMore
import Derived.Test.YtgbnkkjjgodilaaGreatDoorRollM
import Derived.Test.YtgbnkkjjgodilaaGreatDoorBun3
import Derived.Handy
set_option maxRecDepth 100000
set_option maxHeartbeats 32000000
set_option linter.unusedVariables false
namespace Go.Proofs.YtgbnkkjjgodilaaGreatDoor.Bu
open Go.ChangeShapes Go.WideShapes Go.ChangeAt Go.RowKit
open Rg (upd waits wp_region_inv op_at)
end Go.Proofs.YtgbnkkjjgodilaaGreatDoor.Bu
namespace Go.Proofs.YtgbnkkjjgodilaaGreatDoor.Bu
open Go.ChangeShapes Go.WideShapes Go.ChangeAt Go.RowKit
open Rc (BelowBy BelowBy.one wp_region_below calls_below calls_same)
theorem impl_sourceOk (n : Int) (w : World) : Calls Tryz.prog 127 #[.int .i64 n] w fun e w'=>e = .returned (.bool (inB n 0 99)) ∧ w' = w:=by
 unfold inB
 by_cases h : (0 : Int) ≤ n
 ·
  have h' : decide ((0 : Int) ≤ n) = true:=decide_eq_true h
  rw [h',Bool.true_and]
  go_enter Tryz.func127,Tryz.ntmps127
  go_wp2
  go_ret
  exact ⟨rfl,rfl⟩
 ·
  have h' : decide ((0 : Int) ≤ n) = false:=decide_eq_false h
  rw [h',Bool.false_and]
  go_enter Tryz.func127,Tryz.ntmps127
  go_wp2
  go_ret
  exact ⟨rfl,rfl⟩
theorem impl_timeOk (n : Int) (w : World) : Calls Tryz.prog 22 #[.int .i64 n] w fun e w'=>e = .returned (.bool (inB n 0 1000000)) ∧ w' = w:=by
 unfold inB
 by_cases h : (0 : Int) ≤ n
 ·
  have h' : decide ((0 : Int) ≤ n) = true:=decide_eq_true h
  rw [h',Bool.true_and]
  go_enter Tryz.func22,Tryz.ntmps22
  go_wp2
  go_ret
  exact ⟨rfl,rfl⟩
 ·
  have h' : decide ((0 : Int) ≤ n) = false:=decide_eq_false h
  rw [h',Bool.false_and]
  go_enter Tryz.func22,Tryz.ntmps22
  go_wp2
  go_ret
  exact ⟨rfl,rfl⟩
theorem impl_bucketOk (x : Rw) (w : World) : Calls Tryz.prog 107 #[rv x] w fun e w'=>e = .returned (.bool (okX x)) ∧ Below w.heap.size w w':=by
 obtain ⟨x0,x1,x2⟩:=x
 have C1:=hidIt (fun n W=>impl_sourceOk n W)
 have C2:=hidIt (fun n W=>impl_timeOk n W)
 have HB:=hidIt ((Below.refl w.heap.size w).alloc (Nat.le_refl _) (.cells #[.int .i64 x0,.int .i64 x1,.int .i64 x2] 102))
 have BX:=hidIt (Bo.Box.new w #[.int .i64 x0,.int .i64 x1,.int .i64 x2] 102)
 have hr : okX (x0,x1,x2) = (inB x0 0 99 && ((decide (0 ≤ x1) && decide (x1 ≤ 5)) && inB x2 0 1000000)):=rfl
 rw [hr]
 clear hr
 have c0:=BX.out.c 0 rfl
 have c1:=BX.out.c 1 rfl
 have c2:=BX.out.c 2 rfl
 cases hk : inB x0 0 99 with
 | false =>
  go_enter Tryz.func107,Tryz.ntmps107
  go_wp2_with (first | (go_at_call 127; refine (C1.out _ _).mono ?_; rintro e w' ⟨rfl,ew⟩; rw [ew,hk]; clear ew w') | fail)
  go_ret
  exact ⟨rfl,HB.out⟩
 | true =>
  by_cases h1 : (0 : Int) ≤ x1
  ·
   by_cases h2 : x1 ≤ 5
   ·
    have e1 : decide ((0 : Int) ≤ x1) = true:=decide_eq_true h1
    have e2 : decide (x1 ≤ 5) = true:=decide_eq_true h2
    rw [e1,e2]
    generalize hq : inB x2 0 1000000 = k3
    go_enter Tryz.func107,Tryz.ntmps107
    go_wp2_with (first | (go_at_call 127; refine (C1.out _ _).mono ?_; rintro e w' ⟨rfl,ew⟩; rw [ew,hk]; clear ew w') | (go_at_call 22; refine (C2.out _ _).mono ?_; rintro e w' ⟨rfl,ew⟩; rw [ew,hq]; clear ew w') | fail)
    go_ret
    exact ⟨rfl,HB.out⟩
   ·
    have e1 : decide ((0 : Int) ≤ x1) = true:=decide_eq_true h1
    have e2 : decide (x1 ≤ 5) = false:=decide_eq_false h2
    rw [e1,e2]
    go_enter Tryz.func107,Tryz.ntmps107
    go_wp2_with (first | (go_at_call 127; refine (C1.out _ _).mono ?_; rintro e w' ⟨rfl,ew⟩; rw [ew,hk]; clear ew w') | fail)
    go_ret
    exact ⟨rfl,HB.out⟩
  ·
   have e1 : decide ((0 : Int) ≤ x1) = false:=decide_eq_false h1
   rw [e1]
   go_enter Tryz.func107,Tryz.ntmps107
   go_wp2_with (first | (go_at_call 127; refine (C1.out _ _).mono ?_; rintro e w' ⟨rfl,ew⟩; rw [ew,hk]; clear ew w') | fail)
   go_ret
   exact ⟨rfl,HB.out⟩
theorem impl_BucketsOk (a : Option Addr) (cap : Nat) (L : List Rw) (w : World) (h : Rd w a L) (hl : L.length ≤ 9223372036854775807) :
  Calls Tryz.prog 79 #[.slice a L.length cap] w fun e w'=>e = .returned (.bool (okB L)) ∧ Below w.heap.size w w':=by
 have N1 : Hid (¬ L.length ≤ 20 → okB L = false):=hidIt okB_no1
 have N2 : Hid (∀ i,i < L.length → okX (rat L i) = false → okB L = false):=hidIt (fun i hi h=>okB_no2 hi h)
 have N3 : Hid (∀ i,i + 1 < L.length → ¬ sat L i < sat L (i + 1) → okB L = false):=hidIt (fun i hi h=>okB_no3 hi h)
 have N4 : Hid (L.length ≤ 20 → (∀ i,i < L.length → okX (rat L i) = true) → (∀ i,i + 1 < L.length → sat L i < sat L (i + 1)) → okB L = true):=hidIt okB_yes
 generalize okB L = r at N1 N2 N3 N4 ⊢
 have HR:=hidIt h
 clear h
 generalize hn : L.length = m at *
 have HN:=hidIt hn
 clear hn
 by_cases h80 : m ≤ 20
 ·
  have h80' : ¬ (20 : Int) < (m : Int):=by omega
  go_enter Tryz.func79,Tryz.ntmps79
  go_wp2_with (fail)
  go_loopw [10] (fun y wx=>∃ i : Nat,y = .int .i64 i ∧ i ≤ m ∧ Hid (∀ j,j < i → okX (rat L j) = true) ∧ Hid (∀ j,j + 1 < i → sat L j < sat L (j + 1)) ∧ Hid (Below w.heap.size w wx)) (fun y _=>(m - intOf y).toNat)
  case atStart=>exact ⟨0,rfl,by omega,hidIt (fun j hj=>by omega),hidIt (fun j hj=>by omega),hidIt (Below.refl _ _)⟩
  case round =>
   obtain ⟨i,rfl,hi,HO,HK,HB⟩:=hrel
   by_cases hin : i < m
   ·
    have hin' : (i : Int) < (m : Int):=by omega
    have HRx:=hidIt (HR.out.kept HB.out)
    obtain ⟨b,off,ea,c0,c1,c2⟩:=HRx.out.all (i:=i) (by rw [HN.out]; exact hin)
    subst ea
    have CB:=hidIt (fun W=>impl_bucketOk (rat L i) W)
    obtain ⟨ok,hok⟩ : ∃ ok,okX (rat L i) = ok:=⟨_,rfl⟩
    have HOK:=hidIt hok
    rw [hok] at CB
    clear hok
    have hkey : Hid (sat L i = (rat L i).1):=hidIt rfl
    generalize rat L i = x at c0 c1 c2 CB hkey
    obtain ⟨x0,x1,x2⟩:=x
    simp only at c0 c1 c2 CB hkey
    have BX:=hidIt (Bo.Box.new wr #[.int .i64 x0,.int .i64 x1,.int .i64 x2] 102)
    have HBz:=hidIt (HB.out.alloc HB.out.size (.cells #[.int .i64 x0,.int .i64 x1,.int .i64 x2] 102))
    have HRz:=hidIt (HRx.out.alloc (.cells #[.int .i64 x0,.int .i64 x1,.int .i64 x2] 102))
    cases ok with
    | false =>
     have er:=N2.out i hin HOK.out
     subst er
     go_wp2_with (fail)
     generalize wr.alloc (.cells #[.int .i64 x0,.int .i64 x1,.int .i64 x2] 102) = wz at BX HBz HRz ⊢
     haveI:=BelowBy.one wz
     have g0:=fun p : BelowBy wz=>p.cell (BX.out.c 0 rfl)
     have g1:=fun p : BelowBy wz=>p.cell (BX.out.c 1 rfl)
     have g2:=fun p : BelowBy wz=>p.cell (BX.out.c 2 rfl)
     refine wp_region_below (by kernel_rfl) (by kernel_rfl) ?_
     repeat (go_big_quiet_step (first | (go_at_call 107; refine calls_below (CB.out _))))
     refine wpQuiet_nil ?_
     intro _ hw'
     obtain ⟨pq,rfl⟩:=hw'
     have HB1:=hidIt (HBz.out.trans (pq.h.mono HBz.out.size))
     generalize pq.world = w2 at HB1 ⊢
     clear g0 g1 g2
     go_wp2_with (fail)
     go_ret
     exact ⟨rfl,HB1.out⟩
    | true =>
     have HO' : Hid (∀ j,j < i + 1 → okX (rat L j) = true):=hidIt (fun j hj=>by
      rcases Nat.lt_succ_iff_lt_or_eq.1 hj with h | h
      ·
       exact HO.out j h
      ·
       subst h; exact HOK.out)
     rcases Nat.eq_zero_or_pos i with hz | hp
     ·
      subst hz
      simp only [Nat.zero_mul,Nat.add_zero] at c0 c1 c2
      go_wp2_with (fail)
      generalize wr.alloc (.cells #[.int .i64 x0,.int .i64 x1,.int .i64 x2] 102) = wz at BX HBz HRz ⊢
      haveI:=BelowBy.one wz
      have g0:=fun p : BelowBy wz=>p.cell (BX.out.c 0 rfl)
      have g1:=fun p : BelowBy wz=>p.cell (BX.out.c 1 rfl)
      have g2:=fun p : BelowBy wz=>p.cell (BX.out.c 2 rfl)
      refine wp_region_below (by kernel_rfl) (by kernel_rfl) ?_
      repeat (go_big_quiet_step (first | (go_at_call 107; refine calls_below (CB.out _))))
      refine wpQuiet_nil ?_
      intro _ hw'
      obtain ⟨pq,rfl⟩:=hw'
      have HB1:=hidIt (HBz.out.trans (pq.h.mono HBz.out.size))
      generalize pq.world = w2 at HB1 ⊢
      clear g0 g1 g2
      go_wp2_with (fail)
      exact ⟨⟨1,by simp,by omega,HO',hidIt (fun j hj=>by omega),HB1⟩,by simp [intOf]; omega⟩
     ·
      obtain ⟨j,rfl⟩ : ∃ j,i = j + 1:=⟨i - 1,by omega⟩
      have hpos : (0 : Int) < ((j : Int) + 1):=by omega
      have hj8 : (j : Int) ≤ 20:=by omega
      have hj0 : (0 : Int) ≤ (j : Int):=by omega
      obtain ⟨pk,epk⟩ : ∃ pk,(rat L j).1 = pk:=⟨_,rfl⟩
      have hkj : Hid (sat L j = pk):=hidIt epk
      have EPK:=hidIt epk
      clear epk
      go_wp2_with (fail)
      generalize wr.alloc (.cells #[.int .i64 x0,.int .i64 x1,.int .i64 x2] 102) = wz at BX HBz HRz ⊢
      haveI:=BelowBy.one wz
      have g0:=fun p : BelowBy wz=>p.cell (BX.out.c 0 rfl)
      have g1:=fun p : BelowBy wz=>p.cell (BX.out.c 1 rfl)
      have g2:=fun p : BelowBy wz=>p.cell (BX.out.c 2 rfl)
      obtain ⟨b',off',ea2,q0,_⟩:=HRz.out.all (i:=j) (by rw [HN.out]; omega)
      cases ea2
      rw [EPK.out] at q0
      have k0:=fun p : BelowBy wz=>p.cell q0
      clear q0
      by_cases hlt : pk < x0
      ·
       have hd : decide (x0 ≤ pk) = false:=decide_eq_false (by omega)
       have HK' : Hid (∀ q,q + 1 < j + 1 + 1 → sat L q < sat L (q + 1)):=hidIt (fun q hq=>by
        rcases Nat.lt_succ_iff_lt_or_eq.1 (show q + 1 < j + 1 + 1 from hq) with h | h
        ·
         exact HK.out q h
        ·
         have : q = j:=by omega
         subst this
         rw [hkj.out,hkey.out]
         exact hlt)
       clear hlt
       refine wp_region_below (by kernel_rfl) (by kernel_rfl) ?_
       repeat (go_big_quiet_step (first | (go_at_call 107; refine calls_below (CB.out _))))
       refine wpQuiet_nil ?_
       intro _ hw'
       obtain ⟨pq,rfl⟩:=hw'
       have HB1:=hidIt (HBz.out.trans (pq.h.mono HBz.out.size))
       generalize pq.world = w2 at HB1 ⊢
       clear g0 g1 g2 k0
       go_wp2_with (fail)
       exact ⟨⟨j + 1 + 1,by simp,by omega,HO',HK',HB1⟩,by simp [intOf]; omega⟩
      ·
       have er:=N3.out j (by omega) (by rw [hkj.out,hkey.out]; omega)
       have hd : decide (x0 ≤ pk) = true:=decide_eq_true (by omega)
       subst er
       clear hlt
       refine wp_region_below (by kernel_rfl) (by kernel_rfl) ?_
       repeat (go_big_quiet_step (first | (go_at_call 107; refine calls_below (CB.out _))))
       refine wpQuiet_nil ?_
       intro _ hw'
       obtain ⟨pq,rfl⟩:=hw'
       have HB1:=hidIt (HBz.out.trans (pq.h.mono HBz.out.size))
       generalize pq.world = w2 at HB1 ⊢
       clear g0 g1 g2 k0
       go_wp2_with (fail)
       go_ret
       exact ⟨rfl,HB1.out⟩
   ·
    have hin' : ¬ (i : Int) < (m : Int):=by omega
    have HI : Hid (i = m):=hidIt (by omega)
    have er:=N4.out h80 (fun j hj=>HO.out j (by have:=HI.out; omega)) (fun j hj=>HK.out j (by have:=HI.out; omega))
    subst er
    go_wp2_with (fail)
    go_ret
    exact ⟨rfl,HB.out⟩
 ·
  have h80' : (20 : Int) < (m : Int):=by omega
  have er:=N1.out h80
  subst er
  go_enter Tryz.func79,Tryz.ntmps79
  go_wp2
  go_ret
  exact ⟨rfl,Below.refl _ _⟩
end Go.Proofs.YtgbnkkjjgodilaaGreatDoor.Bu
namespace Go.Proofs.YtgbnkkjjgodilaaGreatDoor.Rg
open Go.ChangeShapes Go.WideShapes Go.ChangeAt Go.RowKit
theorem no1 {P : Prop} {b : Bool} (n : b = false) (q : b = true) : P:=by rw [n] at q; cases q
theorem step_row {P : Program} {ops : Array Oper} {o : Oper} {a : Act} {w : World} {K : Act → World → Prop} {Q : Exit → Act → World → Prop} {E : Prop}
  (hg : o.guard = none) (s x : Operand) (t : TypeId) (hop : o.op = Op.call { callee:=Callee.builtin Builtin.append,args:=#[s,x],argTypes:=#[t,t] })
  (e : TypeId) (i : TypeInfo) (z : Value) (size bytes : Nat) (h1 : P.underlying t = some (.slice e)) (h2 : P.info? e = some i) (h3 : i.zero = some z) (h4 : i.size = size) (h5 : i.bytes = bytes) (h6 : z.cells.size = size) (h7 : 0 < size)
  (base : Nat) (v : Value) (n : Nat) (xs : List Value) (hs : a.eval s = v) (hown : w.ownsRow base e size v n xs)
  (ad : Addr) (m c : Nat) (news : List Value) (hx : a.eval x = .slice (some ad) m c) (hl : news.length = m * size) (hc : ∀ j u,news[j]? = some u → w.cell? (ad.add j) = some u) (h1c : ∀ u ∈ news,u.oneCell' = true)
  (b1 : n + m ≤ maxLen) (b2 : (n + m) * bytes ≤ 140737488355328) (hb : base ≤ w.heap.size)
  (hK : ∀ v' w',w'.ownsRow base e size v' (n + m) (xs ++ news) → w.grownBy w' v.ownBlock → (v' = .slice none 0 0 ↔ v = .slice none 0 0 ∧ m = 0) → K (a.put o.dst v') w') :
  if Region.wanted o (yielded ops a.tmps) = true then Oper.wp P o a w K Q else E:=by
 have hw : Region.wanted o (yielded ops a.tmps) = true:=by simp [Region.wanted,hg]
 rw [if_pos hw]
 obtain ⟨v',w',hrun,r1,r2,r3⟩:=run_append_own (P:=P) w base t o.type e i z size bytes h1 h2 h3 h4 h5 h6 h7 v n xs hown ad m c news hl hc h1c b1 b2 hb
 unfold Oper.wp
 simp [execOp,hop,resolve,invoke,builtin,hs,hx,hrun,Result.andThen]
 exact hK v' w' r1 r2 r3
theorem step_copy {P : Program} {ops : Array Oper} {o : Oper} {a : Act} {w : World} {K : Act → World → Prop} {Q : Exit → Act → World → Prop} {E : Prop}
  (hg : o.guard = none) (s x : Operand) (t : TypeId) (hop : o.op = Op.call { callee:=Callee.builtin Builtin.append,args:=#[s,x],argTypes:=#[t,t] })
  (e : TypeId) (i : TypeInfo) (z : Value) (size bytes : Nat) (h1 : P.underlying t = some (.slice e)) (h2 : P.info? e = some i) (h3 : i.zero = some z) (h4 : i.size = size) (h5 : i.bytes = bytes) (h6 : z.cells.size = size) (h7 : 0 < size)
  (base g : Nat) (hs : a.eval s = .slice (some ⟨g,0,none⟩) 0 0) (hown : w.ownsRow base e size (.slice (some ⟨g,0,none⟩) 0 0) 0 [])
  (ao : Option Addr) (m c : Nat) (news : List Value) (hx : a.eval x = .slice ao m c) (hna : ao = none → m = 0 ∧ c = 0) (hl : news.length = m * size) (hc : ∀ ad,ao = some ad → ∀ j u,news[j]? = some u → w.cell? (ad.add j) = some u) (h1c : ∀ u ∈ news,u.oneCell' = true)
  (b1 : m ≤ maxLen) (b2 : m * bytes ≤ 140737488355328) (hb : base ≤ w.heap.size)
  (hK : ∀ v' w',w'.ownsRow base e size v' m news → w.grownBy w' (some g) → (∃ g' c',v' = .slice (some ⟨g',0,none⟩) m c') → K (a.put o.dst v') w') :
  if Region.wanted o (yielded ops a.tmps) = true then Oper.wp P o a w K Q else E:=by
 have hw : Region.wanted o (yielded ops a.tmps) = true:=by simp [Region.wanted,hg]
 rw [if_pos hw]
 cases ao with
 | some ad =>
  obtain ⟨v',w',hrun,r1,r2,r3⟩:=run_append_own (P:=P) w base t o.type e i z size bytes h1 h2 h3 h4 h5 h6 h7 _ 0 [] hown ad m c news hl (hc ad rfl) h1c (by omega) (by rw [Nat.zero_add]; exact b2) hb
  rw [Nat.zero_add,List.nil_append] at r1
  unfold Oper.wp
  simp [execOp,hop,resolve,invoke,builtin,hs,hx,hrun,Result.andThen]
  refine hK v' w' r1 r2 ?_
  rcases r1.2 with ⟨e1,_⟩ | ⟨g',c',cur,e1,_⟩
  ·
   have:=(r3.1 e1).1
   cases this
  ·
   exact ⟨g',c',e1⟩
 | none =>
  obtain ⟨rfl,rfl⟩:=hna rfl
  have hn : news = []:=List.eq_nil_of_length_eq_zero (by rw [hl,Nat.zero_mul])
  subst hn
  have hrun:=run_append_owned_none (P:=P) (w:=w) base t o.type e i size h1 h2 _ 0 [] hown
  unfold Oper.wp
  simp [execOp,hop,resolve,invoke,builtin,hs,hx,hrun,Result.andThen]
  exact hK _ w hown ⟨rfl,rfl,rfl,Nat.le_refl _,fun _ _ _=>rfl⟩ ⟨_,_,rfl⟩
theorem box_grown {w w' : World} {b : Nat} {c : Array Value} {r : Option Nat} (h : Bo.Box w b c) (k : w.grownBy w' r) (hr : r ≠ some b) : Bo.Box w' b c :=
 ⟨Nat.lt_of_lt_of_le h.lt k.size,fun i=>by rw [World.cell?_of_block (w:=w) (k.block b h.lt (Ne.symm hr))]; exact h.at' i,fun i=>by rw [World.frozen?_of_block (w:=w) (k.block b h.lt (Ne.symm hr))]; exact h.fr i⟩
theorem below_grown {w w' : World} {B : Nat} {W : World} {r : Option Nat} (h : Below B W w) (k : w.grownBy w' r) (hs : B ≤ w.heap.size) (hr : ∀ g,r = some g → B ≤ g) : Below B W w' :=
 h.trans ⟨k.os,k.tape,k.output,k.size,fun i hi=>k.block i (by omega) (fun e=>by have:=hr i e.symm; omega)⟩
theorem below_only {w w' : World} {B c : Nat} {W : World} (h : Below B W w) (k : Only c w w') (hs : B ≤ w.heap.size) (hc : B ≤ c) : Below B W w' :=
 h.trans ⟨k.os,k.tape,k.output,k.size,fun i hi=>k.block i (by omega) (fun e=>by omega)⟩
theorem row_grown {w w' : World} {b e s n : Nat} {u : Value} {xs : List Value} {r : Option Nat} (hu : w.ownsRow b e s u n xs) (k : w.grownBy w' r) (hd : ∀ g,u.ownBlock = some g → r ≠ some g) : w'.ownsRow b e s u n xs:=by
 refine World.ownsRow.kept hu k ?_
 cases hub : u.ownBlock with
 | none=>exact .inl rfl
 | some g=>exact .inr (fun e=>hd g hub e.symm)
theorem row_only {w w' : World} {b e s n c : Nat} {u : Value} {xs : List Value} (hu : w.ownsRow b e s u n xs) (k : Only c w w') (hd : ∀ g,u.ownBlock = some g → g ≠ c) : w'.ownsRow b e s u n xs :=
 row_grown hu (r:=some c) ⟨k.os,k.tape,k.output,k.size,fun i hi hne=>k.block i hi (fun e=>hne (by rw [e]))⟩ (fun g hg e=>hd g hg (Option.some.inj e).symm)
theorem box_only {w w' : World} {b : Nat} {c : Array Value} {d : Nat} (h : Bo.Box w b c) (k : Only d w w') (hr : b ≠ d) : Bo.Box w' b c :=
 box_grown h (r:=some d) ⟨k.os,k.tape,k.output,k.size,fun i hi hne=>k.block i hi (fun e=>hne (by rw [e]))⟩ (fun e=>hr (Option.some.inj e).symm)
def One (lo : Nat) (c : Array Value) (u : Value) (W : World) : Prop:=∃ bl,u = .slice (some ⟨bl,0,none⟩) 1 1 ∧ lo ≤ bl ∧ Bo.Box W bl c
theorem One.new {W : World} {lo : Nat} (c : Array Value) (T : TypeId) (h : lo ≤ W.heap.size) : One lo c (.slice (some ⟨W.heap.size,0,none⟩) 1 1) (W.alloc (.cells c T)):=⟨_,rfl,h,Bo.Box.new W c T⟩
def Mt (lo : Nat) (T : TypeId) (size : Nat) (u : Value) (W : World) : Prop:=∃ g,u = .slice (some ⟨g,0,none⟩) 0 0 ∧ W.ownsRow lo T size u 0 []
theorem Mt.new {W : World} {lo : Nat} (T : TypeId) (size : Nat) (h : lo ≤ W.heap.size) : Mt lo T size (.slice (some ⟨W.heap.size,0,none⟩) 0 0) (W.alloc (.cells #[] T)):=⟨_,rfl,World.ownsRow_made W #[] 0 h (by decide) (by simp)⟩
theorem Mt.kept {W W' : World} {lo size : Nat} {T : TypeId} {u : Value} (h : Mt lo T size u W) (k : Below W.heap.size W W') : Mt lo T size u W':=by
 obtain ⟨g,e,o⟩:=h
 exact ⟨g,e,row_grown (r:=none) o ⟨k.os,k.tape,k.output,k.size,fun i hi _=>k.block i hi⟩ (fun _ _ z=>by cases z)⟩
theorem Mt.grown {W W' : World} {lo size : Nat} {T : TypeId} {u : Value} {r : Option Nat} (h : Mt lo T size u W) (k : W.grownBy W' r) (hr : ∀ g,u.ownBlock = some g → r ≠ some g) : Mt lo T size u W':=by
 obtain ⟨g,e,o⟩:=h
 exact ⟨g,e,row_grown o k hr⟩
theorem box_cells {w : World} {bl : Nat} {c : Array Value} (x : Bo.Box w bl c) : ∀ j u,c.toList[j]? = some u → w.cell? ((⟨bl,0,none⟩ : Addr).add j) = some u:=by
 intro j u hj
 have:=x.at' j
 rw [Go.WideShapes.add_plain]
 simp only [Nat.zero_add]
 rw [this]
 simpa using hj
end Go.Proofs.YtgbnkkjjgodilaaGreatDoor.Rg
namespace Go.Proofs.YtgbnkkjjgodilaaGreatDoor.Ro
open Go.ChangeShapes Go.WideShapes Go.ChangeAt Go.RowKit
end Go.Proofs.YtgbnkkjjgodilaaGreatDoor.Ro
namespace Go.Proofs.YtgbnkkjjgodilaaGreatDoor.Nn
open Go.ChangeShapes Go.WideShapes Go.ChangeAt Go.RowKit
end Go.Proofs.YtgbnkkjjgodilaaGreatDoor.Nn
