/- The program's MembersOk, Stronger, the copy. -/
import Derived.Test.YtgbnkkjjgodilaaGreatDoorBun11
import Derived.Deep.LoopGhost
import Derived.Shelf.Abstract
import Derived.Laws.EntriesVeiled
set_option maxRecDepth 100000
set_option maxHeartbeats 32000000
set_option linter.unusedVariables false
namespace Go.Proofs.YtgbnkkjjgodilaaGreatDoor.Mm
open Go.ChangeShapes Go.WideShapes Go.ChangeAt Go.RowKit
open Rc (BelowBy BelowBy.one wp_region_below calls_below calls_same)
open Mk (okE newB okBk look Ris IsJoin mergeB)
theorem impl_memberIdOk (n : Int) (w : World) : Calls Tryz.prog 145 #[.int .i64 n] w fun e w'=>e = .returned (.bool (inB n 0 7)) ∧ w' = w:=by
 unfold inB
 rw [show decide (n ≤ 7) = decide (n < 8) from decide_eq_decide.2 (by omega)]
 by_cases h : 0 ≤ n
 ·
  have h' : decide ((0 : Int) ≤ n) = true:=decide_eq_true h
  rw [h',Bool.true_and]
  go_enter Tryz.func145,Tryz.ntmps145
  go_wp2
  go_ret
  exact ⟨rfl,rfl⟩
 ·
  have h' : decide ((0 : Int) ≤ n) = false:=decide_eq_false h
  rw [h',Bool.false_and]
  go_enter Tryz.func145,Tryz.ntmps145
  go_wp2
  go_ret
  exact ⟨rfl,rfl⟩
theorem impl_timeOk (n : Int) (w : World) : Calls Tryz.prog 22 #[.int .i64 n] w fun e w'=>e = .returned (.bool (inB n 0 1000000)) ∧ w' = w:=by
 unfold inB
 by_cases h : 0 ≤ n
 ·
  have h' : decide ((0 : Int) ≤ n) = true:=decide_eq_true h
  rw [h',Bool.true_and]
  go_enter Tryz.func22,Tryz.ntmps22
  go_wp2
  go_ret
  exact ⟨rfl,rfl⟩
 ·
  have h' : decide ((0 : Int) ≤ n) = false:=decide_eq_false h
  rw [h',Bool.false_and]
  go_enter Tryz.func22,Tryz.ntmps22
  go_wp2
  go_ret
  exact ⟨rfl,rfl⟩
theorem impl_memberOk (x : Rw) (w : World) : Calls Tryz.prog 125 #[rv x] w fun e w'=>e = .returned (.bool (okE (toE x))) ∧ Below w.heap.size w w':=by
 rw [okE_eq]
 obtain ⟨a,b,c⟩:=x
 simp only
 have C1:=hidIt (fun W=>impl_memberIdOk a W)
 have C2:=hidIt (fun W=>impl_timeOk b W)
 generalize inB a 0 7 = k1 at C1 ⊢
 generalize inB b 0 1000000 = k2 at C2 ⊢
 unfold inB
 have HB:=hidIt ((Below.refl w.heap.size w).alloc (Nat.le_refl _) (.cells #[.int .i64 a,.int .i64 b,.int .i64 c] 100))
 cases k1 with
 | false =>
  rw [Bool.false_and]
  go_enter Tryz.func125,Tryz.ntmps125
  go_wp2_with (fail)
  refine (C1.out _).mono ?_
  rintro e w1 ⟨rfl,rfl⟩
  go_wp2_with (fail)
  go_ret
  exact ⟨rfl,HB.out⟩
 | true =>
  rw [Bool.true_and]
  cases k2 with
  | false =>
   rw [Bool.false_and]
   go_enter Tryz.func125,Tryz.ntmps125
   go_wp2_with (fail)
   refine (C1.out _).mono ?_
   rintro e w1 ⟨rfl,rfl⟩
   go_wp2_with (fail)
   refine (C2.out _).mono ?_
   rintro e w1 ⟨rfl,rfl⟩
   go_wp2_with (fail)
   go_ret
   exact ⟨rfl,HB.out⟩
  | true =>
   rw [Bool.true_and]
   by_cases h : 0 ≤ c
   ·
    have h' : decide ((0 : Int) ≤ c) = true:=decide_eq_true h
    rw [h',Bool.true_and]
    go_enter Tryz.func125,Tryz.ntmps125
    go_wp2_with (fail)
    refine (C1.out _).mono ?_
    rintro e w1 ⟨rfl,rfl⟩
    go_wp2_with (fail)
    refine (C2.out _).mono ?_
    rintro e w1 ⟨rfl,rfl⟩
    go_wp2_with (fail)
    go_ret
    exact ⟨rfl,HB.out⟩
   ·
    have h' : decide ((0 : Int) ≤ c) = false:=decide_eq_false h
    rw [h',Bool.false_and]
    go_enter Tryz.func125,Tryz.ntmps125
    go_wp2_with (fail)
    refine (C1.out _).mono ?_
    rintro e w1 ⟨rfl,rfl⟩
    go_wp2_with (fail)
    refine (C2.out _).mono ?_
    rintro e w1 ⟨rfl,rfl⟩
    go_wp2_with (fail)
    go_ret
    exact ⟨rfl,HB.out⟩
theorem book_all {L : List Rw} (h2 : ∀ i,i < L.length → okE (toE (rat L i)) = true) (h3 : ∀ i,i + 1 < L.length → kat L i < kat L (i + 1)) : okBk (toB L) = true:=by
 have hr:=ris_of h3
 refine book_yes ?_ h2 h3
 have:=Mk.ris_short (toB L) 0 hr (fun e he=>by
  obtain ⟨x,hx,rfl⟩:=List.mem_map.1 he
  obtain ⟨i,hi,rfl⟩:=List.mem_iff_getElem.1 hx
  have:=h2 i hi
  rw [rat_at hi] at this
  exact Mk.okE_key this)
 rw [List.length_map] at this
 exact this
theorem impl_MembersOk (a : Option Addr) (cap : Nat) (L : List Rw) (w : World) (h : Rd w a L) (hl : L.length ≤ 9223372036854775807) :
  Calls Tryz.prog 105 #[.slice a L.length cap] w fun e w'=>e = .returned (.bool (okBk (toB L))) ∧ Below w.heap.size w w':=by
 have N2 : Hid (∀ i,i < L.length → okE (toE (rat L i)) = false → okBk (toB L) = false):=hidIt (fun i hi h=>book_no2 hi h)
 have N3 : Hid (∀ i,i + 1 < L.length → ¬ kat L i < kat L (i + 1) → okBk (toB L) = false):=hidIt (fun i hi h=>book_no3 hi h)
 have N4 : Hid ((∀ i,i < L.length → okE (toE (rat L i)) = true) → (∀ i,i + 1 < L.length → kat L i < kat L (i + 1)) → okBk (toB L) = true):=hidIt book_all
 generalize okBk (toB L) = r at N2 N3 N4 ⊢
 have HR:=hidIt h
 clear h
 generalize hn : L.length = m at *
 have HN:=hidIt hn
 clear hn
 go_enter Tryz.func105,Tryz.ntmps105
 go_wp2_with (fail)
 go_loopw [7] (fun y wx=>∃ i : Nat,y = .int .i64 i ∧ i ≤ m ∧ Hid (∀ j,j < i → okE (toE (rat L j)) = true) ∧ Hid (∀ j,j + 1 < i → kat L j < kat L (j + 1)) ∧ Hid (Below w.heap.size w wx)) (fun y _=>(m - intOf y).toNat)
 case atStart=>exact ⟨0,rfl,by omega,hidIt (fun j hj=>by omega),hidIt (fun j hj=>by omega),hidIt (Below.refl _ _)⟩
 case round =>
  obtain ⟨i,rfl,hi,HO,HK,HB⟩:=hrel
  by_cases hin : i < m
  ·
   have hin' : (i : Int) < (m : Int):=by omega
   have HRx:=hidIt (HR.out.kept HB.out)
   obtain ⟨b,off,ea,c0,c1,c2⟩:=HRx.out.all (i:=i) (by rw [HN.out]; exact hin)
   subst ea
   have CE:=hidIt (fun W=>impl_memberOk (rat L i) W)
   obtain ⟨ok,hok⟩ : ∃ ok,okE (toE (rat L i)) = ok:=⟨_,rfl⟩
   rw [hok] at CE
   have HOK:=hidIt hok
   clear hok
   have hkey : Hid (kat L i = (rat L i).1):=hidIt rfl
   generalize rat L i = x at c0 c1 c2 CE hkey
   obtain ⟨xi,xt,xs⟩:=x
   simp only [rv] at c0 c1 c2 CE hkey
   have BX:=hidIt (Bo.Box.new wr #[.int .i64 xi,.int .i64 xt,.int .i64 xs] 100)
   have HBz:=hidIt (HB.out.alloc HB.out.size (.cells #[.int .i64 xi,.int .i64 xt,.int .i64 xs] 100))
   have HRz:=hidIt (HRx.out.alloc (.cells #[.int .i64 xi,.int .i64 xt,.int .i64 xs] 100))
   cases ok with
   | false =>
    have er:=N2.out i hin HOK.out
    subst er
    go_wp2_with (fail)
    generalize wr.alloc (.cells #[.int .i64 xi,.int .i64 xt,.int .i64 xs] 100) = wz at BX HBz HRz ⊢
    haveI:=BelowBy.one wz
    have g0:=fun p : BelowBy wz=>p.cell (BX.out.c 0 rfl)
    have g1:=fun p : BelowBy wz=>p.cell (BX.out.c 1 rfl)
    have g2:=fun p : BelowBy wz=>p.cell (BX.out.c 2 rfl)
    refine wp_region_below (by kernel_rfl) (by kernel_rfl) ?_
    repeat (go_big_quiet_step (first | (go_at_call 125; refine calls_below (CE.out _))))
    refine wpQuiet_nil ?_
    intro _ hw'
    obtain ⟨pq,rfl⟩:=hw'
    have HB1:=hidIt (HBz.out.trans (pq.h.mono HBz.out.size))
    generalize pq.world = w2 at HB1 ⊢
    clear g0 g1 g2
    go_wp2_with (fail)
    go_ret
    exact ⟨rfl,HB1.out⟩
   | true =>
    have HO' : Hid (∀ j,j < i + 1 → okE (toE (rat L j)) = true):=hidIt (fun j hj=>by
     rcases Nat.lt_succ_iff_lt_or_eq.1 hj with h | h
     ·
      exact HO.out j h
     ·
      subst h; exact HOK.out)
    rcases Nat.eq_zero_or_pos i with hz | hp
    ·
     subst hz
     simp only [Nat.zero_mul,Nat.add_zero] at c0 c1 c2
     go_wp2_with (fail)
     generalize wr.alloc (.cells #[.int .i64 xi,.int .i64 xt,.int .i64 xs] 100) = wz at BX HBz HRz ⊢
     haveI:=BelowBy.one wz
     have g0:=fun p : BelowBy wz=>p.cell (BX.out.c 0 rfl)
     have g1:=fun p : BelowBy wz=>p.cell (BX.out.c 1 rfl)
     have g2:=fun p : BelowBy wz=>p.cell (BX.out.c 2 rfl)
     refine wp_region_below (by kernel_rfl) (by kernel_rfl) ?_
     repeat (go_big_quiet_step (first | (go_at_call 125; refine calls_below (CE.out _))))
     refine wpQuiet_nil ?_
     intro _ hw'
     obtain ⟨pq,rfl⟩:=hw'
     have HB1:=hidIt (HBz.out.trans (pq.h.mono HBz.out.size))
     generalize pq.world = w2 at HB1 ⊢
     clear g0 g1 g2
     go_wp2_with (fail)
     exact ⟨⟨1,by simp,by omega,HO',hidIt (fun j hj=>by omega),HB1⟩,by simp [intOf]; omega⟩
    ·
     obtain ⟨j,rfl⟩ : ∃ j,i = j + 1:=⟨i - 1,by omega⟩
     have hpos : (0 : Int) < ((j : Int) + 1):=by omega
     have hj8 : (j : Int) ≤ 9223372036854775806:=by omega
     have hj0 : (0 : Int) ≤ (j : Int):=by omega
     obtain ⟨pk,epk⟩ : ∃ pk,(rat L j).1 = pk:=⟨_,rfl⟩
     have hkj : Hid (kat L j = pk):=hidIt epk
     have EPK:=hidIt epk
     clear epk
     go_wp2_with (fail)
     generalize wr.alloc (.cells #[.int .i64 xi,.int .i64 xt,.int .i64 xs] 100) = wz at BX HBz HRz ⊢
     haveI:=BelowBy.one wz
     have g0:=fun p : BelowBy wz=>p.cell (BX.out.c 0 rfl)
     have g1:=fun p : BelowBy wz=>p.cell (BX.out.c 1 rfl)
     have g2:=fun p : BelowBy wz=>p.cell (BX.out.c 2 rfl)
     obtain ⟨b',off',ea2,q0,_⟩:=HRz.out.all (i:=j) (by rw [HN.out]; omega)
     cases ea2
     rw [EPK.out] at q0
     have k0:=fun p : BelowBy wz=>p.cell q0
     clear q0
     by_cases hlt : pk < xi
     ·
      have hd : decide (xi ≤ pk) = false:=decide_eq_false (by omega)
      have HK' : Hid (∀ q,q + 1 < j + 1 + 1 → kat L q < kat L (q + 1)):=hidIt (fun q hq=>by
       rcases Nat.lt_succ_iff_lt_or_eq.1 (show q + 1 < j + 1 + 1 from hq) with h | h
       ·
        exact HK.out q h
       ·
        have : q = j:=by omega
        subst this
        rw [hkj.out,hkey.out]
        exact hlt)
      clear hlt
      refine wp_region_below (by kernel_rfl) (by kernel_rfl) ?_
      repeat (go_big_quiet_step (first | (go_at_call 125; refine calls_below (CE.out _))))
      refine wpQuiet_nil ?_
      intro _ hw'
      obtain ⟨pq,rfl⟩:=hw'
      have HB1:=hidIt (HBz.out.trans (pq.h.mono HBz.out.size))
      generalize pq.world = w2 at HB1 ⊢
      clear g0 g1 g2 k0
      go_wp2_with (fail)
      exact ⟨⟨j + 1 + 1,by simp,by omega,HO',HK',HB1⟩,by simp [intOf]; omega⟩
     ·
      have er:=N3.out j (by omega) (by rw [hkj.out,hkey.out]; omega)
      have hd : decide (xi ≤ pk) = true:=decide_eq_true (by omega)
      subst er
      clear hlt
      refine wp_region_below (by kernel_rfl) (by kernel_rfl) ?_
      repeat (go_big_quiet_step (first | (go_at_call 125; refine calls_below (CE.out _))))
      refine wpQuiet_nil ?_
      intro _ hw'
      obtain ⟨pq,rfl⟩:=hw'
      have HB1:=hidIt (HBz.out.trans (pq.h.mono HBz.out.size))
      generalize pq.world = w2 at HB1 ⊢
      clear g0 g1 g2 k0
      go_wp2_with (fail)
      go_ret
      exact ⟨rfl,HB1.out⟩
  ·
   have hin' : ¬ (i : Int) < (m : Int):=by omega
   have HI : Hid (i = m):=hidIt (by omega)
   have er:=N4.out (fun j hj=>HO.out j (by have:=HI.out; omega)) (fun j hj=>HK.out j (by have:=HI.out; omega))
   subst er
   go_wp2_with (fail)
   go_ret
   exact ⟨rfl,HB.out⟩
theorem two_boxes (w : World) (o p : Obj) : Below w.heap.size w ((w.alloc o).alloc p):=((Below.refl _ w).alloc (Nat.le_refl _) _).alloc (by simp) _
theorem impl_Stronger (x y : Rw) (w : World) : Calls Tryz.prog 141 #[rv x,rv y] w fun e w'=>e = .returned (.bool (newB (toE x) (toE y))) ∧ Below w.heap.size w w':=by
 rw [new_str]
 obtain ⟨a,b,c⟩:=x
 obtain ⟨a',b',c'⟩:=y
 simp only
 by_cases h : b = b'
 ·
  subst h
  rw [decide_eq_false (Int.lt_irrefl b),Bool.false_or,decide_eq_true rfl,Bool.true_and]
  go_enter Tryz.func141,Tryz.ntmps141
  go_wp2
  go_ret
  exact ⟨rfl,two_boxes _ _ _⟩
 ·
  have h' : (b == b') = false:=by simpa using h
  have h'' : (b != b') = true:=by simpa using h
  rw [decide_eq_false h,Bool.false_and,Bool.or_false]
  go_enter Tryz.func141,Tryz.ntmps141
  go_wp2
  go_ret
  exact ⟨rfl,two_boxes _ _ _⟩
def CopR (n : Nat) (w : World) (A : List Rw) (e : Ending) (w' : World) : Prop:=∃ g c,e = .returned (.slice (some ⟨g,0,none⟩) n c) ∧ n ≤ c ∧ c ≤ 9223372036854775807 ∧ Own w' w.heap.size (.slice (some ⟨g,0,none⟩) n c) A ∧ Below w.heap.size w w'
theorem CopR.of {n : Nat} {w w' : World} {A : List Rw} {e : Ending} {g c : Nat} (h : e = .returned (.slice (some ⟨g,0,none⟩) n c)) (h1 : n ≤ c) (h2 : c ≤ 9223372036854775807) (h3 : Own w' w.heap.size (.slice (some ⟨g,0,none⟩) n c) A) (h4 : Below w.heap.size w w') : CopR n w A e w':=⟨g,c,h,h1,h2,h3,h4⟩
theorem CopR.out {n : Nat} {w w' : World} {A : List Rw} {e : Ending} (h : CopR n w A e w') : ∃ g c,e = .returned (.slice (some ⟨g,0,none⟩) n c) ∧ n ≤ c ∧ c ≤ 9223372036854775807 ∧ Own w' w.heap.size (.slice (some ⟨g,0,none⟩) n c) A ∧ Below w.heap.size w w':=h
theorem impl_copied (a : Option Addr) (cap : Nat) (A : List Rw) (w : World) (h : Rd w a A) (hna : a = none → cap = 0) (hl : A.length ≤ 100) :
  Calls Tryz.prog 117 #[.slice a A.length cap] w fun e w'=>CopR A.length w A e w':=by
 obtain ⟨i0,hi0,hz0,hz1,hz2⟩:=info_parts infoRw
 have HRA:=hidIt h
 clear h
 generalize hla : A.length = la at *
 have HLA:=hidIt hla
 clear hla
 cases a with
 | none =>
  have e:=hna rfl
  subst e
  have eA:=HRA.out.none_nil
  have e0 : la = 0:=by rw [← HLA.out,eA]; rfl
  subst e0
  go_enter Tryz.func117,Tryz.ntmps117
  go_wp2_with (first | (at_builtin; refine wpList_append_own_none rfl _ _ 41 rfl w.heap.size 100 i0 3 Tryz.underlying41 hi0 _ _ _ rfl (Own.new w) rfl ?_))
  go_wp2_with (fail)
  go_ret
  exact CopR.of rfl (by omega) (by omega) (by first | exact Own.new w | (rw [eA]; exact Own.new w)) ((Below.refl _ w).alloc (Nat.le_refl _) _)
 | some x =>
  have hx : ∃ b off,x = ⟨b,off,none⟩ ∨ la = 0:=by
   rcases Nat.eq_zero_or_pos la with h | h
   ·
    exact ⟨0,0,.inr h⟩
   ·
    obtain ⟨b,off,e,_⟩:=HRA.out.cell 0 (by rw [HLA.out]; exact h)
    cases e
    exact ⟨b,off,.inl rfl⟩
  have hcl : ∀ W : World,Below w.heap.size w W → ∀ j u,(rcells A)[j]? = some u → W.cell? (x.add j) = some u:=by
   intro W k j u hj
   obtain ⟨b,off,h | h⟩:=hx
   ·
    subst h
    exact (HRA.out.kept k).cells j u hj
   ·
    have : A = []:=List.length_eq_zero_iff.1 (HLA.out.trans h)
    rw [this] at hj
    simp [rcells] at hj
  have HCL:=hidIt hcl
  clear hx hcl
  go_enter Tryz.func117,Tryz.ntmps117
  go_wp2_with (first | (at_builtin; refine wpList_append_own _ rfl _ _ 41 rfl w.heap.size 100 i0 (.agg #[.int .i64 0,.int .i64 0,.int .i64 0]) 3 24 Tryz.underlying41 hi0 hz0 hz1 hz2 rfl (by decide) _ 0 [] rfl (Own.new w) x la _ (rcells A) rfl (by rw [rcells_length,HLA.out]) (HCL.out _ ((Below.refl _ w).alloc (Nat.le_refl _) _)) (rcells_one _) ?k1c3 ?k1c4 ?k1c5 ?_))
  case k1c3=>unfold maxLen; omega
  case k1c4=>omega
  case k1c5=>simp
  intro v' w9 hown hgrow hnil
  have HO9 : Hid (Own w9 w.heap.size v' A):=hidIt (by
   unfold Own
   rw [HLA.out]
   first | exact hown | (rw [Nat.zero_add,List.nil_append] at hown; exact hown))
  have HB9:=hidIt (((Below.refl w.heap.size w).alloc (Nat.le_refl _) (.cells #[] 100)).grown hgrow (by simp) (fun z hz=>by simp [Value.ownBlock] at hz; omega))
  have hv9 : v' ≠ .slice none 0 0:=by first | exact hnil | exact fun e=>by have:=(hnil.1 e).1; cases this
  obtain ⟨g9,c9,ev9,h9c,h9m,_,_⟩:=HO9.out.some_form hv9
  rw [HLA.out] at ev9 h9c
  subst ev9
  clear hown hgrow hnil hv9
  go_wp2_with (fail)
  go_ret
  exact CopR.of rfl h9c h9m HO9.out HB9.out
end Go.Proofs.YtgbnkkjjgodilaaGreatDoor.Mm
namespace Go.Proofs.YtgbnkkjjgodilaaGreatDoor.Mm
open Go.ChangeShapes Go.WideShapes Go.ChangeAt Go.RowKit
open Mk (okE newB okBk look Ris IsJoin mergeB)
def cmpN (n m : Int) : Int:=if n < m then -1 else if m < n then 1 else 0
theorem cmpN_lt (n m : Int) : decide (cmpN n m < 0) = decide (n < m):=by
 unfold cmpN
 split
 ·
  rename_i h; simp [h]
 ·
  rename_i h
  split
  ·
   simp [h]
  ·
   simp [h]
theorem cmpN_eq (n m : Int) : (cmpN n m == 0) = decide (n = m):=by
 unfold cmpN
 split
 ·
  rename_i h; rw [decide_eq_false (by omega)]; rfl
 ·
  rename_i h
  split
  ·
   rename_i k; rw [decide_eq_false (by omega)]; rfl
  ·
   rename_i k; rw [decide_eq_true (by omega)]; rfl
theorem isNaN_int (n : Int) (w : World) : Calls Tryz.prog 162 #[.int .i64 n] w fun e w'=>e = .returned (.bool false) ∧ w' = w:=by
 go_enter Tryz.func162,Tryz.ntmps162
 go_wp2
 go_ret
 exact ⟨rfl,rfl⟩
theorem cmp_int (n m : Int) (w : World) : Calls Tryz.prog 156 #[.int .i64 n,.int .i64 m] w fun e w'=>e = .returned (.int .i64 (cmpN n m)) ∧ w' = w:=by
 have hN:=isNaN_int
 unfold cmpN
 by_cases h : n < m
 ·
  rw [if_pos h]
  go_enter Tryz.func156,Tryz.ntmps156
  go_wp2_with (go_at_call 162; refine (hN _ _).mono ?_; rintro e w1 ⟨rfl,rfl⟩)
  go_ret
  exact ⟨rfl,rfl⟩
 ·
  rw [if_neg h]
  by_cases k : m < n
  ·
   rw [if_pos k]
   go_enter Tryz.func156,Tryz.ntmps156
   go_wp2_with (go_at_call 162; refine (hN _ _).mono ?_; rintro e w1 ⟨rfl,rfl⟩)
   go_ret
   exact ⟨rfl,rfl⟩
  ·
   rw [if_neg k]
   go_enter Tryz.func156,Tryz.ntmps156
   go_wp2_with (go_at_call 162; refine (hN _ _).mono ?_; rintro e w1 ⟨rfl,rfl⟩)
   go_ret
   exact ⟨rfl,rfl⟩
theorem place_closure (x : Rw) (id : Int) (w : World) : Calls Tryz.prog 155 #[rv x,.int .i64 id] w fun e w'=>e = .returned (.int .i64 (cmpN x.1 id)) ∧ Below w.heap.size w w':=by
 obtain ⟨a,b,c⟩:=x
 have C:=hidIt (fun W=>cmp_int a id W)
 have HB:=hidIt ((Below.refl w.heap.size w).alloc (Nat.le_refl _) (.cells #[.int .i64 a,.int .i64 b,.int .i64 c] 100))
 simp only
 generalize cmpN a id = r at C ⊢
 go_enter Tryz.func155,Tryz.ntmps155
 go_wp2_with (fail)
 refine (C.out _).mono ?_
 rintro e w1 ⟨rfl,rfl⟩
 go_wp2_with (fail)
 go_ret
 exact ⟨rfl,HB.out⟩
structure At (L : List Rw) (id : Int) (k : Nat) (is : Bool) : Prop where
 le : k ≤ L.length
 lo : ∀ t,t < k → kat L t < id
 hi : k < L.length → ¬ kat L k < id
 yes : is = true → k < L.length ∧ kat L k = id
 no : is = false → k < L.length → kat L k ≠ id
def PlcR (L : List Rw) (id : Int) (w : World) (e : Ending) (w' : World) : Prop:=∃ (k : Nat) (is : Bool),e = .returned (.tuple #[.int .i64 k,.bool is]) ∧ At L id k is ∧ Below w.heap.size w w'
theorem PlcR.of {L : List Rw} {id : Int} {w w' : World} {e : Ending} (k : Nat) (is : Bool) (h : e = .returned (.tuple #[.int .i64 k,.bool is])) (h1 : At L id k is) (h2 : Below w.heap.size w w') : PlcR L id w e w':=⟨k,is,h,h1,h2⟩
theorem PlcR.out {L : List Rw} {id : Int} {w w' : World} {e : Ending} (h : PlcR L id w e w') : ∃ (k : Nat) (is : Bool),e = .returned (.tuple #[.int .i64 k,.bool is]) ∧ At L id k is ∧ Below w.heap.size w w':=h
theorem search_members (a : Option Addr) (cap : Nat) (L : List Rw) (id : Int) (w : World) (h : Rd w a L) (hl : L.length ≤ 100) (hr : Ris (toB L)) :
  Calls Tryz.prog 154 #[.slice a L.length cap,.int .i64 id,.func (.func 155) #[] #[]] w fun e w'=>PlcR L id w e w':=by
 have HR:=hidIt h
 have HM : Hid (∀ s t,s ≤ t → t < L.length → kat L s ≤ kat L t):=hidIt (fun s t hst ht=>by
  rcases Nat.lt_or_ge s t with q | q
  ·
   have r:=hr
   unfold Ris at r
   rw [List.pairwise_iff_getElem] at r
   have:=r s t (by rw [List.length_map]; omega) (by rw [List.length_map]; exact ht) q
   rw [List.getElem_map,List.getElem_map] at this
   unfold kat
   rw [rat_at (by omega),rat_at ht]
   exact Int.le_of_lt this
  ·
   obtain rfl : s = t:=by omega
   exact Int.le_refl _)
 have CC:=hidIt (fun x W=>place_closure x id W)
 clear h hr
 generalize hn : L.length = n at *
 have HN:=hidIt hn
 clear hn
 go_enter Tryz.func154,Tryz.ntmps154
 go_wp2_with (fail)
 go_loopg [9,10] n (fun kx s9 s10 wx=>∃ lo hi : Nat,s9 = .int .i64 lo ∧ s10 = .int .i64 hi ∧ lo ≤ hi ∧ hi ≤ n ∧ hi - lo ≤ kx ∧ Hid (Below w.heap.size w wx) ∧ Hid ((∀ t,t < lo → kat L t < id) ∧ (∀ t,hi ≤ t → t < n → ¬ kat L t < id)))
 case atStart=>exact ⟨0,n,rfl,rfl,Nat.zero_le _,Nat.le_refl _,by omega,hidIt (Below.refl _ _),hidIt ⟨fun t ht=>by omega,fun t h1 h2=>by omega⟩⟩
 case round =>
  obtain ⟨lo,hi,rfl,rfl,hlh,hin,hg,HB,HI⟩:=hrel
  by_cases hlt : lo < hi
  ·
   have hlt' : (lo : Int) < (hi : Int):=by omega
   obtain ⟨b,off,ea,c0,c1,c2⟩:=(HR.out.kept HB.out).all (i:=(lo + hi) / 2) (by rw [HN.out]; omega)
   subst ea
   have hc:=hidIt (CC.out (rat L ((lo + hi) / 2)) wr)
   have hd:=cmpN_lt (rat L ((lo + hi) / 2)).1 id
   have hkey : Hid (kat L ((lo + hi) / 2) = (rat L ((lo + hi) / 2)).1):=hidIt rfl
   generalize rat L ((lo + hi) / 2) = x at c0 c1 c2 hc hd hkey
   obtain ⟨xi,xt,xs⟩:=x
   simp only [rv] at c0 c1 c2 hc hd hkey
   generalize cmpN xi id = r at hc hd
   have hm0 : (0 : Int) ≤ ((lo : Int) + (hi : Int)) / 2:=by omega
   have hm1 : ((lo : Int) + (hi : Int)) / 2 < (n : Int):=by omega
   have hm2 : (((lo : Int) + (hi : Int)) / 2).toNat = (lo + hi) / 2:=by omega
   by_cases hp : xi < id
   ·
    rw [decide_eq_true hp] at hd
    go_wp2_with (fail)
    refine hc.out.mono ?_
    rintro e w1 ⟨rfl,k1⟩
    have HB1:=hidIt (HB.out.trans (k1.mono HB.out.size))
    clear k1
    go_wp2_with (fail)
    go_roundg (hi - ((lo + hi) / 2 + 1))
    case measure=>omega
    case rel =>
     refine ⟨(lo + hi) / 2 + 1,hi,by rw [show ((lo : Int) + (hi : Int)) / 2 + 1 = (((lo + hi) / 2 + 1 : Nat) : Int) by omega],rfl,by omega,hin,Nat.le_refl _,HB1,hidIt ⟨fun t ht=>?_,HI.out.2⟩⟩
     have:=HM.out t ((lo + hi) / 2) (by omega) (by omega)
     have:=hkey.out
     omega
   ·
    rw [decide_eq_false hp] at hd
    go_wp2_with (fail)
    refine hc.out.mono ?_
    rintro e w1 ⟨rfl,k1⟩
    have HB1:=hidIt (HB.out.trans (k1.mono HB.out.size))
    clear k1
    go_wp2_with (fail)
    go_roundg ((lo + hi) / 2 - lo)
    case measure=>omega
    case rel =>
     exact ⟨lo,(lo + hi) / 2,rfl,by rw [show ((lo : Int) + (hi : Int)) / 2 = (((lo + hi) / 2 : Nat) : Int) by omega],by omega,by omega,Nat.le_refl _,HB1,hidIt ⟨HI.out.1,fun t ht htn=>by
      have:=HM.out ((lo + hi) / 2) t ht htn
      have:=hkey.out
      omega⟩⟩
  ·
   obtain rfl : hi = lo:=by omega
   have hlt' : ¬ (hi : Int) < (hi : Int):=by omega
   by_cases hend : hi < n
   ·
    have hend' : (hi : Int) < (n : Int):=by omega
    obtain ⟨b,off,ea,c0,c1,c2⟩:=(HR.out.kept HB.out).all (i:=hi) (by rw [HN.out]; exact hend)
    subst ea
    have hc:=hidIt (CC.out (rat L hi) wr)
    have hd:=cmpN_eq (rat L hi).1 id
    have hkey : Hid (kat L hi = (rat L hi).1):=hidIt rfl
    generalize rat L hi = x at c0 c1 c2 hc hd hkey
    obtain ⟨xi,xt,xs⟩:=x
    simp only [rv] at c0 c1 c2 hc hd hkey
    generalize cmpN xi id = r at hc hd
    obtain ⟨is,his⟩ : ∃ is,decide (xi = id) = is:=⟨_,rfl⟩
    rw [his] at hd
    have HIS:=hidIt his
    clear his
    go_wp2_with (fail)
    refine hc.out.mono ?_
    rintro e w1 ⟨rfl,k1⟩
    have HB1:=hidIt (HB.out.trans (k1.mono HB.out.size))
    clear k1
    go_wp2_with (fail)
    refine bodyPost_ret (v:=.tuple #[.int .i64 hi,.bool is]) (by simp [results,Tryz.results154,go_sem]) rfl ?_
    exact PlcR.of hi is rfl ⟨by rw [HN.out]; exact hin,HI.out.1,fun _=>(by have:=HI.out.2 hi (Nat.le_refl _) hend; omega),fun e=>⟨by rw [HN.out]; exact hend,by rw [hkey.out]; exact of_decide_eq_true (HIS.out.trans e)⟩,fun e _=>(by rw [hkey.out]; exact of_decide_eq_false (HIS.out.trans e))⟩ HB1.out
   ·
    have hend' : ¬ (hi : Int) < (n : Int):=by omega
    go_wp2_with (fail)
    refine bodyPost_ret (v:=.tuple #[.int .i64 hi,.bool false]) (by simp [results,Tryz.results154,go_sem]) rfl ?_
    exact PlcR.of hi false rfl ⟨by rw [HN.out]; exact hin,HI.out.1,fun h=>absurd (by rw [← HN.out]; exact h) hend,fun e=>(by cases e),fun _ h=>absurd (by rw [← HN.out]; exact h) hend⟩ HB.out
theorem impl_placeOf (a : Option Addr) (cap : Nat) (L : List Rw) (id : Int) (w : World) (h : Rd w a L) (hl : L.length ≤ 100) (hr : Ris (toB L)) :
  Calls Tryz.prog 139 #[.slice a L.length cap,.int .i64 id] w fun e w'=>PlcR L id w e w':=by
 have C:=hidIt (search_members a cap L id w h hl hr)
 clear h hr
 generalize L.length = n at *
 go_enter Tryz.func139,Tryz.ntmps139
 go_wp2_with (fail)
 refine C.out.mono ?_
 intro e w1 hz
 obtain ⟨k,is,rfl,hk,k1⟩:=hz.out
 clear hz
 have HK:=hidIt hk
 have HB:=hidIt k1
 clear hk k1
 go_wp2_with (fail)
 refine bodyPost_ret (v:=.tuple #[.int .i64 k,.bool is]) (by simp [results,Tryz.results139,go_sem]) rfl ?_
 exact PlcR.of k is rfl HK.out HB.out
end Go.Proofs.YtgbnkkjjgodilaaGreatDoor.Mm
namespace Go.Proofs.YtgbnkkjjgodilaaGreatDoor.Mm
open Go.ChangeShapes Go.WideShapes Go.ChangeAt Go.RowKit
open Rc (BelowBy BelowBy.one wp_region_below calls_below calls_same)
open Mk (okE newB okBk look Ris IsJoin mergeB)
end Go.Proofs.YtgbnkkjjgodilaaGreatDoor.Mm
namespace Go.Proofs.YtgbnkkjjgodilaaGreatDoor.Mm
open Go.ChangeShapes Go.WideShapes Go.ChangeAt Go.RowKit
open Mk (okE newB okBk look Ris IsJoin mergeB)
end Go.Proofs.YtgbnkkjjgodilaaGreatDoor.Mm
namespace Go.Proofs.YtgbnkkjjgodilaaGreatDoor.Mk
end Go.Proofs.YtgbnkkjjgodilaaGreatDoor.Mk
namespace Go.Proofs.YtgbnkkjjgodilaaGreatDoor.Mm
open Go.ChangeShapes Go.WideShapes Go.ChangeAt Go.RowKit
open Mk (okE newB okBk look Ris IsJoin mergeB)
end Go.Proofs.YtgbnkkjjgodilaaGreatDoor.Mm
