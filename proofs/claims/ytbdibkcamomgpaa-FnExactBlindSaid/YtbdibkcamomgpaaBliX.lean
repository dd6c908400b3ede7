/-
  Blind of the program: isService, isHidden, blinded. (Written by wip/mkBliX.py.)
-/
import Derived.Test.YtbdibkcamomgpaaBliS
import Derived.Test.YtbdibkcamomgpaaRuI
import Derived.Test.YtbdibkcamomgpaaRuJ
namespace Go.Proofs.Ytbdibkcamomgpaa.Ac
open Go.ChangeShapes Go.WideShapes Go.ChangeAt Go.RowKit
set_option linter.unusedVariables false
set_option maxRecDepth 100000 in
set_option maxHeartbeats 4000000 in
theorem impl_writingOf (x0 : Int) (x1 : Int) (x2 : Int) (x3 : ByteArray) (x4 : ByteArray) (x5 : ByteArray) (x6 : Bool) (x7 : Int) (x8 : ByteArray) (x9 : ByteArray) (x10 : Int) (x11 : Int) (w : World) : Calls Try.prog 37 #[.agg #[.int .i64 x0, .int .i64 x1, .int .i64 x2, .string x3, .string x4, .string x5, .bool x6, .int .i64 x7, .string x8, .string x9, .int .i64 x10, .int .i64 x11]] w fun e w' => e = .returned (.agg #[.int .i64 x0, .string x3]) ∧ Below w.heap.size w w' := by
  have HB := hidIt (((Below.refl w.heap.size w).alloc (Nat.le_refl _) (.cells #[.int .i64 x0, .int .i64 x1, .int .i64 x2, .string x3, .string x4, .string x5, .bool x6, .int .i64 x7, .string x8, .string x9, .int .i64 x10, .int .i64 x11] 49)).alloc (by simp) (.cells #[.int .i64 x0, .string x3] 59))
  go_enter Try.func37, Try.ntmps37
  go_wp2_with (fail)
  refine bodyPost_ret (v := .agg #[.int .i64 x0, .string x3]) (by simp [results, Try.results37, go_sem]) rfl ⟨rfl, HB.out⟩
set_option maxRecDepth 100000 in
set_option maxHeartbeats 16000000 in
theorem svc_HasPrefix (k : ByteArray) (w : World) : Calls Try.prog 45 #[.string k, .string ⟨#[115, 118, 99, 47]⟩] w fun e w' => e = .returned (.bool (decide ((4 : Int) ≤ (k.size : Int)) && ((k.extract 0 4).toList == [115, 118, 99, 47]))) ∧ w' = w := by
  cases h4 : decide ((4 : Int) ≤ (k.size : Int)) with
  | true =>
    have h4' := of_decide_eq_true h4
    generalize hr : ((k.extract 0 4).toList == [115, 118, 99, 47]) = r
    clear h4
    rw [Bool.true_and]
    go_enter Try.func45, Try.ntmps45
    go_wp2
    go_ret
    exact ⟨rfl, rfl⟩
  | false =>
    have h4' := of_decide_eq_false h4
    clear h4
    rw [Bool.false_and]
    go_enter Try.func45, Try.ntmps45
    go_wp2
    go_ret
    exact ⟨rfl, rfl⟩
set_option maxRecDepth 100000 in
set_option maxHeartbeats 16000000 in
theorem svc_CutPrefix (k : ByteArray) (w : World) : Calls Try.prog 40 #[.string k, .string ⟨#[115, 118, 99, 47]⟩] w fun e w' => ∃ u : ByteArray, e = .returned (.tuple #[.string u, .bool (decide ((4 : Int) ≤ (k.size : Int)) && ((k.extract 0 4).toList == [115, 118, 99, 47]))]) ∧ ((decide ((4 : Int) ≤ (k.size : Int)) && ((k.extract 0 4).toList == [115, 118, 99, 47])) = true → u = k.extract 4 k.size) ∧ w' = w := by
  have H : Calls Try.prog 42 #[.string k, .string ⟨#[115, 118, 99, 47]⟩] w fun e w' => ∃ u : ByteArray, e = .returned (.tuple #[.string u, .bool (decide ((4 : Int) ≤ (k.size : Int)) && ((k.extract 0 4).toList == [115, 118, 99, 47]))]) ∧ ((decide ((4 : Int) ≤ (k.size : Int)) && ((k.extract 0 4).toList == [115, 118, 99, 47])) = true → u = k.extract 4 k.size) ∧ w' = w := by
    have C := hidIt (svc_HasPrefix k w)
    have H4 : Hid ((decide ((4 : Int) ≤ (k.size : Int)) && ((k.extract 0 4).toList == [115, 118, 99, 47])) = true → (4 : Int) ≤ (k.size : Int)) := hidIt (fun h => by simp only [Bool.and_eq_true, decide_eq_true_eq] at h; exact h.1)
    generalize (decide ((4 : Int) ≤ (k.size : Int)) && ((k.extract 0 4).toList == [115, 118, 99, 47])) = r at C H4 ⊢
    cases r with
    | false =>
      go_enter Try.func42, Try.ntmps42
      go_wp2_with (fail)
      refine C.out.mono ?_
      rintro e w1 ⟨rfl, rfl⟩
      go_wp2_with (fail)
      refine bodyPost_ret (v := .tuple #[.string k, .bool false]) (by simp [results, Try.results42, go_sem]) rfl ⟨k, rfl, (fun h => by cases h), rfl⟩
    | true =>
      have h4 := H4.out rfl
      go_enter Try.func42, Try.ntmps42
      go_wp2_with (fail)
      refine C.out.mono ?_
      rintro e w1 ⟨rfl, rfl⟩
      go_wp2_with (fail)
      refine bodyPost_ret (v := .tuple #[.string (k.extract 4 k.size), .bool true]) (by simp [results, Try.results42, go_sem]) rfl ⟨_, rfl, fun _ => rfl, rfl⟩
  have H' := hidIt H
  clear H
  generalize (decide ((4 : Int) ≤ (k.size : Int)) && ((k.extract 0 4).toList == [115, 118, 99, 47])) = r at H' ⊢
  go_enter Try.func40, Try.ntmps40
  go_wp2_with (fail)
  refine H'.out.mono ?_
  rintro e w1 ⟨u, rfl, hu, rfl⟩
  have HU := hidIt hu
  clear hu
  go_wp2_with (fail)
  refine bodyPost_ret (v := .tuple #[.string u, .bool r]) (by simp [results, Try.results40, go_sem]) rfl ⟨u, rfl, HU.out, rfl⟩
theorem text_empty (x : ByteArray) : x.toList.isEmpty = decide (x.size = 0) := by
  rw [ByteArray.toList_eq]
  have e : x.data.toList.length = x.size := Array.length_toList
  cases hl : x.data.toList with
  | nil =>
    rw [hl] at e
    simp at e
    rw [decide_eq_true (by omega)]
    rfl
  | cons a b =>
    rw [hl] at e
    simp at e
    rw [decide_eq_false (by omega)]
    rfl
/-- A Key svc/ and more. -/
def serB (k : ByteArray) : Bool := decide ((4 : Int) < (k.size : Int)) && ((k.extract 0 4).toList == [115, 118, 99, 47])
theorem serB_no {k : ByteArray} (h : (decide ((4 : Int) ≤ (k.size : Int)) && ((k.extract 0 4).toList == [115, 118, 99, 47])) = false) : serB k = false := by
  unfold serB
  cases hb : ((k.extract 0 4).toList == [115, 118, 99, 47]) with
  | false => simp
  | true =>
    rw [hb, Bool.and_true] at h
    have := of_decide_eq_false h
    rw [decide_eq_false (by omega)]
    rfl
theorem serB_yes {k : ByteArray} (h : (decide ((4 : Int) ≤ (k.size : Int)) && ((k.extract 0 4).toList == [115, 118, 99, 47])) = true) : serB k = !(decide ((k.extract 4 k.size).size = 0)) := by
  simp only [Bool.and_eq_true, decide_eq_true_eq] at h
  unfold serB
  rw [h.2, Bool.and_true]
  have e : (k.extract 4 k.size).size = k.size - 4 := by simp [ByteArray.size_extract]
  rw [e]
  by_cases g : (4 : Int) < (k.size : Int)
  · rw [decide_eq_true g, decide_eq_false (by omega)]; rfl
  · rw [decide_eq_false g, decide_eq_true (by omega)]; rfl
set_option maxRecDepth 100000 in
set_option maxHeartbeats 16000000 in
theorem impl_isService (k : ByteArray) (w : World) : Calls Try.prog 38 #[.string k] w fun e w' => e = .returned (.bool (serB k)) ∧ w' = w := by
  have C := hidIt (svc_CutPrefix k w)
  have N0 := hidIt (fun h => serB_no (k := k) h)
  have N1 := hidIt (fun h => serB_yes (k := k) h)
  have HE := hidIt (text_empty (k.extract 4 k.size))
  generalize serB k = res at N0 N1 ⊢
  generalize (decide ((4 : Int) ≤ (k.size : Int)) && ((k.extract 0 4).toList == [115, 118, 99, 47])) = r at C N0 N1
  cases r with
  | false =>
    have er := N0.out rfl
    subst er
    go_enter Try.func38, Try.ntmps38
    go_wp2_with (fail)
    refine C.out.mono ?_
    rintro e w1 ⟨u, rfl, hu, rfl⟩
    clear hu
    go_wp2_with (fail)
    go_ret
    exact ⟨rfl, rfl⟩
  | true =>
    have er := N1.out rfl
    have hem := HE.out
    clear N0 N1 HE
    generalize k.extract 4 k.size = z at C er hem
    generalize decide (z.size = 0) = b at er hem
    subst er
    cases b with
    | false =>
      go_enter Try.func38, Try.ntmps38
      go_wp2_with (fail)
      refine C.out.mono ?_
      rintro e w1 ⟨u, rfl, hu, rfl⟩
      rw [hu (by first | rfl | trivial)]
      clear hu
      go_wp2_with (fail)
      go_ret
      exact ⟨rfl, rfl⟩
    | true =>
      go_enter Try.func38, Try.ntmps38
      go_wp2_with (fail)
      refine C.out.mono ?_
      rintro e w1 ⟨u, rfl, hu, rfl⟩
      rw [hu (by first | rfl | trivial)]
      clear hu
      go_wp2_with (fail)
      go_ret
      exact ⟨rfl, rfl⟩
/-- What may not be read. -/
def hidB (R : List Ru.Rw) (x0 : Int) (x3 x4 : ByteArray) : Bool := (x0 == 1) && ((x3.toList == [114, 111, 111, 116]) && (serB x4 && !(Ru.mayR R (Ru.bs x4) false)))
theorem secB_hid (R : List Ru.Rw) (x0 : Int) (x1 : Int) (x2 : Int) (x3 : ByteArray) (x4 : ByteArray) (x5 : ByteArray) (x6 : Bool) (x7 : Int) (x8 : ByteArray) (x9 : ByteArray) (x10 : Int) (x11 : Int) : secB R (x0, x1, x2, x3, x4, x5, x6, x7, x8, x9, x10, x11) = (hidB R x0 x3 x4 && (!x6 && decide ((x5.size : Int) ≤ 40))) := by
  unfold secB hidB serB
  simp only [Bool.and_assoc]
set_option maxRecDepth 100000 in
set_option maxHeartbeats 16000000 in
theorem impl_isHidden (x0 : Int) (x1 : Int) (x2 : Int) (x3 : ByteArray) (x4 : ByteArray) (x5 : ByteArray) (x6 : Bool) (x7 : Int) (x8 : ByteArray) (x9 : ByteArray) (x10 : Int) (x11 : Int) (ra : Option Addr) (rcap : Nat) (R : List Ru.Rw) (w : World) (hr : Ru.Rd w ra R) (hrl : R.length ≤ 9223372036854775807) (hrs : ∀ i, i < R.length → (Ru.rat R i).1.size ≤ 9223372036854775807) (hs4 : x4.size ≤ 9223372036854775807) : Calls Try.prog 34 #[.agg #[.int .i64 x0, .int .i64 x1, .int .i64 x2, .string x3, .string x4, .string x5, .bool x6, .int .i64 x7, .string x8, .string x9, .int .i64 x10, .int .i64 x11], .slice ra R.length rcap] w fun e w' => e = .returned (.bool (hidB R x0 x3 x4)) ∧ Below w.heap.size w w' := by
  have CM := hidIt (fun W (k : Below w.heap.size w W) => Ru.impl_May ra rcap R x4 false W (hr.kept k) hrl hrs hs4)
  have CW := hidIt (fun W => impl_writingOf x0 x1 x2 x3 x4 x5 x6 x7 x8 x9 x10 x11 W)
  have CS := hidIt (fun W => impl_isService x4 W)
  have EH : Hid (hidB R x0 x3 x4 = ((x0 == 1) && ((x3.toList == [114, 111, 111, 116]) && (serB x4 && !(Ru.mayR R (Ru.bs x4) false))))) := hidIt rfl
  generalize hidB R x0 x3 x4 = res at EH ⊢
  generalize serB x4 = sb at CS EH
  generalize Ru.mayR R (Ru.bs x4) false = mb at CM EH
  generalize R.length = mr at *
  clear hr hrl hrs
  have BX := hidIt (Bo.Box.new w #[.int .i64 x0, .int .i64 x1, .int .i64 x2, .string x3, .string x4, .string x5, .bool x6, .int .i64 x7, .string x8, .string x9, .int .i64 x10, .int .i64 x11] 49)
  have HB := hidIt ((Below.refl w.heap.size w).alloc (Nat.le_refl _) (.cells #[.int .i64 x0, .int .i64 x1, .int .i64 x2, .string x3, .string x4, .string x5, .bool x6, .int .i64 x7, .string x8, .string x9, .int .i64 x10, .int .i64 x11] 49))
  have d0 := BX.out.c 0 (v := .int .i64 x0) rfl
  have d1 := BX.out.c 1 (v := .int .i64 x1) rfl
  have d2 := BX.out.c 2 (v := .int .i64 x2) rfl
  have d3 := BX.out.c 3 (v := .string x3) rfl
  have d4 := BX.out.c 4 (v := .string x4) rfl
  have d5 := BX.out.c 5 (v := .string x5) rfl
  have d6 := BX.out.c 6 (v := .bool x6) rfl
  have d7 := BX.out.c 7 (v := .int .i64 x7) rfl
  have d8 := BX.out.c 8 (v := .string x8) rfl
  have d9 := BX.out.c 9 (v := .string x9) rfl
  have d10 := BX.out.c 10 (v := .int .i64 x10) rfl
  have d11 := BX.out.c 11 (v := .int .i64 x11) rfl
  cases g0 : (x0 == 1) with
  | false =>
    have er := EH.out
    rw [g0] at er
    simp only [Bool.false_and] at er
    subst er
    go_enter Try.func34, Try.ntmps34
    go_wp2_with (fail)
    generalize w.alloc (.cells #[.int .i64 x0, .int .i64 x1, .int .i64 x2, .string x3, .string x4, .string x5, .bool x6, .int .i64 x7, .string x8, .string x9, .int .i64 x10, .int .i64 x11] 49) = wz at BX HB CW ⊢
    refine (CW.out _).mono ?_
    rintro e w1 ⟨rfl, kk⟩
    replace HB := hidIt (HB.out.trans (kk.mono HB.out.size))
    replace BX := hidIt (BX.out.kept kk)
    clear kk d0 d1 d2 d3 d4 d5 d6 d7 d8 d9 d10 d11 CW
    have d4 := BX.out.c 4 (v := .string x4) rfl
    go_wp2_with (fail)
    go_ret
    exact ⟨rfl, HB.out⟩
  | true =>
  cases g1 : (x3.toList == [114, 111, 111, 116]) with
  | false =>
    have er := EH.out
    rw [g0, g1] at er
    simp only [Bool.false_and, Bool.and_false] at er
    subst er
    go_enter Try.func34, Try.ntmps34
    go_wp2_with (fail)
    generalize w.alloc (.cells #[.int .i64 x0, .int .i64 x1, .int .i64 x2, .string x3, .string x4, .string x5, .bool x6, .int .i64 x7, .string x8, .string x9, .int .i64 x10, .int .i64 x11] 49) = wz at BX HB CW ⊢
    refine (CW.out _).mono ?_
    rintro e w1 ⟨rfl, kk⟩
    replace HB := hidIt (HB.out.trans (kk.mono HB.out.size))
    replace BX := hidIt (BX.out.kept kk)
    clear kk d0 d1 d2 d3 d4 d5 d6 d7 d8 d9 d10 d11 CW
    have d4 := BX.out.c 4 (v := .string x4) rfl
    go_wp2_with (fail)
    go_ret
    exact ⟨rfl, HB.out⟩
  | true =>
  cases sb with
  | false =>
    have er := EH.out
    rw [g0, g1] at er
    simp only [Bool.false_and, Bool.and_false] at er
    subst er
    go_enter Try.func34, Try.ntmps34
    go_wp2_with (fail)
    generalize w.alloc (.cells #[.int .i64 x0, .int .i64 x1, .int .i64 x2, .string x3, .string x4, .string x5, .bool x6, .int .i64 x7, .string x8, .string x9, .int .i64 x10, .int .i64 x11] 49) = wz at BX HB CW ⊢
    refine (CW.out _).mono ?_
    rintro e w1 ⟨rfl, kk⟩
    replace HB := hidIt (HB.out.trans (kk.mono HB.out.size))
    replace BX := hidIt (BX.out.kept kk)
    clear kk d0 d1 d2 d3 d4 d5 d6 d7 d8 d9 d10 d11 CW
    have d4 := BX.out.c 4 (v := .string x4) rfl
    go_wp2_with (fail)
    refine (CS.out _).mono ?_
    rintro e w2 ⟨rfl, ew⟩
    have ew2 := ew.symm
    subst ew2
    clear ew CS
    go_wp2_with (fail)
    go_ret
    exact ⟨rfl, HB.out⟩
  | true =>
    have er := EH.out
    rw [g0, g1] at er
    simp only [Bool.true_and] at er
    subst er
    go_enter Try.func34, Try.ntmps34
    go_wp2_with (fail)
    generalize w.alloc (.cells #[.int .i64 x0, .int .i64 x1, .int .i64 x2, .string x3, .string x4, .string x5, .bool x6, .int .i64 x7, .string x8, .string x9, .int .i64 x10, .int .i64 x11] 49) = wz at BX HB CW ⊢
    refine (CW.out _).mono ?_
    rintro e w1 ⟨rfl, kk⟩
    replace HB := hidIt (HB.out.trans (kk.mono HB.out.size))
    replace BX := hidIt (BX.out.kept kk)
    clear kk d0 d1 d2 d3 d4 d5 d6 d7 d8 d9 d10 d11 CW
    have d4 := BX.out.c 4 (v := .string x4) rfl
    go_wp2_with (fail)
    refine (CS.out _).mono ?_
    rintro e w2 ⟨rfl, ew⟩
    have ew2 := ew.symm
    subst ew2
    clear ew CS
    go_wp2_with (fail)
    refine (CM.out _ HB.out).mono ?_
    rintro e w3 ⟨rfl, kk⟩
    replace HB := hidIt (HB.out.trans (kk.mono HB.out.size))
    clear kk
    go_wp2_with (fail)
    go_ret
    exact ⟨rfl, HB.out⟩
set_option maxRecDepth 100000 in
set_option maxHeartbeats 16000000 in
theorem impl_blinded (x0 : Int) (x1 : Int) (x2 : Int) (x3 : ByteArray) (x4 : ByteArray) (x5 : ByteArray) (x6 : Bool) (x7 : Int) (x8 : ByteArray) (x9 : ByteArray) (x10 : Int) (x11 : Int) (ra : Option Addr) (rcap : Nat) (R : List Ru.Rw) (w : World) (hr : Ru.Rd w ra R) (hrl : R.length ≤ 9223372036854775807) (hrs : ∀ i, i < R.length → (Ru.rat R i).1.size ≤ 9223372036854775807) (hs4 : x4.size ≤ 9223372036854775807) : Calls Try.prog 25 #[.agg #[.int .i64 x0, .int .i64 x1, .int .i64 x2, .string x3, .string x4, .string x5, .bool x6, .int .i64 x7, .string x8, .string x9, .int .i64 x10, .int .i64 x11], .slice ra R.length rcap] w fun e w' => e = .returned (rv (bliA R (x0, x1, x2, x3, x4, x5, x6, x7, x8, x9, x10, x11))) ∧ Below w.heap.size w w' := by
  have CH := hidIt (fun W (k : Below w.heap.size w W) => impl_isHidden x0 x1 x2 x3 x4 x5 x6 x7 x8 x9 x10 x11 ra rcap R W (hr.kept k) hrl hrs hs4)
  have EH := hidIt (secB_hid R x0 x1 x2 x3 x4 x5 x6 x7 x8 x9 x10 x11)
  generalize hidB R x0 x3 x4 = hb at CH EH
  have HNo : Hid (secB R (x0, x1, x2, x3, x4, x5, x6, x7, x8, x9, x10, x11) = false → rv (bliA R (x0, x1, x2, x3, x4, x5, x6, x7, x8, x9, x10, x11)) = .agg #[.int .i64 x0, .int .i64 x1, .int .i64 x2, .string x3, .string x4, .string x5, .bool x6, .int .i64 x7, .string x8, .string x9, .int .i64 x10, .int .i64 x11]) := hidIt (fun z => by rw [bliA_no z])
  have HYes : Hid (secB R (x0, x1, x2, x3, x4, x5, x6, x7, x8, x9, x10, x11) = true → rv (bliA R (x0, x1, x2, x3, x4, x5, x6, x7, x8, x9, x10, x11)) = .agg #[.int .i64 x0, .int .i64 x1, .int .i64 x2, .string x3, .string x4, .string ⟨#[45]⟩, .bool x6, .int .i64 x7, .string x8, .string x9, .int .i64 x10, .int .i64 x11]) := hidIt (fun z => by rw [bliA_yes z])
  generalize rv (bliA R (x0, x1, x2, x3, x4, x5, x6, x7, x8, x9, x10, x11)) = ans at HNo HYes ⊢
  generalize secB R (x0, x1, x2, x3, x4, x5, x6, x7, x8, x9, x10, x11) = sb at EH HNo HYes
  generalize R.length = mr at *
  clear hr hrl hrs
  have BX := hidIt ((Bo.Box.new w #[.int .i64 x0, .int .i64 x1, .int .i64 x2, .string x3, .string x4, .string x5, .bool x6, .int .i64 x7, .string x8, .string x9, .int .i64 x10, .int .i64 x11] 49).alloc (.cells #[.int .i64 0, .int .i64 0, .int .i64 0, .string ⟨#[]⟩, .string ⟨#[]⟩, .string ⟨#[]⟩, .bool false, .int .i64 0, .string ⟨#[]⟩, .string ⟨#[]⟩, .int .i64 0, .int .i64 0] 49))
  have BY := hidIt (Bo.Box.newAt (w := w.alloc (.cells #[.int .i64 x0, .int .i64 x1, .int .i64 x2, .string x3, .string x4, .string x5, .bool x6, .int .i64 x7, .string x8, .string x9, .int .i64 x10, .int .i64 x11] 49)) (c := #[.int .i64 0, .int .i64 0, .int .i64 0, .string ⟨#[]⟩, .string ⟨#[]⟩, .string ⟨#[]⟩, .bool false, .int .i64 0, .string ⟨#[]⟩, .string ⟨#[]⟩, .int .i64 0, .int .i64 0]) (T := 49) (k := w.heap.size + 1) (by simp))
  have HB := hidIt (((Below.refl w.heap.size w).alloc (Nat.le_refl _) (.cells #[.int .i64 x0, .int .i64 x1, .int .i64 x2, .string x3, .string x4, .string x5, .bool x6, .int .i64 x7, .string x8, .string x9, .int .i64 x10, .int .i64 x11] 49)).alloc (by simp) (.cells #[.int .i64 0, .int .i64 0, .int .i64 0, .string ⟨#[]⟩, .string ⟨#[]⟩, .string ⟨#[]⟩, .bool false, .int .i64 0, .string ⟨#[]⟩, .string ⟨#[]⟩, .int .i64 0, .int .i64 0] 49))
  have d0 := BX.out.c 0 (v := .int .i64 x0) rfl
  have d1 := BX.out.c 1 (v := .int .i64 x1) rfl
  have d2 := BX.out.c 2 (v := .int .i64 x2) rfl
  have d3 := BX.out.c 3 (v := .string x3) rfl
  have d4 := BX.out.c 4 (v := .string x4) rfl
  have d5 := BX.out.c 5 (v := .string x5) rfl
  have d6 := BX.out.c 6 (v := .bool x6) rfl
  have d7 := BX.out.c 7 (v := .int .i64 x7) rfl
  have d8 := BX.out.c 8 (v := .string x8) rfl
  have d9 := BX.out.c 9 (v := .string x9) rfl
  have d10 := BX.out.c 10 (v := .int .i64 x10) rfl
  have d11 := BX.out.c 11 (v := .int .i64 x11) rfl
  cases hb with
  | false =>
    have HA : Hid (ans = .agg #[.int .i64 x0, .int .i64 x1, .int .i64 x2, .string x3, .string x4, .string x5, .bool x6, .int .i64 x7, .string x8, .string x9, .int .i64 x10, .int .i64 x11]) := hidIt (HNo.out (by rw [EH.out]; rfl))
    clear HNo HYes EH
    go_enter Try.func25, Try.ntmps25
    go_wp2_with (fail)
    generalize (w.alloc (.cells #[.int .i64 x0, .int .i64 x1, .int .i64 x2, .string x3, .string x4, .string x5, .bool x6, .int .i64 x7, .string x8, .string x9, .int .i64 x10, .int .i64 x11] 49)).alloc (.cells #[.int .i64 0, .int .i64 0, .int .i64 0, .string ⟨#[]⟩, .string ⟨#[]⟩, .string ⟨#[]⟩, .bool false, .int .i64 0, .string ⟨#[]⟩, .string ⟨#[]⟩, .int .i64 0, .int .i64 0] 49) = wz at BX BY HB CH ⊢
    refine (CH.out _ HB.out).mono ?_
    rintro e w1 ⟨rfl, kk⟩
    replace HB := hidIt (HB.out.trans (kk.mono HB.out.size))
    replace BX := hidIt (BX.out.kept kk)
    replace BY := hidIt (BY.out.kept kk)
    clear kk d0 d1 d2 d3 d4 d5 d6 d7 d8 d9 d10 d11 CH
    have d0 := BX.out.c 0 (v := .int .i64 x0) rfl
    have d1 := BX.out.c 1 (v := .int .i64 x1) rfl
    have d2 := BX.out.c 2 (v := .int .i64 x2) rfl
    have d3 := BX.out.c 3 (v := .string x3) rfl
    have d4 := BX.out.c 4 (v := .string x4) rfl
    have d5 := BX.out.c 5 (v := .string x5) rfl
    have d6 := BX.out.c 6 (v := .bool x6) rfl
    have d7 := BX.out.c 7 (v := .int .i64 x7) rfl
    have d8 := BX.out.c 8 (v := .string x8) rfl
    have d9 := BX.out.c 9 (v := .string x9) rfl
    have d10 := BX.out.c 10 (v := .int .i64 x10) rfl
    have d11 := BX.out.c 11 (v := .int .i64 x11) rfl
    have f0 := BY.out.c 0 (v := .int .i64 0) rfl
    have g0 := BY.out.fr 0
    have f1 := BY.out.c 1 (v := .int .i64 0) rfl
    have g1 := BY.out.fr 1
    have f2 := BY.out.c 2 (v := .int .i64 0) rfl
    have g2 := BY.out.fr 2
    have f3 := BY.out.c 3 (v := .string ⟨#[]⟩) rfl
    have g3 := BY.out.fr 3
    have f4 := BY.out.c 4 (v := .string ⟨#[]⟩) rfl
    have g4 := BY.out.fr 4
    have f5 := BY.out.c 5 (v := .string ⟨#[]⟩) rfl
    have g5 := BY.out.fr 5
    have f6 := BY.out.c 6 (v := .bool false) rfl
    have g6 := BY.out.fr 6
    have f7 := BY.out.c 7 (v := .int .i64 0) rfl
    have g7 := BY.out.fr 7
    have f8 := BY.out.c 8 (v := .string ⟨#[]⟩) rfl
    have g8 := BY.out.fr 8
    have f9 := BY.out.c 9 (v := .string ⟨#[]⟩) rfl
    have g9 := BY.out.fr 9
    have f10 := BY.out.c 10 (v := .int .i64 0) rfl
    have g10 := BY.out.fr 10
    have f11 := BY.out.c 11 (v := .int .i64 0) rfl
    have g11 := BY.out.fr 11
    have BYs := BY
    have HBs := HB
    have B3 := hidIt ((((((((((((BYs.out.put (c' := #[.int .i64 x0, .int .i64 0, .int .i64 0, .string ⟨#[]⟩, .string ⟨#[]⟩, .string ⟨#[]⟩, .bool false, .int .i64 0, .string ⟨#[]⟩, .string ⟨#[]⟩, .int .i64 0, .int .i64 0]) 0 (.int .i64 x0) (by simp) rfl).put (c' := #[.int .i64 x0, .int .i64 x1, .int .i64 0, .string ⟨#[]⟩, .string ⟨#[]⟩, .string ⟨#[]⟩, .bool false, .int .i64 0, .string ⟨#[]⟩, .string ⟨#[]⟩, .int .i64 0, .int .i64 0]) 1 (.int .i64 x1) (by simp) rfl).put (c' := #[.int .i64 x0, .int .i64 x1, .int .i64 x2, .string ⟨#[]⟩, .string ⟨#[]⟩, .string ⟨#[]⟩, .bool false, .int .i64 0, .string ⟨#[]⟩, .string ⟨#[]⟩, .int .i64 0, .int .i64 0]) 2 (.int .i64 x2) (by simp) rfl).put (c' := #[.int .i64 x0, .int .i64 x1, .int .i64 x2, .string x3, .string ⟨#[]⟩, .string ⟨#[]⟩, .bool false, .int .i64 0, .string ⟨#[]⟩, .string ⟨#[]⟩, .int .i64 0, .int .i64 0]) 3 (.string x3) (by simp) rfl).put (c' := #[.int .i64 x0, .int .i64 x1, .int .i64 x2, .string x3, .string x4, .string ⟨#[]⟩, .bool false, .int .i64 0, .string ⟨#[]⟩, .string ⟨#[]⟩, .int .i64 0, .int .i64 0]) 4 (.string x4) (by simp) rfl).put (c' := #[.int .i64 x0, .int .i64 x1, .int .i64 x2, .string x3, .string x4, .string x5, .bool false, .int .i64 0, .string ⟨#[]⟩, .string ⟨#[]⟩, .int .i64 0, .int .i64 0]) 5 (.string x5) (by simp) rfl).put (c' := #[.int .i64 x0, .int .i64 x1, .int .i64 x2, .string x3, .string x4, .string x5, .bool x6, .int .i64 0, .string ⟨#[]⟩, .string ⟨#[]⟩, .int .i64 0, .int .i64 0]) 6 (.bool x6) (by simp) rfl).put (c' := #[.int .i64 x0, .int .i64 x1, .int .i64 x2, .string x3, .string x4, .string x5, .bool x6, .int .i64 x7, .string ⟨#[]⟩, .string ⟨#[]⟩, .int .i64 0, .int .i64 0]) 7 (.int .i64 x7) (by simp) rfl).put (c' := #[.int .i64 x0, .int .i64 x1, .int .i64 x2, .string x3, .string x4, .string x5, .bool x6, .int .i64 x7, .string x8, .string ⟨#[]⟩, .int .i64 0, .int .i64 0]) 8 (.string x8) (by simp) rfl).put (c' := #[.int .i64 x0, .int .i64 x1, .int .i64 x2, .string x3, .string x4, .string x5, .bool x6, .int .i64 x7, .string x8, .string x9, .int .i64 0, .int .i64 0]) 9 (.string x9) (by simp) rfl).put (c' := #[.int .i64 x0, .int .i64 x1, .int .i64 x2, .string x3, .string x4, .string x5, .bool x6, .int .i64 x7, .string x8, .string x9, .int .i64 x10, .int .i64 0]) 10 (.int .i64 x10) (by simp) rfl).put (c' := #[.int .i64 x0, .int .i64 x1, .int .i64 x2, .string x3, .string x4, .string x5, .bool x6, .int .i64 x7, .string x8, .string x9, .int .i64 x10, .int .i64 x11]) 11 (.int .i64 x11) (by simp) rfl)
    have K3 := hidIt ((((((((((((HBs.out.setCell (p := ⟨w.heap.size + 1, 0, none⟩) (Nat.le_succ _) (.int .i64 x0)).setCell (p := ⟨w.heap.size + 1, 1, none⟩) (Nat.le_succ _) (.int .i64 x1)).setCell (p := ⟨w.heap.size + 1, 2, none⟩) (Nat.le_succ _) (.int .i64 x2)).setCell (p := ⟨w.heap.size + 1, 3, none⟩) (Nat.le_succ _) (.string x3)).setCell (p := ⟨w.heap.size + 1, 4, none⟩) (Nat.le_succ _) (.string x4)).setCell (p := ⟨w.heap.size + 1, 5, none⟩) (Nat.le_succ _) (.string x5)).setCell (p := ⟨w.heap.size + 1, 6, none⟩) (Nat.le_succ _) (.bool x6)).setCell (p := ⟨w.heap.size + 1, 7, none⟩) (Nat.le_succ _) (.int .i64 x7)).setCell (p := ⟨w.heap.size + 1, 8, none⟩) (Nat.le_succ _) (.string x8)).setCell (p := ⟨w.heap.size + 1, 9, none⟩) (Nat.le_succ _) (.string x9)).setCell (p := ⟨w.heap.size + 1, 10, none⟩) (Nat.le_succ _) (.int .i64 x10)).setCell (p := ⟨w.heap.size + 1, 11, none⟩) (Nat.le_succ _) (.int .i64 x11))
    clear BYs HBs
    go_wp2_with (fail)
    generalize ((((((((((((w1).setCell ⟨w.heap.size + 1, 0, none⟩ (.int .i64 x0)).setCell ⟨w.heap.size + 1, 1, none⟩ (.int .i64 x1)).setCell ⟨w.heap.size + 1, 2, none⟩ (.int .i64 x2)).setCell ⟨w.heap.size + 1, 3, none⟩ (.string x3)).setCell ⟨w.heap.size + 1, 4, none⟩ (.string x4)).setCell ⟨w.heap.size + 1, 5, none⟩ (.string x5)).setCell ⟨w.heap.size + 1, 6, none⟩ (.bool x6)).setCell ⟨w.heap.size + 1, 7, none⟩ (.int .i64 x7)).setCell ⟨w.heap.size + 1, 8, none⟩ (.string x8)).setCell ⟨w.heap.size + 1, 9, none⟩ (.string x9)).setCell ⟨w.heap.size + 1, 10, none⟩ (.int .i64 x10)).setCell ⟨w.heap.size + 1, 11, none⟩ (.int .i64 x11) = w3 at B3 K3 ⊢
    clear d0 f0 g0 d1 f1 g1 d2 f2 g2 d3 f3 g3 d4 f4 g4 d5 f5 g5 d6 f6 g6 d7 f7 g7 d8 f8 g8 d9 f9 g9 d10 f10 g10 d11 f11 g11
    have f0 := B3.out.c 0 (v := .int .i64 x0) rfl
    have f1 := B3.out.c 1 (v := .int .i64 x1) rfl
    have f2 := B3.out.c 2 (v := .int .i64 x2) rfl
    have f3 := B3.out.c 3 (v := .string x3) rfl
    have f4 := B3.out.c 4 (v := .string x4) rfl
    have f5 := B3.out.c 5 (v := .string x5) rfl
    have f6 := B3.out.c 6 (v := .bool x6) rfl
    have f7 := B3.out.c 7 (v := .int .i64 x7) rfl
    have f8 := B3.out.c 8 (v := .string x8) rfl
    have f9 := B3.out.c 9 (v := .string x9) rfl
    have f10 := B3.out.c 10 (v := .int .i64 x10) rfl
    have f11 := B3.out.c 11 (v := .int .i64 x11) rfl
    refine bodyPost_ret (v := .agg #[.int .i64 x0, .int .i64 x1, .int .i64 x2, .string x3, .string x4, .string x5, .bool x6, .int .i64 x7, .string x8, .string x9, .int .i64 x10, .int .i64 x11]) (by simp [results, Try.results25, go_sem, f0, f1, f2, f3, f4, f5, f6, f7, f8, f9, f10, f11]) rfl ⟨by rw [HA.out], K3.out⟩
  | true =>
  cases x6 with
  | true =>
    have HA : Hid (ans = .agg #[.int .i64 x0, .int .i64 x1, .int .i64 x2, .string x3, .string x4, .string x5, .bool true, .int .i64 x7, .string x8, .string x9, .int .i64 x10, .int .i64 x11]) := hidIt (HNo.out (by rw [EH.out]; rfl))
    clear HNo HYes EH
    go_enter Try.func25, Try.ntmps25
    go_wp2_with (fail)
    generalize (w.alloc (.cells #[.int .i64 x0, .int .i64 x1, .int .i64 x2, .string x3, .string x4, .string x5, .bool true, .int .i64 x7, .string x8, .string x9, .int .i64 x10, .int .i64 x11] 49)).alloc (.cells #[.int .i64 0, .int .i64 0, .int .i64 0, .string ⟨#[]⟩, .string ⟨#[]⟩, .string ⟨#[]⟩, .bool false, .int .i64 0, .string ⟨#[]⟩, .string ⟨#[]⟩, .int .i64 0, .int .i64 0] 49) = wz at BX BY HB CH ⊢
    refine (CH.out _ HB.out).mono ?_
    rintro e w1 ⟨rfl, kk⟩
    replace HB := hidIt (HB.out.trans (kk.mono HB.out.size))
    replace BX := hidIt (BX.out.kept kk)
    replace BY := hidIt (BY.out.kept kk)
    clear kk d0 d1 d2 d3 d4 d5 d6 d7 d8 d9 d10 d11 CH
    have d0 := BX.out.c 0 (v := .int .i64 x0) rfl
    have d1 := BX.out.c 1 (v := .int .i64 x1) rfl
    have d2 := BX.out.c 2 (v := .int .i64 x2) rfl
    have d3 := BX.out.c 3 (v := .string x3) rfl
    have d4 := BX.out.c 4 (v := .string x4) rfl
    have d5 := BX.out.c 5 (v := .string x5) rfl
    have d6 := BX.out.c 6 (v := .bool true) rfl
    have d7 := BX.out.c 7 (v := .int .i64 x7) rfl
    have d8 := BX.out.c 8 (v := .string x8) rfl
    have d9 := BX.out.c 9 (v := .string x9) rfl
    have d10 := BX.out.c 10 (v := .int .i64 x10) rfl
    have d11 := BX.out.c 11 (v := .int .i64 x11) rfl
    have f0 := BY.out.c 0 (v := .int .i64 0) rfl
    have g0 := BY.out.fr 0
    have f1 := BY.out.c 1 (v := .int .i64 0) rfl
    have g1 := BY.out.fr 1
    have f2 := BY.out.c 2 (v := .int .i64 0) rfl
    have g2 := BY.out.fr 2
    have f3 := BY.out.c 3 (v := .string ⟨#[]⟩) rfl
    have g3 := BY.out.fr 3
    have f4 := BY.out.c 4 (v := .string ⟨#[]⟩) rfl
    have g4 := BY.out.fr 4
    have f5 := BY.out.c 5 (v := .string ⟨#[]⟩) rfl
    have g5 := BY.out.fr 5
    have f6 := BY.out.c 6 (v := .bool false) rfl
    have g6 := BY.out.fr 6
    have f7 := BY.out.c 7 (v := .int .i64 0) rfl
    have g7 := BY.out.fr 7
    have f8 := BY.out.c 8 (v := .string ⟨#[]⟩) rfl
    have g8 := BY.out.fr 8
    have f9 := BY.out.c 9 (v := .string ⟨#[]⟩) rfl
    have g9 := BY.out.fr 9
    have f10 := BY.out.c 10 (v := .int .i64 0) rfl
    have g10 := BY.out.fr 10
    have f11 := BY.out.c 11 (v := .int .i64 0) rfl
    have g11 := BY.out.fr 11
    have BYs := BY
    have HBs := HB
    have B3 := hidIt ((((((((((((BYs.out.put (c' := #[.int .i64 x0, .int .i64 0, .int .i64 0, .string ⟨#[]⟩, .string ⟨#[]⟩, .string ⟨#[]⟩, .bool false, .int .i64 0, .string ⟨#[]⟩, .string ⟨#[]⟩, .int .i64 0, .int .i64 0]) 0 (.int .i64 x0) (by simp) rfl).put (c' := #[.int .i64 x0, .int .i64 x1, .int .i64 0, .string ⟨#[]⟩, .string ⟨#[]⟩, .string ⟨#[]⟩, .bool false, .int .i64 0, .string ⟨#[]⟩, .string ⟨#[]⟩, .int .i64 0, .int .i64 0]) 1 (.int .i64 x1) (by simp) rfl).put (c' := #[.int .i64 x0, .int .i64 x1, .int .i64 x2, .string ⟨#[]⟩, .string ⟨#[]⟩, .string ⟨#[]⟩, .bool false, .int .i64 0, .string ⟨#[]⟩, .string ⟨#[]⟩, .int .i64 0, .int .i64 0]) 2 (.int .i64 x2) (by simp) rfl).put (c' := #[.int .i64 x0, .int .i64 x1, .int .i64 x2, .string x3, .string ⟨#[]⟩, .string ⟨#[]⟩, .bool false, .int .i64 0, .string ⟨#[]⟩, .string ⟨#[]⟩, .int .i64 0, .int .i64 0]) 3 (.string x3) (by simp) rfl).put (c' := #[.int .i64 x0, .int .i64 x1, .int .i64 x2, .string x3, .string x4, .string ⟨#[]⟩, .bool false, .int .i64 0, .string ⟨#[]⟩, .string ⟨#[]⟩, .int .i64 0, .int .i64 0]) 4 (.string x4) (by simp) rfl).put (c' := #[.int .i64 x0, .int .i64 x1, .int .i64 x2, .string x3, .string x4, .string x5, .bool false, .int .i64 0, .string ⟨#[]⟩, .string ⟨#[]⟩, .int .i64 0, .int .i64 0]) 5 (.string x5) (by simp) rfl).put (c' := #[.int .i64 x0, .int .i64 x1, .int .i64 x2, .string x3, .string x4, .string x5, .bool true, .int .i64 0, .string ⟨#[]⟩, .string ⟨#[]⟩, .int .i64 0, .int .i64 0]) 6 (.bool true) (by simp) rfl).put (c' := #[.int .i64 x0, .int .i64 x1, .int .i64 x2, .string x3, .string x4, .string x5, .bool true, .int .i64 x7, .string ⟨#[]⟩, .string ⟨#[]⟩, .int .i64 0, .int .i64 0]) 7 (.int .i64 x7) (by simp) rfl).put (c' := #[.int .i64 x0, .int .i64 x1, .int .i64 x2, .string x3, .string x4, .string x5, .bool true, .int .i64 x7, .string x8, .string ⟨#[]⟩, .int .i64 0, .int .i64 0]) 8 (.string x8) (by simp) rfl).put (c' := #[.int .i64 x0, .int .i64 x1, .int .i64 x2, .string x3, .string x4, .string x5, .bool true, .int .i64 x7, .string x8, .string x9, .int .i64 0, .int .i64 0]) 9 (.string x9) (by simp) rfl).put (c' := #[.int .i64 x0, .int .i64 x1, .int .i64 x2, .string x3, .string x4, .string x5, .bool true, .int .i64 x7, .string x8, .string x9, .int .i64 x10, .int .i64 0]) 10 (.int .i64 x10) (by simp) rfl).put (c' := #[.int .i64 x0, .int .i64 x1, .int .i64 x2, .string x3, .string x4, .string x5, .bool true, .int .i64 x7, .string x8, .string x9, .int .i64 x10, .int .i64 x11]) 11 (.int .i64 x11) (by simp) rfl)
    have K3 := hidIt ((((((((((((HBs.out.setCell (p := ⟨w.heap.size + 1, 0, none⟩) (Nat.le_succ _) (.int .i64 x0)).setCell (p := ⟨w.heap.size + 1, 1, none⟩) (Nat.le_succ _) (.int .i64 x1)).setCell (p := ⟨w.heap.size + 1, 2, none⟩) (Nat.le_succ _) (.int .i64 x2)).setCell (p := ⟨w.heap.size + 1, 3, none⟩) (Nat.le_succ _) (.string x3)).setCell (p := ⟨w.heap.size + 1, 4, none⟩) (Nat.le_succ _) (.string x4)).setCell (p := ⟨w.heap.size + 1, 5, none⟩) (Nat.le_succ _) (.string x5)).setCell (p := ⟨w.heap.size + 1, 6, none⟩) (Nat.le_succ _) (.bool true)).setCell (p := ⟨w.heap.size + 1, 7, none⟩) (Nat.le_succ _) (.int .i64 x7)).setCell (p := ⟨w.heap.size + 1, 8, none⟩) (Nat.le_succ _) (.string x8)).setCell (p := ⟨w.heap.size + 1, 9, none⟩) (Nat.le_succ _) (.string x9)).setCell (p := ⟨w.heap.size + 1, 10, none⟩) (Nat.le_succ _) (.int .i64 x10)).setCell (p := ⟨w.heap.size + 1, 11, none⟩) (Nat.le_succ _) (.int .i64 x11))
    clear BYs HBs
    go_wp2_with (fail)
    generalize ((((((((((((w1).setCell ⟨w.heap.size + 1, 0, none⟩ (.int .i64 x0)).setCell ⟨w.heap.size + 1, 1, none⟩ (.int .i64 x1)).setCell ⟨w.heap.size + 1, 2, none⟩ (.int .i64 x2)).setCell ⟨w.heap.size + 1, 3, none⟩ (.string x3)).setCell ⟨w.heap.size + 1, 4, none⟩ (.string x4)).setCell ⟨w.heap.size + 1, 5, none⟩ (.string x5)).setCell ⟨w.heap.size + 1, 6, none⟩ (.bool true)).setCell ⟨w.heap.size + 1, 7, none⟩ (.int .i64 x7)).setCell ⟨w.heap.size + 1, 8, none⟩ (.string x8)).setCell ⟨w.heap.size + 1, 9, none⟩ (.string x9)).setCell ⟨w.heap.size + 1, 10, none⟩ (.int .i64 x10)).setCell ⟨w.heap.size + 1, 11, none⟩ (.int .i64 x11) = w3 at B3 K3 ⊢
    clear d0 f0 g0 d1 f1 g1 d2 f2 g2 d3 f3 g3 d4 f4 g4 d5 f5 g5 d6 f6 g6 d7 f7 g7 d8 f8 g8 d9 f9 g9 d10 f10 g10 d11 f11 g11
    have f0 := B3.out.c 0 (v := .int .i64 x0) rfl
    have f1 := B3.out.c 1 (v := .int .i64 x1) rfl
    have f2 := B3.out.c 2 (v := .int .i64 x2) rfl
    have f3 := B3.out.c 3 (v := .string x3) rfl
    have f4 := B3.out.c 4 (v := .string x4) rfl
    have f5 := B3.out.c 5 (v := .string x5) rfl
    have f6 := B3.out.c 6 (v := .bool true) rfl
    have f7 := B3.out.c 7 (v := .int .i64 x7) rfl
    have f8 := B3.out.c 8 (v := .string x8) rfl
    have f9 := B3.out.c 9 (v := .string x9) rfl
    have f10 := B3.out.c 10 (v := .int .i64 x10) rfl
    have f11 := B3.out.c 11 (v := .int .i64 x11) rfl
    refine bodyPost_ret (v := .agg #[.int .i64 x0, .int .i64 x1, .int .i64 x2, .string x3, .string x4, .string x5, .bool true, .int .i64 x7, .string x8, .string x9, .int .i64 x10, .int .i64 x11]) (by simp [results, Try.results25, go_sem, f0, f1, f2, f3, f4, f5, f6, f7, f8, f9, f10, f11]) rfl ⟨by rw [HA.out], K3.out⟩
  | false =>
  cases g6 : decide ((x5.size : Int) ≤ 40) with
  | false =>
    have HA : Hid (ans = .agg #[.int .i64 x0, .int .i64 x1, .int .i64 x2, .string x3, .string x4, .string x5, .bool false, .int .i64 x7, .string x8, .string x9, .int .i64 x10, .int .i64 x11]) := hidIt (HNo.out (by rw [EH.out, g6]; rfl))
    clear HNo HYes EH
    go_enter Try.func25, Try.ntmps25
    go_wp2_with (fail)
    generalize (w.alloc (.cells #[.int .i64 x0, .int .i64 x1, .int .i64 x2, .string x3, .string x4, .string x5, .bool false, .int .i64 x7, .string x8, .string x9, .int .i64 x10, .int .i64 x11] 49)).alloc (.cells #[.int .i64 0, .int .i64 0, .int .i64 0, .string ⟨#[]⟩, .string ⟨#[]⟩, .string ⟨#[]⟩, .bool false, .int .i64 0, .string ⟨#[]⟩, .string ⟨#[]⟩, .int .i64 0, .int .i64 0] 49) = wz at BX BY HB CH ⊢
    refine (CH.out _ HB.out).mono ?_
    rintro e w1 ⟨rfl, kk⟩
    replace HB := hidIt (HB.out.trans (kk.mono HB.out.size))
    replace BX := hidIt (BX.out.kept kk)
    replace BY := hidIt (BY.out.kept kk)
    clear kk d0 d1 d2 d3 d4 d5 d6 d7 d8 d9 d10 d11 CH
    have d0 := BX.out.c 0 (v := .int .i64 x0) rfl
    have d1 := BX.out.c 1 (v := .int .i64 x1) rfl
    have d2 := BX.out.c 2 (v := .int .i64 x2) rfl
    have d3 := BX.out.c 3 (v := .string x3) rfl
    have d4 := BX.out.c 4 (v := .string x4) rfl
    have d5 := BX.out.c 5 (v := .string x5) rfl
    have d6 := BX.out.c 6 (v := .bool false) rfl
    have d7 := BX.out.c 7 (v := .int .i64 x7) rfl
    have d8 := BX.out.c 8 (v := .string x8) rfl
    have d9 := BX.out.c 9 (v := .string x9) rfl
    have d10 := BX.out.c 10 (v := .int .i64 x10) rfl
    have d11 := BX.out.c 11 (v := .int .i64 x11) rfl
    have f0 := BY.out.c 0 (v := .int .i64 0) rfl
    have g0 := BY.out.fr 0
    have f1 := BY.out.c 1 (v := .int .i64 0) rfl
    have g1 := BY.out.fr 1
    have f2 := BY.out.c 2 (v := .int .i64 0) rfl
    have g2 := BY.out.fr 2
    have f3 := BY.out.c 3 (v := .string ⟨#[]⟩) rfl
    have g3 := BY.out.fr 3
    have f4 := BY.out.c 4 (v := .string ⟨#[]⟩) rfl
    have g4 := BY.out.fr 4
    have f5 := BY.out.c 5 (v := .string ⟨#[]⟩) rfl
    have g5 := BY.out.fr 5
    have f6 := BY.out.c 6 (v := .bool false) rfl
    have g6 := BY.out.fr 6
    have f7 := BY.out.c 7 (v := .int .i64 0) rfl
    have g7 := BY.out.fr 7
    have f8 := BY.out.c 8 (v := .string ⟨#[]⟩) rfl
    have g8 := BY.out.fr 8
    have f9 := BY.out.c 9 (v := .string ⟨#[]⟩) rfl
    have g9 := BY.out.fr 9
    have f10 := BY.out.c 10 (v := .int .i64 0) rfl
    have g10 := BY.out.fr 10
    have f11 := BY.out.c 11 (v := .int .i64 0) rfl
    have g11 := BY.out.fr 11
    have BYs := BY
    have HBs := HB
    have B3 := hidIt ((((((((((((BYs.out.put (c' := #[.int .i64 x0, .int .i64 0, .int .i64 0, .string ⟨#[]⟩, .string ⟨#[]⟩, .string ⟨#[]⟩, .bool false, .int .i64 0, .string ⟨#[]⟩, .string ⟨#[]⟩, .int .i64 0, .int .i64 0]) 0 (.int .i64 x0) (by simp) rfl).put (c' := #[.int .i64 x0, .int .i64 x1, .int .i64 0, .string ⟨#[]⟩, .string ⟨#[]⟩, .string ⟨#[]⟩, .bool false, .int .i64 0, .string ⟨#[]⟩, .string ⟨#[]⟩, .int .i64 0, .int .i64 0]) 1 (.int .i64 x1) (by simp) rfl).put (c' := #[.int .i64 x0, .int .i64 x1, .int .i64 x2, .string ⟨#[]⟩, .string ⟨#[]⟩, .string ⟨#[]⟩, .bool false, .int .i64 0, .string ⟨#[]⟩, .string ⟨#[]⟩, .int .i64 0, .int .i64 0]) 2 (.int .i64 x2) (by simp) rfl).put (c' := #[.int .i64 x0, .int .i64 x1, .int .i64 x2, .string x3, .string ⟨#[]⟩, .string ⟨#[]⟩, .bool false, .int .i64 0, .string ⟨#[]⟩, .string ⟨#[]⟩, .int .i64 0, .int .i64 0]) 3 (.string x3) (by simp) rfl).put (c' := #[.int .i64 x0, .int .i64 x1, .int .i64 x2, .string x3, .string x4, .string ⟨#[]⟩, .bool false, .int .i64 0, .string ⟨#[]⟩, .string ⟨#[]⟩, .int .i64 0, .int .i64 0]) 4 (.string x4) (by simp) rfl).put (c' := #[.int .i64 x0, .int .i64 x1, .int .i64 x2, .string x3, .string x4, .string x5, .bool false, .int .i64 0, .string ⟨#[]⟩, .string ⟨#[]⟩, .int .i64 0, .int .i64 0]) 5 (.string x5) (by simp) rfl).put (c' := #[.int .i64 x0, .int .i64 x1, .int .i64 x2, .string x3, .string x4, .string x5, .bool false, .int .i64 0, .string ⟨#[]⟩, .string ⟨#[]⟩, .int .i64 0, .int .i64 0]) 6 (.bool false) (by simp) rfl).put (c' := #[.int .i64 x0, .int .i64 x1, .int .i64 x2, .string x3, .string x4, .string x5, .bool false, .int .i64 x7, .string ⟨#[]⟩, .string ⟨#[]⟩, .int .i64 0, .int .i64 0]) 7 (.int .i64 x7) (by simp) rfl).put (c' := #[.int .i64 x0, .int .i64 x1, .int .i64 x2, .string x3, .string x4, .string x5, .bool false, .int .i64 x7, .string x8, .string ⟨#[]⟩, .int .i64 0, .int .i64 0]) 8 (.string x8) (by simp) rfl).put (c' := #[.int .i64 x0, .int .i64 x1, .int .i64 x2, .string x3, .string x4, .string x5, .bool false, .int .i64 x7, .string x8, .string x9, .int .i64 0, .int .i64 0]) 9 (.string x9) (by simp) rfl).put (c' := #[.int .i64 x0, .int .i64 x1, .int .i64 x2, .string x3, .string x4, .string x5, .bool false, .int .i64 x7, .string x8, .string x9, .int .i64 x10, .int .i64 0]) 10 (.int .i64 x10) (by simp) rfl).put (c' := #[.int .i64 x0, .int .i64 x1, .int .i64 x2, .string x3, .string x4, .string x5, .bool false, .int .i64 x7, .string x8, .string x9, .int .i64 x10, .int .i64 x11]) 11 (.int .i64 x11) (by simp) rfl)
    have K3 := hidIt ((((((((((((HBs.out.setCell (p := ⟨w.heap.size + 1, 0, none⟩) (Nat.le_succ _) (.int .i64 x0)).setCell (p := ⟨w.heap.size + 1, 1, none⟩) (Nat.le_succ _) (.int .i64 x1)).setCell (p := ⟨w.heap.size + 1, 2, none⟩) (Nat.le_succ _) (.int .i64 x2)).setCell (p := ⟨w.heap.size + 1, 3, none⟩) (Nat.le_succ _) (.string x3)).setCell (p := ⟨w.heap.size + 1, 4, none⟩) (Nat.le_succ _) (.string x4)).setCell (p := ⟨w.heap.size + 1, 5, none⟩) (Nat.le_succ _) (.string x5)).setCell (p := ⟨w.heap.size + 1, 6, none⟩) (Nat.le_succ _) (.bool false)).setCell (p := ⟨w.heap.size + 1, 7, none⟩) (Nat.le_succ _) (.int .i64 x7)).setCell (p := ⟨w.heap.size + 1, 8, none⟩) (Nat.le_succ _) (.string x8)).setCell (p := ⟨w.heap.size + 1, 9, none⟩) (Nat.le_succ _) (.string x9)).setCell (p := ⟨w.heap.size + 1, 10, none⟩) (Nat.le_succ _) (.int .i64 x10)).setCell (p := ⟨w.heap.size + 1, 11, none⟩) (Nat.le_succ _) (.int .i64 x11))
    clear BYs HBs
    go_wp2_with (fail)
    generalize ((((((((((((w1).setCell ⟨w.heap.size + 1, 0, none⟩ (.int .i64 x0)).setCell ⟨w.heap.size + 1, 1, none⟩ (.int .i64 x1)).setCell ⟨w.heap.size + 1, 2, none⟩ (.int .i64 x2)).setCell ⟨w.heap.size + 1, 3, none⟩ (.string x3)).setCell ⟨w.heap.size + 1, 4, none⟩ (.string x4)).setCell ⟨w.heap.size + 1, 5, none⟩ (.string x5)).setCell ⟨w.heap.size + 1, 6, none⟩ (.bool false)).setCell ⟨w.heap.size + 1, 7, none⟩ (.int .i64 x7)).setCell ⟨w.heap.size + 1, 8, none⟩ (.string x8)).setCell ⟨w.heap.size + 1, 9, none⟩ (.string x9)).setCell ⟨w.heap.size + 1, 10, none⟩ (.int .i64 x10)).setCell ⟨w.heap.size + 1, 11, none⟩ (.int .i64 x11) = w3 at B3 K3 ⊢
    clear d0 f0 g0 d1 f1 g1 d2 f2 g2 d3 f3 g3 d4 f4 g4 d5 f5 g5 d6 f6 g6 d7 f7 g7 d8 f8 g8 d9 f9 g9 d10 f10 g10 d11 f11 g11
    have f0 := B3.out.c 0 (v := .int .i64 x0) rfl
    have f1 := B3.out.c 1 (v := .int .i64 x1) rfl
    have f2 := B3.out.c 2 (v := .int .i64 x2) rfl
    have f3 := B3.out.c 3 (v := .string x3) rfl
    have f4 := B3.out.c 4 (v := .string x4) rfl
    have f5 := B3.out.c 5 (v := .string x5) rfl
    have f6 := B3.out.c 6 (v := .bool false) rfl
    have f7 := B3.out.c 7 (v := .int .i64 x7) rfl
    have f8 := B3.out.c 8 (v := .string x8) rfl
    have f9 := B3.out.c 9 (v := .string x9) rfl
    have f10 := B3.out.c 10 (v := .int .i64 x10) rfl
    have f11 := B3.out.c 11 (v := .int .i64 x11) rfl
    refine bodyPost_ret (v := .agg #[.int .i64 x0, .int .i64 x1, .int .i64 x2, .string x3, .string x4, .string x5, .bool false, .int .i64 x7, .string x8, .string x9, .int .i64 x10, .int .i64 x11]) (by simp [results, Try.results25, go_sem, f0, f1, f2, f3, f4, f5, f6, f7, f8, f9, f10, f11]) rfl ⟨by rw [HA.out], K3.out⟩
  | true =>
    have HA : Hid (ans = .agg #[.int .i64 x0, .int .i64 x1, .int .i64 x2, .string x3, .string x4, .string ⟨#[45]⟩, .bool false, .int .i64 x7, .string x8, .string x9, .int .i64 x10, .int .i64 x11]) := hidIt (HYes.out (by rw [EH.out, g6]; rfl))
    clear HNo HYes EH
    go_enter Try.func25, Try.ntmps25
    go_wp2_with (fail)
    generalize (w.alloc (.cells #[.int .i64 x0, .int .i64 x1, .int .i64 x2, .string x3, .string x4, .string x5, .bool false, .int .i64 x7, .string x8, .string x9, .int .i64 x10, .int .i64 x11] 49)).alloc (.cells #[.int .i64 0, .int .i64 0, .int .i64 0, .string ⟨#[]⟩, .string ⟨#[]⟩, .string ⟨#[]⟩, .bool false, .int .i64 0, .string ⟨#[]⟩, .string ⟨#[]⟩, .int .i64 0, .int .i64 0] 49) = wz at BX BY HB CH ⊢
    refine (CH.out _ HB.out).mono ?_
    rintro e w1 ⟨rfl, kk⟩
    replace HB := hidIt (HB.out.trans (kk.mono HB.out.size))
    replace BX := hidIt (BX.out.kept kk)
    replace BY := hidIt (BY.out.kept kk)
    clear kk d0 d1 d2 d3 d4 d5 d6 d7 d8 d9 d10 d11 CH
    have d0 := BX.out.c 0 (v := .int .i64 x0) rfl
    have d1 := BX.out.c 1 (v := .int .i64 x1) rfl
    have d2 := BX.out.c 2 (v := .int .i64 x2) rfl
    have d3 := BX.out.c 3 (v := .string x3) rfl
    have d4 := BX.out.c 4 (v := .string x4) rfl
    have d5 := BX.out.c 5 (v := .string x5) rfl
    have d6 := BX.out.c 6 (v := .bool false) rfl
    have d7 := BX.out.c 7 (v := .int .i64 x7) rfl
    have d8 := BX.out.c 8 (v := .string x8) rfl
    have d9 := BX.out.c 9 (v := .string x9) rfl
    have d10 := BX.out.c 10 (v := .int .i64 x10) rfl
    have d11 := BX.out.c 11 (v := .int .i64 x11) rfl
    have f0 := BY.out.c 0 (v := .int .i64 0) rfl
    have g0 := BY.out.fr 0
    have f1 := BY.out.c 1 (v := .int .i64 0) rfl
    have g1 := BY.out.fr 1
    have f2 := BY.out.c 2 (v := .int .i64 0) rfl
    have g2 := BY.out.fr 2
    have f3 := BY.out.c 3 (v := .string ⟨#[]⟩) rfl
    have g3 := BY.out.fr 3
    have f4 := BY.out.c 4 (v := .string ⟨#[]⟩) rfl
    have g4 := BY.out.fr 4
    have f5 := BY.out.c 5 (v := .string ⟨#[]⟩) rfl
    have g5 := BY.out.fr 5
    have f6 := BY.out.c 6 (v := .bool false) rfl
    have g6 := BY.out.fr 6
    have f7 := BY.out.c 7 (v := .int .i64 0) rfl
    have g7 := BY.out.fr 7
    have f8 := BY.out.c 8 (v := .string ⟨#[]⟩) rfl
    have g8 := BY.out.fr 8
    have f9 := BY.out.c 9 (v := .string ⟨#[]⟩) rfl
    have g9 := BY.out.fr 9
    have f10 := BY.out.c 10 (v := .int .i64 0) rfl
    have g10 := BY.out.fr 10
    have f11 := BY.out.c 11 (v := .int .i64 0) rfl
    have g11 := BY.out.fr 11
    have h5 := BX.out.fr 5
    have BYs := hidIt (BY.out.other (d := w.heap.size) (i := 5) (v := .string ⟨#[45]⟩) (by omega))
    have HBs := hidIt (HB.out.setCell (p := ⟨w.heap.size, 5, none⟩) (Nat.le_refl _) (.string ⟨#[45]⟩))
    have B3 := hidIt ((((((((((((BYs.out.put (c' := #[.int .i64 x0, .int .i64 0, .int .i64 0, .string ⟨#[]⟩, .string ⟨#[]⟩, .string ⟨#[]⟩, .bool false, .int .i64 0, .string ⟨#[]⟩, .string ⟨#[]⟩, .int .i64 0, .int .i64 0]) 0 (.int .i64 x0) (by simp) rfl).put (c' := #[.int .i64 x0, .int .i64 x1, .int .i64 0, .string ⟨#[]⟩, .string ⟨#[]⟩, .string ⟨#[]⟩, .bool false, .int .i64 0, .string ⟨#[]⟩, .string ⟨#[]⟩, .int .i64 0, .int .i64 0]) 1 (.int .i64 x1) (by simp) rfl).put (c' := #[.int .i64 x0, .int .i64 x1, .int .i64 x2, .string ⟨#[]⟩, .string ⟨#[]⟩, .string ⟨#[]⟩, .bool false, .int .i64 0, .string ⟨#[]⟩, .string ⟨#[]⟩, .int .i64 0, .int .i64 0]) 2 (.int .i64 x2) (by simp) rfl).put (c' := #[.int .i64 x0, .int .i64 x1, .int .i64 x2, .string x3, .string ⟨#[]⟩, .string ⟨#[]⟩, .bool false, .int .i64 0, .string ⟨#[]⟩, .string ⟨#[]⟩, .int .i64 0, .int .i64 0]) 3 (.string x3) (by simp) rfl).put (c' := #[.int .i64 x0, .int .i64 x1, .int .i64 x2, .string x3, .string x4, .string ⟨#[]⟩, .bool false, .int .i64 0, .string ⟨#[]⟩, .string ⟨#[]⟩, .int .i64 0, .int .i64 0]) 4 (.string x4) (by simp) rfl).put (c' := #[.int .i64 x0, .int .i64 x1, .int .i64 x2, .string x3, .string x4, .string ⟨#[45]⟩, .bool false, .int .i64 0, .string ⟨#[]⟩, .string ⟨#[]⟩, .int .i64 0, .int .i64 0]) 5 (.string ⟨#[45]⟩) (by simp) rfl).put (c' := #[.int .i64 x0, .int .i64 x1, .int .i64 x2, .string x3, .string x4, .string ⟨#[45]⟩, .bool false, .int .i64 0, .string ⟨#[]⟩, .string ⟨#[]⟩, .int .i64 0, .int .i64 0]) 6 (.bool false) (by simp) rfl).put (c' := #[.int .i64 x0, .int .i64 x1, .int .i64 x2, .string x3, .string x4, .string ⟨#[45]⟩, .bool false, .int .i64 x7, .string ⟨#[]⟩, .string ⟨#[]⟩, .int .i64 0, .int .i64 0]) 7 (.int .i64 x7) (by simp) rfl).put (c' := #[.int .i64 x0, .int .i64 x1, .int .i64 x2, .string x3, .string x4, .string ⟨#[45]⟩, .bool false, .int .i64 x7, .string x8, .string ⟨#[]⟩, .int .i64 0, .int .i64 0]) 8 (.string x8) (by simp) rfl).put (c' := #[.int .i64 x0, .int .i64 x1, .int .i64 x2, .string x3, .string x4, .string ⟨#[45]⟩, .bool false, .int .i64 x7, .string x8, .string x9, .int .i64 0, .int .i64 0]) 9 (.string x9) (by simp) rfl).put (c' := #[.int .i64 x0, .int .i64 x1, .int .i64 x2, .string x3, .string x4, .string ⟨#[45]⟩, .bool false, .int .i64 x7, .string x8, .string x9, .int .i64 x10, .int .i64 0]) 10 (.int .i64 x10) (by simp) rfl).put (c' := #[.int .i64 x0, .int .i64 x1, .int .i64 x2, .string x3, .string x4, .string ⟨#[45]⟩, .bool false, .int .i64 x7, .string x8, .string x9, .int .i64 x10, .int .i64 x11]) 11 (.int .i64 x11) (by simp) rfl)
    have K3 := hidIt ((((((((((((HBs.out.setCell (p := ⟨w.heap.size + 1, 0, none⟩) (Nat.le_succ _) (.int .i64 x0)).setCell (p := ⟨w.heap.size + 1, 1, none⟩) (Nat.le_succ _) (.int .i64 x1)).setCell (p := ⟨w.heap.size + 1, 2, none⟩) (Nat.le_succ _) (.int .i64 x2)).setCell (p := ⟨w.heap.size + 1, 3, none⟩) (Nat.le_succ _) (.string x3)).setCell (p := ⟨w.heap.size + 1, 4, none⟩) (Nat.le_succ _) (.string x4)).setCell (p := ⟨w.heap.size + 1, 5, none⟩) (Nat.le_succ _) (.string ⟨#[45]⟩)).setCell (p := ⟨w.heap.size + 1, 6, none⟩) (Nat.le_succ _) (.bool false)).setCell (p := ⟨w.heap.size + 1, 7, none⟩) (Nat.le_succ _) (.int .i64 x7)).setCell (p := ⟨w.heap.size + 1, 8, none⟩) (Nat.le_succ _) (.string x8)).setCell (p := ⟨w.heap.size + 1, 9, none⟩) (Nat.le_succ _) (.string x9)).setCell (p := ⟨w.heap.size + 1, 10, none⟩) (Nat.le_succ _) (.int .i64 x10)).setCell (p := ⟨w.heap.size + 1, 11, none⟩) (Nat.le_succ _) (.int .i64 x11))
    clear BYs HBs
    go_wp2_with (fail)
    generalize ((((((((((((w1.setCell ⟨w.heap.size, 5, none⟩ (.string ⟨#[45]⟩)).setCell ⟨w.heap.size + 1, 0, none⟩ (.int .i64 x0)).setCell ⟨w.heap.size + 1, 1, none⟩ (.int .i64 x1)).setCell ⟨w.heap.size + 1, 2, none⟩ (.int .i64 x2)).setCell ⟨w.heap.size + 1, 3, none⟩ (.string x3)).setCell ⟨w.heap.size + 1, 4, none⟩ (.string x4)).setCell ⟨w.heap.size + 1, 5, none⟩ (.string ⟨#[45]⟩)).setCell ⟨w.heap.size + 1, 6, none⟩ (.bool false)).setCell ⟨w.heap.size + 1, 7, none⟩ (.int .i64 x7)).setCell ⟨w.heap.size + 1, 8, none⟩ (.string x8)).setCell ⟨w.heap.size + 1, 9, none⟩ (.string x9)).setCell ⟨w.heap.size + 1, 10, none⟩ (.int .i64 x10)).setCell ⟨w.heap.size + 1, 11, none⟩ (.int .i64 x11) = w3 at B3 K3 ⊢
    clear d0 f0 g0 d1 f1 g1 d2 f2 g2 d3 f3 g3 d4 f4 g4 d5 f5 g5 d6 f6 g6 d7 f7 g7 d8 f8 g8 d9 f9 g9 d10 f10 g10 d11 f11 g11
    have f0 := B3.out.c 0 (v := .int .i64 x0) rfl
    have f1 := B3.out.c 1 (v := .int .i64 x1) rfl
    have f2 := B3.out.c 2 (v := .int .i64 x2) rfl
    have f3 := B3.out.c 3 (v := .string x3) rfl
    have f4 := B3.out.c 4 (v := .string x4) rfl
    have f5 := B3.out.c 5 (v := .string ⟨#[45]⟩) rfl
    have f6 := B3.out.c 6 (v := .bool false) rfl
    have f7 := B3.out.c 7 (v := .int .i64 x7) rfl
    have f8 := B3.out.c 8 (v := .string x8) rfl
    have f9 := B3.out.c 9 (v := .string x9) rfl
    have f10 := B3.out.c 10 (v := .int .i64 x10) rfl
    have f11 := B3.out.c 11 (v := .int .i64 x11) rfl
    refine bodyPost_ret (v := .agg #[.int .i64 x0, .int .i64 x1, .int .i64 x2, .string x3, .string x4, .string ⟨#[45]⟩, .bool false, .int .i64 x7, .string x8, .string x9, .int .i64 x10, .int .i64 x11]) (by simp [results, Try.results25, go_sem, f0, f1, f2, f3, f4, f5, f6, f7, f8, f9, f10, f11]) rfl ⟨by rw [HA.out], K3.out⟩
set_option maxRecDepth 100000 in
set_option maxHeartbeats 32000000 in
theorem impl_Blind (a ra : Option Addr) (cap rcap : Nat) (L : List Rw) (R : List Ru.Rw) (t : ByteArray) (w : World) (h : Rd w a L) (hr : Ru.Rd w ra R) (hl : L.length ≤ 9223372036854775807) (hs : ∀ i, i < L.length → (rat L i).2.2.2.1.size ≤ 9223372036854775807 ∧ (rat L i).2.2.2.2.1.size ≤ 9223372036854775807 ∧ (rat L i).2.2.2.2.2.1.size ≤ 9223372036854775807 ∧ (rat L i).2.2.2.2.2.2.2.2.1.size ≤ 9223372036854775807 ∧ (rat L i).2.2.2.2.2.2.2.2.2.1.size ≤ 9223372036854775807) (hrl : R.length ≤ 9223372036854775807) (hrs : ∀ i, i < R.length → (Ru.rat R i).1.size ≤ 9223372036854775807) :
    Calls Try.prog 10 #[.slice a L.length cap, .string t, .slice ra R.length rcap] w fun e w' => ∃ v, e = .returned v ∧ Own w' w.heap.size v (blindR R L) ∧ Below w.heap.size w w' := by
  obtain ⟨i0, hi0, hz0, hz1, hz2⟩ := info_parts infoRw
  have CO := hidIt (fun W (k : Below w.heap.size w W) => Ru.impl_RulesOk ra rcap R W (hr.kept k) hrl hrs)
  have HRr := hidIt hr
  have HRs := hidIt hrs
  have HR := hidIt h
  have HSh := hidIt hs
  have HTk := hidIt (fun i (hi : i < L.length) => take_rat (L := L) (i := i) hi)
  have N1 : Hid ((Ru.okR R && decide (L.length ≤ 200)) = false → blindR R L = []) := hidIt (fun z => by unfold blindR; rw [z]; rfl)
  have N2 : Hid ((Ru.okR R && decide (L.length ≤ 200)) = true → blindR R L = (L.take L.length).map (bliA R)) := hidIt (fun z => by unfold blindR; rw [z, List.take_length]; rfl)
  generalize blindR R L = ans at N1 N2 ⊢
  generalize Ru.okR R = k0 at CO N1 N2
  generalize hn : L.length = m at *
  have HN := hidIt hn
  clear h hr hs hn
  generalize hmr : R.length = mr at *
  have HMr := hidIt hmr
  clear hmr hrs
  have HB0 := hidIt ((Below.refl w.heap.size w).alloc (Nat.le_refl _) (.cells #[] 49))
  have HO0 : Hid (Own (w.alloc (.cells #[] 49)) w.heap.size (.slice (some ⟨w.heap.size, 0, none⟩) 0 0) []) := hidIt (Own.new w)
  cases k0 with
  | false =>
    have er := N1.out rfl
    subst er
    go_enter Try.func10, Try.ntmps10
    go_wp2_with (fail)
    refine (CO.out _ HB0.out).mono ?_
    rintro e w1 ⟨rfl, k1⟩
    have HO1 := hidIt (HO0.out.kept k1)
    have HB1 := hidIt (HB0.out.trans (k1.mono HB0.out.size))
    clear k1
    go_wp2_with (fail)
    go_ret
    exact ⟨_, rfl, HO1.out, HB1.out⟩
  | true =>
  by_cases h200 : m ≤ 200
  case neg =>
    have er := N1.out (by rw [decide_eq_false h200]; rfl)
    subst er
    have g2 : decide ((200 : Int) < (m : Int)) = true := decide_eq_true (by omega)
    go_enter Try.func10, Try.ntmps10
    go_wp2_with (fail)
    refine (CO.out _ HB0.out).mono ?_
    rintro e w1 ⟨rfl, k1⟩
    have HO1 := hidIt (HO0.out.kept k1)
    have HB1 := hidIt (HB0.out.trans (k1.mono HB0.out.size))
    clear k1
    go_wp2_with (fail)
    go_ret
    exact ⟨_, rfl, HO1.out, HB1.out⟩
  have er := N2.out (by rw [decide_eq_true h200]; rfl)
  have g2 : decide ((200 : Int) < (m : Int)) = false := decide_eq_false (by omega)
  go_enter Try.func10, Try.ntmps10
  go_wp2_with (fail)
  refine (CO.out _ HB0.out).mono ?_
  rintro e w1 ⟨rfl, k1⟩
  have HO1 := hidIt (HO0.out.kept k1)
  have HB1 := hidIt (HB0.out.trans (k1.mono HB0.out.size))
  have HAn := hidIt er
  clear k1 N1 N2 er HO0 HB0 CO
  go_wp2_with (fail)
  go_loopw [7, 22] (fun z y wx => ∃ (i : Nat) (va : Option Addr) (vc : Nat), y = .int .i64 i ∧ z = .slice va i vc ∧ i ≤ m ∧ Hid (Own wx w.heap.size (.slice va i vc) ((L.take i).map (bliA R))) ∧ Hid (Below w.heap.size w wx)) (fun _ y _ => (m - intOf y).toNat)
  case atStart => exact ⟨0, some ⟨w.heap.size, 0, none⟩, 0, rfl, rfl, by omega, hidIt (by rw [List.take_zero]; exact HO1.out), HB1⟩
  case round =>
    obtain ⟨i, va, vc, rfl, rfl, hi, HO, HB⟩ := hrel
    clear HO1 HB1 g2
    by_cases hin : i < m
    · have hin' : (i : Int) < (m : Int) := by omega
      have hi0' : (0 : Int) ≤ (i : Int) := by omega
      have hiL : i < L.length := by rw [HN.out]; exact hin
      obtain ⟨b, off, ea, c0, c1, c2, c3, c4, c5, c6, c7, c8, c9, c10, c11⟩ := (HR.out.kept HB.out).all (i := i) hiL
      subst ea
      have HTK := hidIt (HTk.out i hin)
      have hsi := HSh.out i hin
      obtain ⟨M, hMe⟩ : ∃ M, (L.take i).map (bliA R) = M := ⟨_, rfl⟩
      have HLn : Hid (M.length = i) := hidIt (by rw [← hMe, List.length_map, List.length_take]; omega)
      have HMe := hidIt hMe
      rw [hMe] at HO
      clear hMe
      obtain ⟨x, hx⟩ : ∃ x, rat L i = x := ⟨_, rfl⟩
      have HX := hidIt hx
      rw [hx] at c0 c1 c2 c3 c4 c5 c6 c7 c8 c9 c10 c11 hsi
      clear hx hiL
      obtain ⟨x0, x1, x2, x3, x4, x5, x6, x7, x8, x9, x10, x11⟩ := x
      simp only at c0 c1 c2 c3 c4 c5 c6 c7 c8 c9 c10 c11 hsi
      have hs4 := hsi.2.1
      clear hsi
      have BX := hidIt (Bo.Box.new wr #[.int .i64 x0, .int .i64 x1, .int .i64 x2, .string x3, .string x4, .string x5, .bool x6, .int .i64 x7, .string x8, .string x9, .int .i64 x10, .int .i64 x11] 49)
      have kA0 : Below wr.heap.size wr (wr.alloc (.cells #[.int .i64 x0, .int .i64 x1, .int .i64 x2, .string x3, .string x4, .string x5, .bool x6, .int .i64 x7, .string x8, .string x9, .int .i64 x10, .int .i64 x11] 49)) := (Below.refl _ _).alloc (Nat.le_refl _) _
      have KA0 := hidIt kA0
      have CB := hidIt (impl_blinded x0 x1 x2 x3 x4 x5 x6 x7 x8 x9 x10 x11 ra rcap R (wr.alloc (.cells #[.int .i64 x0, .int .i64 x1, .int .i64 x2, .string x3, .string x4, .string x5, .bool x6, .int .i64 x7, .string x8, .string x9, .int .i64 x10, .int .i64 x11] 49)) (HRr.out.kept (HB.out.trans (kA0.mono HB.out.size))) (by rw [HMr.out]; exact hrl) (by rw [HMr.out]; exact HRs.out) hs4)
      rw [HMr.out] at CB
      obtain ⟨y, hy⟩ : ∃ y, bliA R (x0, x1, x2, x3, x4, x5, x6, x7, x8, x9, x10, x11) = y := ⟨_, rfl⟩
      rw [hy] at CB
      have hM : (L.take (i + 1)).map (bliA R) = M ++ [y] := by rw [HTK.out, HX.out]; simp only [List.map_append, List.map_cons, List.map_nil]; rw [HMe.out, hy]
      have HM2 := hidIt hM
      clear hM hy kA0
      obtain ⟨y0, y1, y2, y3, y4, y5, y6, y7, y8, y9, y10, y11⟩ := y
      simp only [rv] at CB
      go_wp2_with (fail)
      generalize wr.alloc (.cells #[.int .i64 x0, .int .i64 x1, .int .i64 x2, .string x3, .string x4, .string x5, .bool x6, .int .i64 x7, .string x8, .string x9, .int .i64 x10, .int .i64 x11] 49) = W0 at BX KA0 CB ⊢
      refine CB.out.mono ?_
      rintro e w1 ⟨rfl, kk⟩
      have k1 : Below wr.heap.size wr w1 := KA0.out.trans (kk.mono KA0.out.size)
      clear kk BX KA0 CB c0 c1 c2 c3 c4 c5 c6 c7 c8 c9 c10 c11
      have kA : Below wr.heap.size wr (w1.alloc (.cells #[.int .i64 y0, .int .i64 y1, .int .i64 y2, .string y3, .string y4, .string y5, .bool y6, .int .i64 y7, .string y8, .string y9, .int .i64 y10, .int .i64 y11] 49)) := k1.alloc k1.size _
      have HRow : Hid (World.ownsRow (w1.alloc (.cells #[.int .i64 y0, .int .i64 y1, .int .i64 y2, .string y3, .string y4, .string y5, .bool y6, .int .i64 y7, .string y8, .string y9, .int .i64 y10, .int .i64 y11] 49)) w.heap.size 49 12 (.slice va i vc) M.length (rcells M)) := hidIt (HO.out.kept kA)
      have HAl := hidIt kA
      have HFr : Hid (∀ j u, (rcells [((y0, y1, y2, y3, y4, y5, y6, y7, y8, y9, y10, y11) : Rw)])[j]? = some u → (w1.alloc (.cells #[.int .i64 y0, .int .i64 y1, .int .i64 y2, .string y3, .string y4, .string y5, .bool y6, .int .i64 y7, .string y8, .string y9, .int .i64 y10, .int .i64 y11] 49)).cell? ((⟨w1.heap.size, 0, none⟩ : Addr).add j) = some u) := hidIt (fun j u hj => fresh w1 (y0, y1, y2, y3, y4, y5, y6, y7, y8, y9, y10, y11) 49 j u hj)
      clear kA k1
      go_wp2_with (first | (at_builtin; refine wpList_append_own _ rfl _ _ 26 rfl w.heap.size 49 i0 (.agg #[.int .i64 0, .int .i64 0, .int .i64 0, .string ByteArray.empty, .string ByteArray.empty, .string ByteArray.empty, .bool false, .int .i64 0, .string ByteArray.empty, .string ByteArray.empty, .int .i64 0, .int .i64 0]) 12 136 Try.underlying26 hi0 hz0 hz1 hz2 rfl (by decide) _ _ _ rfl HRow.out ⟨w1.heap.size, 0, none⟩ 1 1 [.int .i64 y0, .int .i64 y1, .int .i64 y2, .string y3, .string y4, .string y5, .bool y6, .int .i64 y7, .string y8, .string y9, .int .i64 y10, .int .i64 y11] rfl rfl HFr.out (rcells_one [(y0, y1, y2, y3, y4, y5, y6, y7, y8, y9, y10, y11)]) ?ca1 ?ca2 ?ca3 ?_) | fail)
      case ca1 => unfold maxLen; rw [HLn.out]; omega
      case ca2 => rw [HLn.out]; omega
      case ca3 => exact Nat.le_trans HB.out.size HAl.out.size
      intro v' w9 hown hgrow hnil
      have oo : Own w9 w.heap.size v' ((L.take (i + 1)).map (bliA R)) := by rw [HM2.out]; exact Own.more (L := M) (M := [(y0, y1, y2, y3, y4, y5, y6, y7, y8, y9, y10, y11)]) hown
      have kG : Below w.heap.size w w9 := (HB.out.trans (HAl.out.mono HB.out.size)).trans (grown_below (L := M) HRow.out hgrow (Nat.le_refl _) (Nat.le_trans HB.out.size HAl.out.size))
      obtain ⟨za, zc, ez, _⟩ := oo.formN (m := i + 1) (by rw [List.length_map, List.length_take, HN.out]; omega)
      subst ez
      have HO9 := hidIt oo
      have HB9 := hidIt kG
      clear hown hgrow hnil oo kG HRow HFr HAl HM2
      go_wp2_with (fail)
      exact ⟨⟨i + 1, za, zc, by simp, rfl, by omega, HO9, HB9⟩, by simp [intOf]; omega⟩
    · have hin' : ¬ (i : Int) < (m : Int) := by omega
      obtain rfl : i = m := by omega
      go_wp2_with (fail)
      go_ret
      exact ⟨_, rfl, by rw [HAn.out]; exact HO.out, HB.out⟩
end Go.Proofs.Ytbdibkcamomgpaa.Ac
