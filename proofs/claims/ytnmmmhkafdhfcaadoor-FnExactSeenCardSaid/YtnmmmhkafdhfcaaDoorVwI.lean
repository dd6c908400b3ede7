/-
  The Key of a token, the name of a Key, whether an Entry is seen (the landed program).
-/
import Derived.Test.YtnmmmhkafdhfcaaDoorVwH
namespace Go.Proofs.YtnmmmhkafdhfcaaDoor.Vw
open Go.ChangeShapes Go.WideShapes Go.ChangeAt Go.RowKit
set_option linter.unusedVariables false
set_option maxRecDepth 100000 in
set_option maxHeartbeats 8000000 in
theorem impl_keyOfToken (t : ByteArray) (w : World) (ht : t.size ≤ 1048576) :
    Calls Tryd.prog 40 #[.string t] w fun e w' => e = .returned (.tuple #[.string (⟨#[97, 99, 108, 47]⟩ ++ t), .bool (tokB t)]) ∧ w' = w := by
  have C := hidIt (impl_tokenOk t w (by omega))
  generalize tokB t = k at C ⊢
  go_enter Tryd.func40, Tryd.ntmps40
  go_wp2_with (fail)
  refine C.out.mono ?_
  rintro e w1 ⟨rfl, rfl⟩
  go_wp2_with (fail)
  refine bodyPost_ret (v := .tuple #[.string (⟨#[97, 99, 108, 47]⟩ ++ t), .bool k]) (by simp [results, Tryd.results40, go_sem]) rfl ⟨rfl, rfl⟩
set_option maxRecDepth 100000 in
set_option maxHeartbeats 8000000 in
theorem impl_hasLabels (s : ByteArray) (w : World) :
    Calls Tryd.prog 73 #[.string s] w fun e w' => e = .returned (.bool (decide (s.size ≠ 0) && Nm.okB (bs s))) ∧ Below w.heap.size w w' := by
  have he := empty_is s
  have CN : Hid (∀ W, Calls Tryd.prog 87 #[.string s] W fun e w' => e = .returned (.bool (Nm.okB (bs s))) ∧ Below W.heap.size W w') := hidIt (fun W => Nm.impl_NameOk s W)
  generalize Nm.okB (bs s) = r at CN ⊢
  by_cases h5 : s.size = 0
  · rw [decide_eq_true h5] at he
    rw [decide_eq_false (p := s.size ≠ 0) (by omega), Bool.false_and]
    clear h5
    go_enter Tryd.func73, Tryd.ntmps73
    go_wp2_with (fail)
    go_ret
    exact ⟨rfl, Below.refl _ _⟩
  · rw [decide_eq_false h5] at he
    rw [decide_eq_true (p := s.size ≠ 0) h5, Bool.true_and]
    clear h5
    go_enter Tryd.func73, Tryd.ntmps73
    go_wp2_with (fail)
    refine (CN.out _).mono ?_
    rintro e w2 ⟨rfl, kk⟩
    have HB := hidIt kk
    clear kk
    go_wp2_with (fail)
    go_ret
    exact ⟨rfl, HB.out⟩
theorem ext_size {k : ByteArray} (h : 4 ≤ k.size) : (k.extract 4 k.size).size = k.size - 4 := by simp
set_option maxRecDepth 100000 in
set_option maxHeartbeats 8000000 in
theorem impl_nameOfKey (k : ByteArray) (w : World) (hk : k.size ≤ 9223372036854775807) :
    Calls Tryd.prog 59 #[.string k] w fun e w' => ∃ u : ByteArray, e = .returned (.tuple #[.string u, .bool (svcB k)]) ∧ (svcB k = true → u = k.extract 4 k.size) ∧ Below w.heap.size w w' := by
  have C := hidIt (lib_CutPrefix k w hk)
  rw [svcB_cut]
  cases hc : (decide (4 ≤ k.size) && decide (bs (k.extract 0 4) = [115, 118, 99, 47])) with
  | false =>
    rw [hc] at C
    rw [Bool.false_and]
    clear hc
    go_enter Tryd.func59, Tryd.ntmps59
    go_wp2_with (fail)
    refine C.out.mono ?_
    rintro e w1 ⟨u, rfl, hu, rfl⟩
    clear hu
    go_wp2_with (fail)
    refine bodyPost_ret (v := .tuple #[.string u, .bool false]) (by simp [results, Tryd.results59, go_sem]) rfl ⟨u, rfl, (fun h => by cases h), Below.refl _ _⟩
  | true =>
    rw [hc] at C
    have h4 : 4 ≤ k.size := by simp only [Bool.and_eq_true, decide_eq_true_eq] at hc; omega
    have CL := hidIt (fun W => impl_hasLabels (k.extract 4 k.size) W)
    have ed : decide ((k.extract 4 k.size).size ≠ 0) = decide (k.size ≠ 4) := by rw [ext_size h4]; exact decide_eq_decide.2 (by omega)
    rw [ed] at CL
    rw [Bool.true_and]
    generalize (decide (k.size ≠ 4) && Nm.okB (bs (k.extract 4 k.size))) = r at CL ⊢
    clear hc ed h4
    go_enter Tryd.func59, Tryd.ntmps59
    go_wp2_with (fail)
    refine C.out.mono ?_
    rintro e w1 ⟨u, rfl, hu, rfl⟩
    rw [hu (by first | rfl | trivial)]
    clear hu
    obtain ⟨z, hz⟩ : ∃ z, z = k.extract 4 k.size := ⟨_, rfl⟩
    rw [← hz] at CL ⊢
    have HZ := hidIt hz
    clear hz
    go_wp2_with (fail)
    refine (CL.out _).mono ?_
    rintro e w2 ⟨rfl, kk⟩
    have HB := hidIt kk
    clear kk
    go_wp2_with (fail)
    refine bodyPost_ret (v := .tuple #[.string z, .bool r]) (by simp [results, Tryd.results59, go_sem]) rfl ⟨_, rfl, fun _ => HZ.out, HB.out⟩
set_option maxRecDepth 100000 in
set_option maxHeartbeats 8000000 in
theorem impl_isSeen (xk xv : ByteArray) (xt xn : Int) (xg : Bool) (R : List Ru.Rw) (b : Option Addr) (cb : Nat) (w : World) (hr : Ru.Rd w b R) (hok : Ru.okR R = true) (hk : xk.size ≤ 40) :
    Calls Tryd.prog 45 #[.agg #[.string xk, .string xv, .int .i64 xt, .int .i64 xn, .bool xg], .slice b R.length cb] w fun e w' => e = .returned (.bool (seeB R (xk, xv, xt, xn, xg))) ∧ Below w.heap.size w w' := by
  have hl := Ru.okR_len hok
  have CM := hidIt (fun W (r : Ru.Rd W b R) => Ru.impl_May b cb R xk false W r (by omega) (okR_short hok) (by omega))
  have CN := hidIt (fun W => impl_nameOfKey xk W (by omega))
  have HS : Hid (seeB R (xk, xv, xt, xn, xg) = (svcB xk && (!xg && Ru.mayR R (Ru.bs xk) false))) := hidIt rfl
  rw [HS.out]
  generalize svcB xk = s at CN ⊢
  generalize Ru.mayR R (Ru.bs xk) false = my at CM ⊢
  obtain ⟨res, hres⟩ : ∃ res, res = (s && (!xg && my)) := ⟨_, rfl⟩
  rw [← hres]
  have HW := hidIt hres
  clear hres
  have HR := hidIt hr
  clear hr hok HS
  generalize R.length = nR at *
  have BX := hidIt (Bo.Box.new w #[.string xk, .string xv, .int .i64 xt, .int .i64 xn, .bool xg] 41)
  have HBz := hidIt ((Below.refl w.heap.size w).alloc (Nat.le_refl _) (.cells #[.string xk, .string xv, .int .i64 xt, .int .i64 xn, .bool xg] 41))
  have HRz := hidIt (HR.out.kept HBz.out)
  have hlt : w.heap.size < (w.alloc (.cells #[.string xk, .string xv, .int .i64 xt, .int .i64 xn, .bool xg] 41)).heap.size := by simp
  have d0 := BX.out.c 0 rfl
  go_enter Tryd.func45, Tryd.ntmps45
  go_wp2_with (fail)
  generalize w.alloc (.cells #[.string xk, .string xv, .int .i64 xt, .int .i64 xn, .bool xg] 41) = wz at BX HBz HRz hlt d0 ⊢
  refine (CN.out _).mono ?_
  rintro e w3 ⟨nm, rfl, _, kk⟩
  have HB3 := hidIt (HBz.out.trans (kk.mono HBz.out.size))
  have HR3 := hidIt (HRz.out.kept kk)
  have BX3 := hidIt (BX.out.kept kk)
  clear kk hlt HBz HRz BX d0 HR
  have d0 := BX3.out.c 0 rfl
  have d4 := BX3.out.c 4 rfl
  cases s with
  | false =>
    have er : res = false := HW.out
    subst er
    go_wp2_with (fail)
    go_ret
    exact ⟨rfl, HB3.out⟩
  | true =>
    cases xg with
    | true =>
      have er : res = false := HW.out
      subst er
      go_wp2_with (fail)
      go_ret
      exact ⟨rfl, HB3.out⟩
    | false =>
      have er : res = my := HW.out
      subst er
      go_wp2_with (fail)
      refine (CM.out _ HR3.out).mono ?_
      rintro e w4 ⟨rfl, kk⟩
      have HB4 := hidIt (HB3.out.trans (kk.mono HB3.out.size))
      clear kk
      go_wp2_with (fail)
      go_ret
      exact ⟨rfl, HB4.out⟩
end Go.Proofs.YtnmmmhkafdhfcaaDoor.Vw
