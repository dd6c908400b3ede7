/-
  The functions of chapter 1, of the program and of the specification, at every int64, by the plain functions of PlainAll. They turn nothing in memory.
-/
import Derived.Test.YtejlbllbiijnhaaFieldAll
import Derived.Test.YtejlbllbiijnhaaPlainAll
namespace Go.Proofs.Ytejlbllbiijnhaa.Fd
open Go.ChangeShapes Go.WideShapes Go.ChangeAt Go.RowKit
theorem ret_eq {a b : Int} {w : World} {e : Ending} {w' : World} (h : a = b) (k : e = .returned (.int .i64 a) ∧ w' = w) : e = .returned (.int .i64 b) ∧ w' = w := by rw [← h]; exact k

theorem impl_Sum_all (a b : Int) (w : World) : Calls Try.prog 8 #[.int .i64 a, .int .i64 b] w fun e w' => e = .returned (.int .i64 (Pl.sumI a b)) ∧ w' = w := by
  by_cases ha : Pl.el a = true
  · by_cases hb : Pl.el b = true
    · obtain ⟨x, rfl, hx⟩ := Pl.el_nat ha
      obtain ⟨y, rfl, hy⟩ := Pl.el_nat hb
      refine (impl_Sum x y w hx hy).mono fun e w' k => ret_eq ?_ k
      exact Pl.sumI_nat x y hx hy |>.symm
    · exact (impl_Sum_no a b w (.inr (by simpa [Pl.el] using hb))).mono fun e w' k => ret_eq (by simp [Pl.sumI, hb]) k
  · exact (impl_Sum_no a b w (.inl (by simpa [Pl.el] using ha))).mono fun e w' k => ret_eq (by simp [Pl.sumI, ha]) k

theorem impl_Less_all (a b : Int) (w : World) : Calls Try.prog 9 #[.int .i64 a, .int .i64 b] w fun e w' => e = .returned (.int .i64 (Pl.lessI a b)) ∧ w' = w := by
  by_cases ha : Pl.el a = true
  · by_cases hb : Pl.el b = true
    · obtain ⟨x, rfl, hx⟩ := Pl.el_nat ha
      obtain ⟨y, rfl, hy⟩ := Pl.el_nat hb
      refine (impl_Less x y w hx hy).mono fun e w' k => ret_eq ?_ k
      simp [Pl.lessI, ha, hb]; omega
    · exact (impl_Less_no a b w (.inr (by simpa [Pl.el] using hb))).mono fun e w' k => ret_eq (by simp [Pl.lessI, hb]) k
  · exact (impl_Less_no a b w (.inl (by simpa [Pl.el] using ha))).mono fun e w' k => ret_eq (by simp [Pl.lessI, ha]) k

theorem impl_Product_all (a b : Int) (w : World) : Calls Try.prog 7 #[.int .i64 a, .int .i64 b] w fun e w' => e = .returned (.int .i64 (Pl.prodI a b)) ∧ w' = w := by
  by_cases ha : Pl.el a = true
  · by_cases hb : Pl.el b = true
    · obtain ⟨x, rfl, hx⟩ := Pl.el_nat ha
      obtain ⟨y, rfl, hy⟩ := Pl.el_nat hb
      refine (impl_Product x y w hx hy).mono fun e w' k => ret_eq ?_ k
      exact Pl.prodI_nat x y hx hy |>.symm
    · exact (impl_Product_no a b w (.inr (by simpa [Pl.el] using hb))).mono fun e w' k => ret_eq (by simp [Pl.prodI, hb]) k
  · exact (impl_Product_no a b w (.inl (by simpa [Pl.el] using ha))).mono fun e w' k => ret_eq (by simp [Pl.prodI, ha]) k

theorem impl_Power_all (a n : Int) (w : World) : Calls Try.prog 11 #[.int .i64 a, .int .i64 n] w fun e w' => e = .returned (.int .i64 (Pl.powI a n)) ∧ w' = w := by
  by_cases ha : Pl.el a = true
  · by_cases hn : 0 ≤ n ∧ n ≤ 1099511627776
    · obtain ⟨x, rfl, hx⟩ := Pl.el_nat ha
      obtain ⟨m, rfl⟩ := Int.eq_ofNat_of_zero_le hn.1
      exact (impl_Power x m w hx (by omega)).mono fun e w' k => ret_eq (Pl.powI_nat x m hx (by omega)).symm k
    · refine (impl_Power_no a n w (.inr hn)).mono fun e w' k => ret_eq ?_ k
      unfold Pl.powI; rw [if_neg]; simp only [Bool.and_eq_true, decide_eq_true_eq]; exact fun c => hn c.2
  · exact (impl_Power_no a n w (.inl (by simpa [Pl.el] using ha))).mono fun e w' k => ret_eq (by simp [Pl.powI, ha]) k

theorem impl_Inverse_all (a : Int) (w : World) : Calls Try.prog 16 #[.int .i64 a] w fun e w' => e = .returned (.int .i64 (Pl.invI a)) ∧ w' = w := by
  by_cases ha : Pl.el a = true
  · obtain ⟨x, rfl, hx⟩ := Pl.el_nat ha
    exact (impl_Inverse x w hx).mono fun e w' k => ret_eq (Pl.invI_nat x hx).symm k
  · exact (impl_Inverse_no a w (by simpa [Pl.el] using ha)).mono fun e w' k => ret_eq (by simp [Pl.invI, ha]) k

set_option maxRecDepth 100000 in
theorem impl_ElementOk_all (a : Int) (w : World) : Calls Try.prog 18 #[.int .i64 a] w fun e w' => e = .returned (.bool (Pl.el a)) ∧ w' = w := by
  by_cases h1 : 0 ≤ a
  · by_cases h2 : a < 10007
    · have h2' : a ≤ 10006 := by omega
      have e0 : Pl.el a = true := by simp [Pl.el, h1, h2]
      rw [e0]; clear e0
      go_enter Try.func18, Try.ntmps18
      go_wp2
      go_ret
      exact ⟨rfl, rfl⟩
    · have h2' : ¬ a ≤ 10006 := by omega
      have e0 : Pl.el a = false := by simp [Pl.el]; omega
      rw [e0]; clear e0
      go_enter Try.func18, Try.ntmps18
      go_wp2
      go_ret
      exact ⟨rfl, rfl⟩
  · have e0 : Pl.el a = false := by simp [Pl.el]; omega
    rw [e0]; clear e0
    go_enter Try.func18, Try.ntmps18
    go_wp2
    go_ret
    exact ⟨rfl, rfl⟩

theorem spec_Sum_all (a b : Int) (w : World) : Calls Try.prog 13 #[.int .i64 a, .int .i64 b] w fun e w' => e = .returned (.int .i64 (Pl.sumI a b)) ∧ w' = w := by
  by_cases ha : Pl.el a = true
  · by_cases hb : Pl.el b = true
    · obtain ⟨x, rfl, hx⟩ := Pl.el_nat ha
      obtain ⟨y, rfl, hy⟩ := Pl.el_nat hb
      refine (spec_Sum x y w hx hy).mono fun e w' k => ret_eq ?_ k
      exact Pl.sumI_nat x y hx hy |>.symm
    · exact (spec_Sum_no a b w (.inr (by simpa [Pl.el] using hb))).mono fun e w' k => ret_eq (by simp [Pl.sumI, hb]) k
  · exact (spec_Sum_no a b w (.inl (by simpa [Pl.el] using ha))).mono fun e w' k => ret_eq (by simp [Pl.sumI, ha]) k

theorem spec_Less_all (a b : Int) (w : World) : Calls Try.prog 14 #[.int .i64 a, .int .i64 b] w fun e w' => e = .returned (.int .i64 (Pl.lessI a b)) ∧ w' = w := by
  by_cases ha : Pl.el a = true
  · by_cases hb : Pl.el b = true
    · obtain ⟨x, rfl, hx⟩ := Pl.el_nat ha
      obtain ⟨y, rfl, hy⟩ := Pl.el_nat hb
      refine (spec_Less x y w hx hy).mono fun e w' k => ret_eq ?_ k
      simp [Pl.lessI, ha, hb]; omega
    · exact (spec_Less_no a b w (.inr (by simpa [Pl.el] using hb))).mono fun e w' k => ret_eq (by simp [Pl.lessI, hb]) k
  · exact (spec_Less_no a b w (.inl (by simpa [Pl.el] using ha))).mono fun e w' k => ret_eq (by simp [Pl.lessI, ha]) k

theorem spec_Product_all (a b : Int) (w : World) : Calls Try.prog 12 #[.int .i64 a, .int .i64 b] w fun e w' => e = .returned (.int .i64 (Pl.prodI a b)) ∧ w' = w := by
  by_cases ha : Pl.el a = true
  · by_cases hb : Pl.el b = true
    · obtain ⟨x, rfl, hx⟩ := Pl.el_nat ha
      obtain ⟨y, rfl, hy⟩ := Pl.el_nat hb
      refine (spec_Product x y w hx hy).mono fun e w' k => ret_eq ?_ k
      exact Pl.prodI_nat x y hx hy |>.symm
    · exact (spec_Product_no a b w (.inr (by simpa [Pl.el] using hb))).mono fun e w' k => ret_eq (by simp [Pl.prodI, hb]) k
  · exact (spec_Product_no a b w (.inl (by simpa [Pl.el] using ha))).mono fun e w' k => ret_eq (by simp [Pl.prodI, ha]) k

theorem spec_Power_all (a n : Int) (w : World) : Calls Try.prog 15 #[.int .i64 a, .int .i64 n] w fun e w' => e = .returned (.int .i64 (Pl.powI a n)) ∧ w' = w := by
  by_cases ha : Pl.el a = true
  · by_cases hn : 0 ≤ n ∧ n ≤ 1099511627776
    · obtain ⟨x, rfl, hx⟩ := Pl.el_nat ha
      obtain ⟨m, rfl⟩ := Int.eq_ofNat_of_zero_le hn.1
      exact (spec_Power x m w hx (by omega)).mono fun e w' k => ret_eq (Pl.powI_nat x m hx (by omega)).symm k
    · refine (spec_Power_no a n w (.inr hn)).mono fun e w' k => ret_eq ?_ k
      unfold Pl.powI; rw [if_neg]; simp only [Bool.and_eq_true, decide_eq_true_eq]; exact fun c => hn c.2
  · exact (spec_Power_no a n w (.inl (by simpa [Pl.el] using ha))).mono fun e w' k => ret_eq (by simp [Pl.powI, ha]) k

theorem spec_Inverse_all (a : Int) (w : World) : Calls Try.prog 17 #[.int .i64 a] w fun e w' => e = .returned (.int .i64 (Pl.invI a)) ∧ w' = w := by
  by_cases ha : Pl.el a = true
  · obtain ⟨x, rfl, hx⟩ := Pl.el_nat ha
    exact (spec_Inverse x w hx).mono fun e w' k => ret_eq (Pl.invI_nat x hx).symm k
  · exact (spec_Inverse_no a w (by simpa [Pl.el] using ha)).mono fun e w' k => ret_eq (by simp [Pl.invI, ha]) k

set_option maxRecDepth 100000 in
theorem spec_ElementOk_all (a : Int) (w : World) : Calls Try.prog 19 #[.int .i64 a] w fun e w' => e = .returned (.bool (Pl.el a)) ∧ w' = w := by
  by_cases h1 : 0 ≤ a
  · by_cases h2 : a < 10007
    · have h2' : a ≤ 10006 := by omega
      have e0 : Pl.el a = true := by simp [Pl.el, h1, h2]
      rw [e0]; clear e0
      go_enter Try.func19, Try.ntmps19
      go_wp2
      go_ret
      exact ⟨rfl, rfl⟩
    · have h2' : ¬ a ≤ 10006 := by omega
      have e0 : Pl.el a = false := by simp [Pl.el]; omega
      rw [e0]; clear e0
      go_enter Try.func19, Try.ntmps19
      go_wp2
      go_ret
      exact ⟨rfl, rfl⟩
  · have e0 : Pl.el a = false := by simp [Pl.el]; omega
    rw [e0]; clear e0
    go_enter Try.func19, Try.ntmps19
    go_wp2
    go_ret
    exact ⟨rfl, rfl⟩
end Go.Proofs.Ytejlbllbiijnhaa.Fd
