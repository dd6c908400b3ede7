/-
  Valid, in one plain function of any numbers and any text: both answer it.
-/
import Derived.Test.YtniadgjckjnfiaaDoorSignX
namespace Go.Proofs.YtniadgjckjnfiaaDoor.Sg
open Go.ChangeShapes Go.WideShapes Go.ChangeAt Go.RowKit
open Cv Cu
def validB (K1 K2 : Int) (s : ByteArray) (R1 R2 T : Int) : Bool :=
  okI R1 R2 && (okI K1 K2 && (decide (0 ≤ T ∧ T < 2549) && vaN K1.toNat K2.toNat R1.toNat R2.toNat T.toNat s))
theorem validB_yes {k1 k2 r1 r2 t : Nat} (s : ByteArray) (hk : okN (k1, k2) = true) (hr : okN (r1, r2) = true) (hT : t < 2549) : validB k1 k2 s r1 r2 t = vaN k1 k2 r1 r2 t s := by
  unfold validB
  rw [okI_cast, hr, okI_cast, hk, decide_eq_true (by omega)]
  rfl
theorem validB_noR {K1 K2 R1 R2 T : Int} {s : ByteArray} (h : okI R1 R2 = false) : validB K1 K2 s R1 R2 T = false := by unfold validB; rw [h, Bool.false_and]
theorem validB_noK {K1 K2 R1 R2 T : Int} {s : ByteArray} (h : okI K1 K2 = false) : validB K1 K2 s R1 R2 T = false := by unfold validB; rw [h, Bool.false_and, Bool.and_false]
theorem validB_noT {K1 K2 R1 R2 T : Int} {s : ByteArray} (h : ¬ (0 ≤ T ∧ T < 2549)) : validB K1 K2 s R1 R2 T = false := by unfold validB; rw [decide_eq_false h, Bool.false_and, Bool.and_false, Bool.and_false]
theorem spec_Valid_any (K1 K2 : Int) (s : ByteArray) (R1 R2 T : Int) (w : World) (hs : s.size ≤ 4611686018427380000) :
    Calls Tryd.prog 32 #[.agg #[.int .i64 K1, .int .i64 K2], .string s, .agg #[.int .i64 R1, .int .i64 R2, .int .i64 T]] w fun e w' => e = .returned (.bool (validB K1 K2 s R1 R2 T)) ∧ Below w.heap.size w w' := by
  by_cases hk : okI K1 K2 = true
  · by_cases hr : okI R1 R2 = true
    · obtain ⟨r1, r2, rfl, rfl, hr1⟩ := okI_nat hr
      obtain ⟨k1, k2, rfl, rfl, hk1⟩ := okI_nat hk
      by_cases hT : 0 ≤ T ∧ T < 2549
      · obtain ⟨t, rfl⟩ := Int.eq_ofNat_of_zero_le hT.1
        rw [validB_yes s hk1 hr1 (by omega)]
        exact spec_Valid_yes k1 k2 r1 r2 t s w hk1 hr1 (by omega) hs
      · rw [validB_noT hT]
        exact spec_Valid_no3 k1 k2 r1 r2 T s w hk hr (by omega)
    · have hr' : okI R1 R2 = false := by simpa using hr
      rw [validB_noR hr']
      exact spec_Valid_no2 K1 K2 R1 R2 T s w hk hr'
  · have hk' : okI K1 K2 = false := by simpa using hk
    rw [validB_noK hk']
    exact spec_Valid_no1 K1 K2 R1 R2 T s w hk'
theorem impl_Valid_any (K1 K2 : Int) (s : ByteArray) (R1 R2 T : Int) (w : World) (h : Tab w) (hs : s.size ≤ 4611686018427380000) :
    Calls Tryd.prog 55 #[.agg #[.int .i64 K1, .int .i64 K2], .string s, .agg #[.int .i64 R1, .int .i64 R2, .int .i64 T]] w fun e w' => e = .returned (.bool (validB K1 K2 s R1 R2 T)) ∧ Below w.heap.size w w' := by
  by_cases hr : okI R1 R2 = true
  · by_cases hk : okI K1 K2 = true
    · obtain ⟨r1, r2, rfl, rfl, hr1⟩ := okI_nat hr
      obtain ⟨k1, k2, rfl, rfl, hk1⟩ := okI_nat hk
      by_cases hT : 0 ≤ T ∧ T < 2549
      · obtain ⟨t, rfl⟩ := Int.eq_ofNat_of_zero_le hT.1
        rw [validB_yes s hk1 hr1 (by omega)]
        exact impl_Valid_yes k1 k2 r1 r2 t s w hk1 hr1 (by omega) hs h
      · rw [validB_noT hT]
        refine impl_Valid_no k1 k2 r1 r2 T (chN r1 r2 k1 k2 s) s w h (.inr ?_) (fun w t => impl_Challenge_yes r1 r2 k1 k2 s w hr1 hk1 (by omega) t)
        have hc : (((chN r1 r2 k1 k2 s : Nat) : Int) == -1) = false := by generalize chN r1 r2 k1 k2 s = c; simp
        by_cases h1 : T < 0
        · exact .inl ⟨hc, h1⟩
        · exact .inr ⟨hc, h1, by omega⟩
    · have hk' : okI K1 K2 = false := by simpa using hk
      rw [validB_noK hk']
      exact impl_Valid_no K1 K2 R1 R2 T (-1) s w h (.inl rfl) (fun w _ => impl_Challenge_no R1 R2 K1 K2 s w (.inr ⟨hr, hk'⟩))
  · have hr' : okI R1 R2 = false := by simpa using hr
    rw [validB_noR hr']
    exact impl_Valid_no K1 K2 R1 R2 T (-1) s w h (.inl rfl) (fun w _ => impl_Challenge_no R1 R2 K1 K2 s w (.inl hr'))
end Go.Proofs.YtniadgjckjnfiaaDoor.Sg
