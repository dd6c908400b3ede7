/-
  Asked of the program: who does what, compared as a whole. (Written by wip/mkAskX.py.)
-/
import Derived.Test.YtbdibkcamomgpaaAskS
import Derived.Test.YtbdibkcamomgpaaBoxM
namespace Go.Proofs.Ytbdibkcamomgpaa.Ac
open Go.ChangeShapes Go.WideShapes Go.ChangeAt Go.RowKit
set_option linter.unusedVariables false
set_option maxRecDepth 100000 in
set_option maxHeartbeats 4000000 in
theorem impl_askingOf (x0 : Int) (x1 : Int) (x2 : Int) (x3 : ByteArray) (x4 : ByteArray) (x5 : ByteArray) (x6 : Bool) (x7 : Int) (x8 : ByteArray) (x9 : ByteArray) (x10 : Int) (x11 : Int) (w : World) : Calls Try.prog 29 #[.agg #[.int .i64 x0, .int .i64 x1, .int .i64 x2, .string x3, .string x4, .string x5, .bool x6, .int .i64 x7, .string x8, .string x9, .int .i64 x10, .int .i64 x11]] w fun e w' => e = .returned (.agg #[.int .i64 x0, .string x8]) ∧ Below w.heap.size w w' := by
  have HB := hidIt (((Below.refl w.heap.size w).alloc (Nat.le_refl _) (.cells #[.int .i64 x0, .int .i64 x1, .int .i64 x2, .string x3, .string x4, .string x5, .bool x6, .int .i64 x7, .string x8, .string x9, .int .i64 x10, .int .i64 x11] 49)).alloc (by simp) (.cells #[.int .i64 x0, .string x8] 59))
  go_enter Try.func29, Try.ntmps29
  go_wp2_with (fail)
  refine bodyPost_ret (v := .agg #[.int .i64 x0, .string x8]) (by simp [results, Try.results29, go_sem]) rfl ⟨rfl, HB.out⟩
set_option maxRecDepth 100000 in
set_option maxHeartbeats 8000000 in
theorem impl_Asked (a : Option Addr) (cap : Nat) (L : List Rw) (t : ByteArray) (w : World) (h : Rd w a L) (hs : ∀ i, i < L.length → (rat L i).2.2.2.1.size ≤ 9223372036854775807 ∧ (rat L i).2.2.2.2.1.size ≤ 9223372036854775807 ∧ (rat L i).2.2.2.2.2.1.size ≤ 9223372036854775807 ∧ (rat L i).2.2.2.2.2.2.2.2.1.size ≤ 9223372036854775807 ∧ (rat L i).2.2.2.2.2.2.2.2.2.1.size ≤ 9223372036854775807) (hl : L.length ≤ 9223372036854775806) : Calls Try.prog 17 #[.slice a L.length cap, .string t] w fun e w' => e = .returned (.int .i64 (cntA t L : Int)) ∧ Below w.heap.size w w' := by
  clear hs
  have HR := hidIt h
  have CA := hidIt impl_askingOf
  have HT := hidIt (fun i (hi : i < L.length) => cnt_take (t := t) (L := L) (i := i) hi)
  have HLe := hidIt (fun i => cnt_le t (L.take i))
  have HE : Hid (cntA t L = cntA t (L.take L.length)) := hidIt (by rw [List.take_length])
  generalize cntA t L = ans at HE ⊢
  generalize hn : L.length = m at *
  have HN := hidIt hn
  clear h hn
  go_enter Try.func17, Try.ntmps17
  go_wp2_with (fail)
  go_loopw [5, 10] (fun z y wx => ∃ (i c : Nat), y = .int .i64 i ∧ z = .int .i64 c ∧ i ≤ m ∧ Hid (c = cntA t (L.take i)) ∧ Hid (Below w.heap.size w wx)) (fun _ y _ => (m - intOf y).toNat)
  case atStart => exact ⟨0, 0, rfl, rfl, by omega, hidIt rfl, hidIt (Below.refl _ _)⟩
  case round =>
    obtain ⟨i, c, rfl, rfl, hi, HC, HB⟩ := hrel
    by_cases hin : i < m
    · have hin' : (i : Int) < (m : Int) := by omega
      have hi0' : (0 : Int) ≤ (i : Int) := by omega
      have hcl : c ≤ i := by
        have h1 := HLe.out i
        rw [← HC.out, List.length_take] at h1
        omega
      obtain ⟨b, off, ea, c0, c1, c2, c3, c4, c5, c6, c7, c8, c9, c10, c11⟩ := (HR.out.kept HB.out).all (i := i) (by rw [HN.out]; exact hin)
      subst ea
      have HS := hidIt (HT.out i hin)
      generalize rat L i = x at *
      obtain ⟨x0, x1, x2, x3, x4, x5, x6, x7, x8, x9, x10, x11⟩ := x
      unfold askB at HS
      simp only at c0 c1 c2 c3 c4 c5 c6 c7 c8 c9 c10 c11 HS
      have HBz := hidIt (HB.out.alloc HB.out.size (.cells #[.int .i64 x0, .int .i64 x1, .int .i64 x2, .string x3, .string x4, .string x5, .bool x6, .int .i64 x7, .string x8, .string x9, .int .i64 x10, .int .i64 x11] 49))
      have CAx := hidIt (CA.out x0 x1 x2 x3 x4 x5 x6 x7 x8 x9 x10 x11 (wr.alloc (.cells #[.int .i64 x0, .int .i64 x1, .int .i64 x2, .string x3, .string x4, .string x5, .bool x6, .int .i64 x7, .string x8, .string x9, .int .i64 x10, .int .i64 x11] 49)))
      go_wp2_with (fail)
      generalize wr.alloc (.cells #[.int .i64 x0, .int .i64 x1, .int .i64 x2, .string x3, .string x4, .string x5, .bool x6, .int .i64 x7, .string x8, .string x9, .int .i64 x10, .int .i64 x11] 49) = wz at HBz CAx ⊢
      refine CAx.out.mono ?_
      rintro e w1 ⟨rfl, kk⟩
      have HB1 := hidIt (HBz.out.trans (kk.mono HBz.out.size))
      clear kk HBz CAx c0 c1 c2 c3 c4 c5 c6 c7 c8 c9 c10 c11
      cases hk : (x0 == 4) with
      | false =>
        have HC2 : Hid (c = cntA t (L.take (i + 1))) := hidIt (by rw [HS.out, hk, ← HC.out]; rfl)
        go_wp2_with (fail)
        exact ⟨⟨i + 1, c, by simp, rfl, by omega, HC2, HB1⟩, by simp [intOf]; omega⟩
      | true =>
        cases ht : (x8.toList == t.toList) with
        | false =>
          have HC2 : Hid (c = cntA t (L.take (i + 1))) := hidIt (by rw [HS.out, hk, ht, ← HC.out]; rfl)
          go_wp2_with (fail)
          exact ⟨⟨i + 1, c, by simp, rfl, by omega, HC2, HB1⟩, by simp [intOf]; omega⟩
        | true =>
          have HC2 : Hid (c + 1 = cntA t (L.take (i + 1))) := hidIt (by rw [HS.out, hk, ht, ← HC.out]; rfl)
          go_wp2_with (fail)
          exact ⟨⟨i + 1, c + 1, by simp, by simp, by omega, HC2, HB1⟩, by simp [intOf]; omega⟩
    · have hin' : ¬ (i : Int) < (m : Int) := by omega
      obtain rfl : i = m := by omega
      have ec : ans = c := by rw [HE.out, ← HC.out]
      subst ec
      go_wp2_with (fail)
      go_ret
      exact ⟨rfl, HB.out⟩
end Go.Proofs.Ytbdibkcamomgpaa.Ac
