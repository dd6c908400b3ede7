/-
  Asked in plain words; Asked of the specification. (Written by wip/mkAsk.py.)
-/
import Derived.Test.YtbdibkcamomgpaaActM
namespace Go.Proofs.Ytbdibkcamomgpaa.Ac
open Go.ChangeShapes Go.WideShapes Go.ChangeAt Go.RowKit
set_option linter.unusedVariables false
/-- An AcAsk by this Token. -/
def askB (x : Rw) (t : ByteArray) : Bool := (x.1 == 4) && (x.2.2.2.2.2.2.2.2.1.toList == t.toList)
def cntA (t : ByteArray) : List Rw → Nat
  | [] => 0
  | x :: L => cntA t L + (if askB x t then 1 else 0)
theorem cnt_app (t : ByteArray) (L M : List Rw) : cntA t (L ++ M) = cntA t L + cntA t M := by
  induction L with
  | nil => simp [cntA]
  | cons r L ih => simp only [List.cons_append, cntA, ih]; omega
theorem cnt_take {t : ByteArray} {L : List Rw} {i : Nat} (h : i < L.length) : cntA t (L.take (i + 1)) = cntA t (L.take i) + (if askB (rat L i) t then 1 else 0) := by
  rw [take_rat h, cnt_app]
  simp [cntA]
theorem cnt_le (t : ByteArray) (L : List Rw) : cntA t L ≤ L.length := by
  induction L with
  | nil => simp [cntA]
  | cons r L ih => simp only [cntA, List.length_cons]; split <;> omega
set_option maxRecDepth 100000 in
set_option maxHeartbeats 8000000 in
theorem spec_Asked (a : Option Addr) (cap : Nat) (L : List Rw) (t : ByteArray) (w : World) (h : Rd w a L) (hl : L.length ≤ 9223372036854775806) : Calls Try.prog 16 #[.slice a L.length cap, .string t] w fun e w' => e = .returned (.int .i64 (cntA t L : Int)) ∧ Below w.heap.size w w' := by
  have HR := hidIt h
  have HT := hidIt (fun i (hi : i < L.length) => cnt_take (t := t) (L := L) (i := i) hi)
  have HLe := hidIt (fun i => cnt_le t (L.take i))
  have HE : Hid (cntA t L = cntA t (L.take L.length)) := hidIt (by rw [List.take_length])
  generalize cntA t L = ans at HE ⊢
  generalize hn : L.length = m at *
  have HN := hidIt hn
  clear h hn
  go_enter Try.func16, Try.ntmps16
  go_wp2_with (fail)
  go_loopw [5, 6] (fun z y wx => ∃ (i c : Nat), y = .int .i64 i ∧ z = .int .i64 c ∧ i ≤ m ∧ Hid (c = cntA t (L.take i)) ∧ Hid (wx = w)) (fun _ y _ => (m - intOf y).toNat)
  case atStart => exact ⟨0, 0, rfl, rfl, by omega, hidIt rfl, hidIt rfl⟩
  case round =>
    obtain ⟨i, c, rfl, rfl, hi, HC, HW⟩ := hrel
    by_cases hin : i < m
    · have hin' : (i : Int) < (m : Int) := by omega
      have hi0' : (0 : Int) ≤ (i : Int) := by omega
      have hcl : c ≤ i := by
        have h1 := HLe.out i
        rw [← HC.out, List.length_take] at h1
        omega
      have eW := HW.out
      subst eW
      obtain ⟨b, off, ea, c0, c1, c2, c3, c4, c5, c6, c7, c8, c9, c10, c11⟩ := HR.out.all (i := i) (by rw [HN.out]; exact hin)
      subst ea
      have HS := hidIt (HT.out i hin)
      generalize rat L i = x at *
      obtain ⟨x0, x1, x2, x3, x4, x5, x6, x7, x8, x9, x10, x11⟩ := x
      unfold askB at HS
      simp only at c0 c1 c2 c3 c4 c5 c6 c7 c8 c9 c10 c11 HS
      have c8' : wr.cell? ⟨b, off + i * 12 + 7 + 1, none⟩ = some (.string x8) := c8
      clear c1 c2 c3 c4 c5 c6 c7 c9 c10 c11
      cases hk : (x0 == 4) with
      | false =>
        have HC2 : Hid (c = cntA t (L.take (i + 1))) := hidIt (by rw [HS.out, hk, ← HC.out]; rfl)
        go_wp2_with (fail)
        exact ⟨⟨i + 1, c, by simp, rfl, by omega, HC2, hidIt (by first | rfl | trivial)⟩, by simp [intOf]; omega⟩
      | true =>
        cases ht : (x8.toList == t.toList) with
        | false =>
          have HC2 : Hid (c = cntA t (L.take (i + 1))) := hidIt (by rw [HS.out, hk, ht, ← HC.out]; rfl)
          go_wp2_with (fail)
          exact ⟨⟨i + 1, c, by simp, rfl, by omega, HC2, hidIt (by first | rfl | trivial)⟩, by simp [intOf]; omega⟩
        | true =>
          have HC2 : Hid (c + 1 = cntA t (L.take (i + 1))) := hidIt (by rw [HS.out, hk, ht, ← HC.out]; rfl)
          go_wp2_with (fail)
          exact ⟨⟨i + 1, c + 1, by simp, by simp, by omega, HC2, hidIt (by first | rfl | trivial)⟩, by simp [intOf]; omega⟩
    · have hin' : ¬ (i : Int) < (m : Int) := by omega
      obtain rfl : i = m := by omega
      have eW := HW.out
      subst eW
      have ec : ans = c := by rw [HE.out, ← HC.out]
      subst ec
      go_wp2_with (fail)
      go_ret
      exact ⟨rfl, Below.refl _ _⟩
end Go.Proofs.Ytbdibkcamomgpaa.Ac
