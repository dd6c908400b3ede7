/-
  ShowRules of the specification.
-/
import Derived.Test.YtnmmmhkafdhfcaaDoorRuF
namespace Go.Proofs.YtnmmmhkafdhfcaaDoor.Ru
open Go.ChangeShapes Go.WideShapes Go.ChangeAt Go.RowKit
set_option linter.unusedVariables false
def fl (b : Bool) (c : UInt8) : ByteArray := if b then ⟨#[c]⟩ else ⟨#[45]⟩
theorem fl_size (b : Bool) (c : UInt8) : (fl b c).size = 1 := by cases b <;> rfl
abbrev bl : ByteArray := ⟨#[32]⟩
/-- What the first so many are shown as. -/
def shw (L : List Rw) : Nat → ByteArray
  | 0 => ⟨#[]⟩
  | 1 => ⟨#[]⟩ ++ fl (rat L 0).2.1 114 ++ fl (rat L 0).2.2 119 ++ bl ++ (rat L 0).1
  | n + 2 => shw L (n + 1) ++ bl ++ fl (rat L (n + 1)).2.1 114 ++ fl (rat L (n + 1)).2.2 119 ++ bl ++ (rat L (n + 1)).1
theorem shw_size (L : List Rw) (h : ∀ i, i < L.length → (rat L i).1.size ≤ 40) : ∀ n, n ≤ L.length → (shw L n).size ≤ 44 * n
  | 0, _ => Nat.le_refl _
  | 1, h1 => by
    have := h 0 (by omega)
    simp only [shw, ByteArray.size_append, fl_size]
    have e1 : (⟨#[]⟩ : ByteArray).size = 0 := rfl
    have e2 : bl.size = 1 := rfl
    omega
  | n + 2, h1 => by
    have := h (n + 1) (by omega)
    have ih := shw_size L h (n + 1) (by omega)
    simp only [shw, ByteArray.size_append, fl_size]
    have e2 : bl.size = 1 := rfl
    omega
def showR (L : List Rw) : ByteArray := if okR L then shw L L.length else ⟨#[]⟩
set_option maxRecDepth 100000 in
set_option maxHeartbeats 8000000 in
theorem spec_l14Show (a : Option Addr) (cap : Nat) (L : List Rw) (w : World) (h : Rd w a L) (hl : L.length ≤ 12) (hs : ∀ i, i < L.length → (rat L i).1.size ≤ 40) :
    Calls Tryd.prog 52 #[.slice a L.length cap] w fun e w' => e = .returned (.string (shw L L.length)) ∧ Below w.heap.size w w' := by
  have HS := hidIt (shw_size L hs)
  have HP := hidIt hs
  have HR := hidIt h
  have H0 : Hid (shw L 0 = ⟨#[]⟩) := hidIt rfl
  have H1 : Hid (shw L 1 = ⟨#[]⟩ ++ fl (rat L 0).2.1 114 ++ fl (rat L 0).2.2 119 ++ bl ++ (rat L 0).1) := hidIt rfl
  have H2 : Hid (∀ n, shw L (n + 2) = shw L (n + 1) ++ bl ++ fl (rat L (n + 1)).2.1 114 ++ fl (rat L (n + 1)).2.2 119 ++ bl ++ (rat L (n + 1)).1) := hidIt (fun n => rfl)
  clear h hs
  generalize shw L = S at *
  generalize hn : L.length = m at *
  have HN := hidIt hn
  clear hn
  go_enter Tryd.func52, Tryd.ntmps52
  go_wp2_with (fail)
  go_loopw [3, 4] (fun y z wx => ∃ (i : Nat) (t : ByteArray), y = .string t ∧ z = .int .i64 i ∧ i ≤ m ∧ Hid (S i = t) ∧ Hid (Below w.heap.size w wx)) (fun _ z _ => (m - intOf z).toNat)
  case atStart => exact ⟨0, _, rfl, rfl, by omega, H0, hidIt (Below.refl _ _)⟩
  case round =>
    obtain ⟨i, t, rfl, rfl, hi, HE, HB⟩ := hrel
    have hts : t.size ≤ 44 * m := by have := HS.out i hi; rw [HE.out] at this; omega
    by_cases hin : i < m
    · have hin' : (i : Int) < (m : Int) := by omega
      have HRx := hidIt (HR.out.kept HB.out)
      obtain ⟨b, off, ea, c0, c1, c2⟩ := HRx.out.all (i := i) (by rw [HN.out]; exact hin)
      subst ea
      have hsz := HP.out i hin
      obtain ⟨x, hx⟩ : ∃ x, rat L i = x := ⟨_, rfl⟩
      rw [hx] at c0 c1 c2 hsz
      have HX := hidIt hx
      clear hx
      obtain ⟨x0, x1, x2⟩ := x
      simp only at c0 c1 c2 hsz
      rcases Nat.eq_zero_or_pos i with hz | hp
      · subst hz
        simp only [Nat.zero_mul, Nat.add_zero] at c0 c1 c2
        have et : t = ⟨#[]⟩ := by rw [← HE.out, H0.out]
        subst et
        have HE' := H1
        rw [HX.out] at HE'
        cases x1 <;> cases x2 <;> (go_wp2_with (fail); exact ⟨⟨1, _, rfl, by simp, by omega, HE', HB⟩, by simp [intOf]; omega⟩)
      · obtain ⟨j, rfl⟩ : ∃ j, i = j + 1 := ⟨i - 1, by omega⟩
        have hpos : (0 : Int) < ((j : Int) + 1) := by omega
        have HE' : Hid (S (j + 1 + 1) = t ++ bl ++ fl x1 114 ++ fl x2 119 ++ bl ++ x0) := hidIt (by rw [H2.out j, HE.out, HX.out])
        cases x1 <;> cases x2 <;> (go_wp2_with (fail); exact ⟨⟨j + 1 + 1, _, rfl, by simp, by omega, HE', HB⟩, by simp [intOf]; omega⟩)
    · have hin' : ¬ (i : Int) < (m : Int) := by omega
      have HI : Hid (i = m) := hidIt (by omega)
      have er : t = S m := by rw [← HE.out, HI.out]
      subst er
      go_wp2_with (fail)
      go_ret
      exact ⟨rfl, HB.out⟩
end Go.Proofs.YtnmmmhkafdhfcaaDoor.Ru
