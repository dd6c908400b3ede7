/-
  The specification's numerals: l1Int of a number from 0 on is its decimal numeral.
-/
import Derived.Test.YtceddedlfdgbhaaGreatDoorSignI
import Derived.Test.YtceddedlfdgbhaaGreatDoorDoorMet
import Derived.WalkLawsBesides
namespace Go.Proofs.YtceddedlfdgbhaaGreatDoor.Sg
open Go.ChangeShapes Go.WideShapes Go.ChangeAt Go.RowKit
/-- What the loop keeps: n is the number, m what is left of it, l the digits so far. -/
def Lr (n m : Nat) (l : List UInt8) : Prop := (l = [] ∧ m = n) ∨ (l ≠ [] ∧ m = 0 ∧ l = Lib.decDigits n) ∨ (l ≠ [] ∧ m ≠ 0 ∧ Lib.decDigits m ++ l = Lib.decDigits n)
theorem Lr.step {n m : Nat} {l : List UInt8} (h : Lr n m l) (hg : l = [] ∨ m ≠ 0) : Lr n (m / 10) (UInt8.ofNat (48 + m % 10) :: l) := by
  have key : Lib.decDigits m ++ l = Lib.decDigits n := by
    rcases h with ⟨h1, h2⟩ | ⟨h1, h2, _⟩ | ⟨_, _, h3⟩
    · rw [h1, h2, List.append_nil]
    · rcases hg with h4 | h4
      · exact absurd h4 h1
      · exact absurd h2 h4
    · exact h3
  by_cases hm : m < 10
  · refine .inr (.inl ⟨by simp, by omega, ?_⟩)
    rw [← key, Lib.decDigits_one hm, Nat.mod_eq_of_lt hm]
    rfl
  · refine .inr (.inr ⟨by simp, by omega, ?_⟩)
    rw [← key, Lib.decDigits.eq_def m, dif_neg hm, List.append_assoc]
    rfl
theorem Lr.done {n m : Nat} {l : List UInt8} (h : Lr n m l) (h1 : l ≠ []) (h2 : m = 0) : l = Lib.decDigits n := by
  rcases h with ⟨h3, _⟩ | ⟨_, _, h3⟩ | ⟨_, h3, _⟩
  · exact absurd h3 h1
  · exact h3
  · exact absurd h2 h3
/-- What shrinks: what is left, and whether there is a digit. -/
def mz : Value → Value → Nat
  | y, .string s => if s.data.toList = [] then 2 * (intOf y).toNat + 1 else 2 * (intOf y).toNat
  | _, _ => 0
theorem mz_nil (m : Nat) (s : ByteArray) (h : s.data.toList = []) : mz (.int .i64 m) (.string s) = 2 * m + 1 := by simp only [mz, h, intOf, if_true]; omega
theorem mz_cons (m : Nat) (s : ByteArray) (h : ¬ s.data.toList = []) : mz (.int .i64 m) (.string s) = 2 * m := by simp only [mz, h, intOf, if_false]; omega
/-- One byte in a new block, as a text. -/
theorem cv1 (x : Nat) (hx : x < 256) (wr : World) : (convert 107 9 (.slice (some ⟨wr.heap.size, 0, none⟩) 1 1)).run Tryz.prog (wr.alloc (.cells #[.int .u8 x] 5)) = .ok (.string ⟨#[UInt8.ofNat x]⟩) (wr.alloc (.cells #[.int .u8 x] 5)) := by
  refine run_convert_bytes_back _ _ _ 5 ⟨wr.heap.size, 0, none⟩ 1 [UInt8.ofNat x] Tryz.underlying107 Tryz.underlying5 Tryz.underlying9 (fun j hj => ?_)
  have hj0 : j = 0 := by simp at hj; omega
  subst hj0
  have e : (UInt8.ofNat x).toNat = x := by simp; omega
  simp [Addr.add, Nat.mod_eq_of_lt hx]
set_option maxRecDepth 100000 in
set_option maxHeartbeats 4000000 in
theorem l1Int_any (n : Nat) (w : World) (hn : n ≤ 1099511627776) :
    Calls Tryz.prog 40 #[.int .i64 n] w fun e w' => e = .returned (.string ⟨(Lib.itoa n).toArray⟩) ∧ Below w.heap.size w w' := by
  have h0 : ¬ (n : Int) < 0 := by omega
  go_enter Tryz.func40, Tryz.ntmps40
  go_wp2_with (fail)
  go_loopw [0, 3] (fun y z wx => ∃ (m : Nat) (s : ByteArray), y = .int .i64 m ∧ z = .string s ∧ m ≤ 1099511627776 ∧ s.size + m ≤ n + 1 ∧ Lr n m s.data.toList ∧ Below w.heap.size w wx) (fun y z _ => mz y z)
  case atStart => exact ⟨n, _, rfl, rfl, hn, by simp [ByteArray.size], .inl ⟨rfl, rfl⟩, Below.refl _ _⟩
  case round =>
    obtain ⟨m, s, rfl, rfl, hm, hsm, hL, hB⟩ := hrel
    have HL := hidIt hL
    have HB := hidIt hB
    clear hL hB
    by_cases hg : s.data.toList = [] ∨ m ≠ 0
    · have l1 : (0 : Int) ≤ m := by omega
      have l2 : (m : Int) ≤ 1099511627776 := by omega
      have l3 : ¬ (m : Int) % 10 < 0 := by omega
      have hq1 : (⟨#[48 + UInt8.ofNat (m % 10)]⟩ : ByteArray).size = 1 := rfl
      have hq2 : ¬ 9223372036854775807 < 1 + s.size := by omega
      have hq3 : Hid (1 + s.size + m / 10 ≤ n + 1) := by
        refine hidIt ?_
        rcases hg with h1 | h1
        · have h2 : s.size = 0 := by rw [show s.size = s.data.toList.length from (Array.length_toList).symm, h1]; rfl
          omega
        · omega
      have hcv := cv1 (48 + m % 10) (by omega) wr
      have ec : ((48 + m % 10 : Nat) : Int) = 48 + (m : Int) % 10 := by omega
      rw [ec] at hcv
      clear ec
      have hstep := hidIt (HL.out.step hg)
      have hend : Hid (mz (.int .i64 (m / 10 : Nat)) (.string (⟨#[UInt8.ofNat (48 + m % 10)]⟩ ++ s)) < mz (.int .i64 m) (.string s)) := by
        refine hidIt ?_
        rw [mz_cons _ _ (by simp)]
        by_cases hs : s.data.toList = []
        · rw [mz_nil _ _ hs]; omega
        · rw [mz_cons _ _ hs]
          have : m ≠ 0 := hg.resolve_left hs
          omega
      by_cases hs : s.data.toList = []
      · have hs' : s.toList.isEmpty = true := by rw [ByteArray.toList_eq, hs]; rfl
        clear hg hs
        go_wp2_with (fail)
        refine ⟨⟨m / 10, _, by simp, rfl, by omega, by rw [ByteArray.size_append, hq1]; exact hq3.out, ?_, HB.out.alloc (HB.out.size) _⟩, ?_⟩
        · have := hstep.out
          simpa using this
        · have := hend.out
          simpa using this
      · have hs' : s.toList.isEmpty = false := by rw [ByteArray.toList_eq]; simpa using hs
        have hm0 : ((m : Int) != 0) = true := by have : m ≠ 0 := hg.resolve_left hs; simp; omega
        clear hg hs
        go_wp2_with (fail)
        refine ⟨⟨m / 10, _, by simp, rfl, by omega, by rw [ByteArray.size_append, hq1]; exact hq3.out, ?_, HB.out.alloc (HB.out.size) _⟩, ?_⟩
        · have := hstep.out
          simpa using this
        · have := hend.out
          simpa using this
    · have hs : ¬ s.data.toList = [] := fun h => hg (.inl h)
      have hz : m = 0 := Decidable.byContradiction fun h => hg (.inr h)
      have hs' : s.toList.isEmpty = false := by rw [ByteArray.toList_eq]; simpa using hs
      have hd := hidIt (HL.out.done hs hz)
      clear hg hs
      subst hz
      go_wp2_with (fail)
      go_ret
      refine ⟨?_, HB.out⟩
      rw [Lib.itoa_nonneg, ← hd.out]
      rfl
end Go.Proofs.YtceddedlfdgbhaaGreatDoor.Sg
