/-
  The specification's numerals: l1Int of a number from 0 on is its decimal numeral.
-/
import Derived.Test.YtgbnkkjjgodilaaSignI
import Derived.Test.YtgbnkkjjgodilaaDoorMet
import Derived.WalkLawsBesides
namespace Go.Proofs.Ytgbnkkjjgodilaa.Sg
open Go.ChangeShapes Go.WideShapes Go.ChangeAt Go.RowKit
/-- What the loop keeps: n is the number, m what is left of it, l the digits so far. -/
def Lr (n m : Nat) (l : List UInt8) : Prop := (l = [] ∧ m = n) ∨ (l ≠ [] ∧ m = 0 ∧ l = Lib.decDigits n) ∨ (l ≠ [] ∧ m ≠ 0 ∧ Lib.decDigits m ++ l = Lib.decDigits n)
theorem Lr.step {n m : Nat} {l : List UInt8} (h : Lr n m l) (hg : l = [] ∨ m ≠ 0) : Lr n (m / 10) (UInt8.ofNat (48 + m % 10) :: l) := by
  have key : Lib.decDigits m ++ l = Lib.decDigits n := by
    rcases h with ⟨h1, h2⟩ | ⟨h1, h2, _⟩ | ⟨_, _, h3⟩
    · rw [h1, h2, List.append_nil]
    · rcases hg with h4 | h4
      · exact absurd h4 h1
      · exact absurd h2 h4
    · exact h3
  by_cases hm : m < 10
  · refine .inr (.inl ⟨by simp, by omega, ?_⟩)
    rw [← key, Lib.decDigits_one hm, Nat.mod_eq_of_lt hm]
    rfl
  · refine .inr (.inr ⟨by simp, by omega, ?_⟩)
    rw [← key, Lib.decDigits.eq_def m, dif_neg hm, List.append_assoc]
    rfl
theorem Lr.done {n m : Nat} {l : List UInt8} (h : Lr n m l) (h1 : l ≠ []) (h2 : m = 0) : l = Lib.decDigits n := by
  rcases h with ⟨h3, _⟩ | ⟨_, _, h3⟩ | ⟨_, h3, _⟩
  · exact absurd h3 h1
  · exact h3
  · exact absurd h2 h3
/-- What shrinks: what is left, and whether there is a digit. -/
def mz : Value → Value → Nat
  | y, .string s => if s.data.toList = [] then 2 * (intOf y).toNat + 1 else 2 * (intOf y).toNat
  | _, _ => 0
theorem mz_nil (m : Nat) (s : ByteArray) (h : s.data.toList = []) : mz (.int .i64 m) (.string s) = 2 * m + 1 := by simp only [mz, h, intOf, if_true]; omega
theorem mz_cons (m : Nat) (s : ByteArray) (h : ¬ s.data.toList = []) : mz (.int .i64 m) (.string s) = 2 * m := by simp only [mz, h, intOf, if_false]; omega
/-- One byte in a new block, as a text. -/
theorem cv1 (x : Nat) (hx : x < 256) (wr : World) : (convert 72 9 (.slice (some ⟨wr.heap.size, 0, none⟩) 1 1)).run Try.prog (wr.alloc (.cells #[.int .u8 x] 5)) = .ok (.string ⟨#[UInt8.ofNat x]⟩) (wr.alloc (.cells #[.int .u8 x] 5)) := by
  refine run_convert_bytes_back _ _ _ 5 ⟨wr.heap.size, 0, none⟩ 1 [UInt8.ofNat x] Try.underlying72 Try.underlying5 Try.underlying9 (fun j hj => ?_)
  have hj0 : j = 0 := by simp at hj; omega
  subst hj0
  have e : (UInt8.ofNat x).toNat = x := by simp; omega
  simp [Addr.add, Nat.mod_eq_of_lt hx]
end Go.Proofs.Ytgbnkkjjgodilaa.Sg
