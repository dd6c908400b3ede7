/-
  RuleFor and May of the specification.
-/
import Derived.Test.YtdgnjhppggemhaaDoorRuS
import Derived.Test.YtdgnjhppggemhaaDoorBoxM
namespace Go.Proofs.YtdgnjhppggemhaaDoor.Ru
open Go.ChangeShapes Go.WideShapes Go.ChangeAt Go.RowKit
set_option linter.unusedVariables false
theorem bs_front (s : ByteArray) (b : Nat) : bs (s.extract 0 b) = (bs s).take b := by
  unfold bs
  rw [Go.Lib.extract_data]
  simp
theorem fit_text (x k : ByteArray) : fit (bs x) (bs k) = ((k.extract 0 x.size).toList == x.toList) := by
  rw [eq_of, bs_front]
  unfold fit
  rw [bs_length]
theorem fit_long {x k : ByteArray} (h : ¬ x.size ≤ k.size) : fit (bs x) (bs k) = false := fit_no (by rw [bs_length, bs_length]; exact h)
def bi : Option Nat → Int
  | none => -1
  | some j => j
def zr : Rw := (ByteArray.empty, false, false)
end Go.Proofs.YtdgnjhppggemhaaDoor.Ru
