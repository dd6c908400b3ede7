/-
  HasSuffix of package strings; is a byte one of a label, is a text a label: of the program and of the specification.
-/
import Derived.Test.YtbdibkcamomgpaaNameI
namespace Go.Proofs.Ytbdibkcamomgpaa.Nm
open Go.ChangeShapes Go.WideShapes Go.ChangeAt Go.RowKit
theorem hidIt {p : Prop} (h : p) : Hid p := h
theorem toList_beq (a b : ByteArray) : (a.toList == b.toList) = decide (bs a = bs b) := by
  rw [Go.Lib.toList_data, Go.Lib.toList_data]
  by_cases h : bs a = bs b
  · rw [decide_eq_true h]; exact beq_iff_eq.2 h
  · rw [decide_eq_false h]; exact beq_eq_false_iff_ne.2 h
theorem suffix_drop {a b : Bytes} : (a.drop (a.length - b.length) = b) ↔ b <:+ a := by
  rw [List.suffix_iff_eq_drop]
  exact ⟨fun e => e.symm, fun e => e.symm⟩
theorem byteOk_true {n : Nat} {b : UInt8} (e : b.toNat = n) : byteOk b = (decide (97 ≤ n) && decide (n ≤ 122) || decide (48 ≤ n) && decide (n ≤ 57) || decide (n = 45)) := by
  unfold byteOk; rw [e]
end Go.Proofs.Ytbdibkcamomgpaa.Nm
