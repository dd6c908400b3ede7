/-
  The program's hasher fed with numbers and Points; its nonce.
-/
import Derived.Test.YtgbnkkjjgodilaaSignT
namespace Go.Proofs.Ytgbnkkjjgodilaa.Sg
open Go.ChangeShapes Go.WideShapes Go.ChangeAt Go.RowKit
theorem Tab.old {w : World} {o : Obj} (h : Tab w) : Tab (w.alloc o) := h.kept ((Below.refl _ _).alloc (Nat.le_refl _) o)
theorem hrun_pt (h a b : Nat) : hrun (hrun h (nums (numS a ++ blank))) (nums (numS b ++ blank)) = hrun h (nums (ptS a b)) := by
  unfold ptS
  rw [← hrun_append, ← nums_append]
  congr 2
  apply ByteArray.ext
  simp [ByteArray.data_append]
theorem hrun_two (h : Nat) (a b : ByteArray) : hrun (hrun h (nums a)) (nums b) = hrun h (nums (a ++ b)) := by
  rw [← hrun_append, ← nums_append]
theorem nums_blank : nums blank = [32] := rfl
theorem hrun_blank (h : Nat) (a : ByteArray) : hstep (hrun h (nums a)) 32 = hrun h (nums (a ++ blank)) := by
  rw [← hrun_two, nums_blank, hrun_cons, hrun_nil]
theorem One.only {c : Nat} {w w' : World} {b h : Nat} (o : One w b h) (k : Only c w w') (hb : b ≠ c) : One w' b h :=
  ⟨Nat.lt_of_lt_of_le o.lt k.size, by rw [k.cell (by simpa using o.lt) (by simpa using hb)]; exact o.c0, by rw [k.frozen (by simpa using o.lt) (by simpa using hb)]; exact o.f0⟩
theorem One.next {w w' : World} {b h : Nat} (o : One w b h) (k : Below w.heap.size w w') : One w' b h := o.kept k o.lt
/-- The nonce of a secret and a text. -/
def noN (n : Nat) (s : ByteArray) : Nat := hashN (nums (numS n ++ blank ++ s)) % 2548 + 1
theorem noN_lt (n : Nat) (s : ByteArray) : noN n s < 2549 := by unfold noN; omega
theorem noN_pos (n : Nat) (s : ByteArray) : 0 < noN n s := by unfold noN; omega
end Go.Proofs.Ytgbnkkjjgodilaa.Sg
