/-
  What the program takes of package strings, at the dot: Cut, LastIndex, HasSuffix; and the last label.
-/
import Derived.Test.YtbdibkcamomgpaaNameP
import Derived.Test.YtbdibkcamomgpaaProg
import Derived.Lib.Bytealg
import Derived.Lib.Walk
import Derived.Lib.LastIndexByte
import Derived.BigCall
import Derived.BigGuard
import Derived.BigQuiet
import Derived.Laws.Strings3
import Derived.Deep.Draws
import Derived.Deep.QuietTactic
namespace Go.Proofs.Ytbdibkcamomgpaa.Nm
open Go.ChangeShapes Go.WideShapes Go.ChangeAt Go.RowKit
abbrev dotS : ByteArray := ⟨#[46]⟩
theorem ix_none {l : Bytes} (h : ∀ c ∈ l, c ≠ 46) : Go.Lib.indexByte l 46 = -1 := by
  induction l with
  | nil => rfl
  | cons c r ih =>
    unfold Go.Lib.indexByte
    rw [ih (fun x hx => h x (by simp [hx]))]
    simp [h c (by simp)]
theorem ix_cut {p : Bytes} (h : ∀ c ∈ p, c ≠ 46) (r : Bytes) : Go.Lib.indexByte (p ++ 46 :: r) 46 = (p.length : Int) := by
  induction p with
  | nil => simp [Go.Lib.indexByte]
  | cons c q ih =>
    rw [List.cons_append]
    unfold Go.Lib.indexByte
    rw [ih (fun x hx => h x (by simp [hx]))]
    simp [h c (by simp)]
end Go.Proofs.Ytbdibkcamomgpaa.Nm
