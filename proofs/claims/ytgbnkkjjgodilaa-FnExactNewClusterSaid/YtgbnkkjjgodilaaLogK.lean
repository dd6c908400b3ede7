/-
  LogOk of the program and of the specification: is the list a log?
-/
import Derived.Test.YtgbnkkjjgodilaaLogI
import Derived.Deep.RegionHeld3
import Derived.Deep.QuietTactic
import Derived.BigQuiet
namespace Go.Proofs.Ytgbnkkjjgodilaa.Lg
open Go.ChangeShapes Go.WideShapes Go.ChangeAt Go.RowKit
open Sg
theorem tab_drew {w : World} (h : Tab w) : Tab w.drew := h
theorem held2 {W wA : World} {b : Nat} {a0 a1 : Value} (k : Below W.heap.size W wA) (h : W.cell? ⟨b, 0, none⟩ = some a0 ∧ W.cell? ⟨b, 1, none⟩ = some a1) (l0 : b < W.heap.size) : wA.cell? ⟨b, 0, none⟩ = some a0 ∧ wA.cell? ⟨b, 1, none⟩ = some a1 := by
  rw [k.cell (p := ⟨b, 0, none⟩) l0, k.cell (p := ⟨b, 1, none⟩) l0]
  exact h
theorem held2_drew {W wA : World} {b : Nat} {a0 a1 : Value} (k : Below W.drew.heap.size W.drew wA) (h : W.cell? ⟨b, 0, none⟩ = some a0 ∧ W.cell? ⟨b, 1, none⟩ = some a1) (l0 : b < W.heap.size) : wA.cell? ⟨b, 0, none⟩ = some a0 ∧ wA.cell? ⟨b, 1, none⟩ = some a1 := held2 (W := W.drew) k h l0
theorem held2c {W wA : World} {b x y : Nat} {a0 a1 : Value} (k : Below W.heap.size W wA) (h : W.cell? ⟨b, x, none⟩ = some a0 ∧ W.cell? ⟨b, y, none⟩ = some a1) : wA.cell? ⟨b, x, none⟩ = some a0 ∧ wA.cell? ⟨b, y, none⟩ = some a1 := by
  rw [k.cell (p := ⟨b, x, none⟩) (cell_block h.1), k.cell (p := ⟨b, y, none⟩) (cell_block h.1)]
  exact h
theorem held2c_drew {W wA : World} {b x y : Nat} {a0 a1 : Value} (k : Below W.drew.heap.size W.drew wA) (h : W.cell? ⟨b, x, none⟩ = some a0 ∧ W.cell? ⟨b, y, none⟩ = some a1) : wA.cell? ⟨b, x, none⟩ = some a0 ∧ wA.cell? ⟨b, y, none⟩ = some a1 := held2c (W := W.drew) k h
end Go.Proofs.Ytgbnkkjjgodilaa.Lg
