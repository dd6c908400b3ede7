/-
  Two cells of a block, and what a write elsewhere leaves of them.
-/
import Derived.Test.YtllajhieocploaaGreatDoorLawC
namespace Go.Proofs.YtllajhieocploaaGreatDoor.Cv
open Go.ChangeShapes Go.WideShapes Go.ChangeAt Go.RowKit
open Cu
/-- Block b holds the two numbers x, y. -/
structure Tw (w : World) (b : Nat) (x y : Int) : Prop where
  lt : b < w.heap.size
  c0 : w.cell? ⟨b, 0, none⟩ = some (.int .i64 x)
  c1 : w.cell? ⟨b, 1, none⟩ = some (.int .i64 y)
theorem Tw.kept {B : Nat} {w w' : World} {b : Nat} {x y : Int} (h : Tw w b x y) (k : Below B w w') (hb : b < B) : Tw w' b x y :=
  ⟨Nat.lt_of_lt_of_le h.lt k.size, by rw [k.cell (by simpa using hb)]; exact h.c0, by rw [k.cell (by simpa using hb)]; exact h.c1⟩
theorem Tw.newAt {w : World} {x y : Int} {T : TypeId} {k : Nat} (h : w.heap.size = k) : Tw (w.alloc (.cells #[.int .i64 x, .int .i64 y] T)) k x y := by
  subst h; exact ⟨by simp, by simp, by simp⟩
theorem Tw.put {w : World} {b : Nat} {x y : Int} {v0 v1 : Value} (l : b < w.heap.size) (c0 : w.cell? ⟨b, 0, none⟩ = some v0) (c1 : w.cell? ⟨b, 1, none⟩ = some v1) : Tw ((w.setCell ⟨b, 0, none⟩ (.int .i64 x)).setCell ⟨b, 1, none⟩ (.int .i64 y)) b x y := by
  refine ⟨by simpa [World.setCell] using l, ?_, ?_⟩
  · rw [cell_set_other (by decide)]; exact World.cell?_setCell_same' _ _ _ (by rw [c0]; rfl)
  · exact World.cell?_setCell_same' _ _ _ (by rw [cell_set_other (by decide), c1]; rfl)
/-- Four cells that a write into another block leaves as they were. -/
theorem held_far {wC : World} {b s : Nat} {u v a0 a1 a2 a3 : Value} (h : wC.cell? ⟨s, 0, none⟩ = some a0 ∧ wC.cell? ⟨s, 1, none⟩ = some a1 ∧ wC.cell? ⟨s + 1, 0, none⟩ = some a2 ∧ wC.cell? ⟨s + 1, 1, none⟩ = some a3) (h1 : b ≠ s) (h2 : b ≠ s + 1) :
    ((wC.setCell ⟨b, 0, none⟩ u).setCell ⟨b, 1, none⟩ v).cell? ⟨s, 0, none⟩ = some a0 ∧ ((wC.setCell ⟨b, 0, none⟩ u).setCell ⟨b, 1, none⟩ v).cell? ⟨s, 1, none⟩ = some a1 ∧ ((wC.setCell ⟨b, 0, none⟩ u).setCell ⟨b, 1, none⟩ v).cell? ⟨s + 1, 0, none⟩ = some a2 ∧ ((wC.setCell ⟨b, 0, none⟩ u).setCell ⟨b, 1, none⟩ v).cell? ⟨s + 1, 1, none⟩ = some a3 := by
  rw [cell_set_far h1, cell_set_far h1, cell_set_far h1, cell_set_far h1, cell_set_far h2, cell_set_far h2, cell_set_far h2, cell_set_far h2]
  exact h
theorem held_kept {W wA : World} {s : Nat} {a0 a1 a2 a3 : Value} (k : Below W.heap.size W wA) (h : W.cell? ⟨s, 0, none⟩ = some a0 ∧ W.cell? ⟨s, 1, none⟩ = some a1 ∧ W.cell? ⟨s + 1, 0, none⟩ = some a2 ∧ W.cell? ⟨s + 1, 1, none⟩ = some a3) (hs : s + 1 < W.heap.size) :
    wA.cell? ⟨s, 0, none⟩ = some a0 ∧ wA.cell? ⟨s, 1, none⟩ = some a1 ∧ wA.cell? ⟨s + 1, 0, none⟩ = some a2 ∧ wA.cell? ⟨s + 1, 1, none⟩ = some a3 := by
  rw [k.cell (by simp; omega), k.cell (by simp; omega), k.cell (by simp; omega), k.cell (by simp; omega)]
  exact h
theorem held_kept_drew {W wA : World} {s : Nat} {a0 a1 a2 a3 : Value} (k : Below W.drew.heap.size W.drew wA) (h : W.cell? ⟨s, 0, none⟩ = some a0 ∧ W.cell? ⟨s, 1, none⟩ = some a1 ∧ W.cell? ⟨s + 1, 0, none⟩ = some a2 ∧ W.cell? ⟨s + 1, 1, none⟩ = some a3) (hs : s + 1 < W.heap.size) :
    wA.cell? ⟨s, 0, none⟩ = some a0 ∧ wA.cell? ⟨s, 1, none⟩ = some a1 ∧ wA.cell? ⟨s + 1, 0, none⟩ = some a2 ∧ wA.cell? ⟨s + 1, 1, none⟩ = some a3 :=
  held_kept (W := W.drew) k h hs
theorem held_alloc {W : World} {o : Obj} {s : Nat} {a0 a1 a2 a3 : Value} (h : W.cell? ⟨s, 0, none⟩ = some a0 ∧ W.cell? ⟨s, 1, none⟩ = some a1 ∧ W.cell? ⟨s + 1, 0, none⟩ = some a2 ∧ W.cell? ⟨s + 1, 1, none⟩ = some a3) (hs : s + 1 < W.heap.size) :
    (W.alloc o).cell? ⟨s, 0, none⟩ = some a0 ∧ (W.alloc o).cell? ⟨s, 1, none⟩ = some a1 ∧ (W.alloc o).cell? ⟨s + 1, 0, none⟩ = some a2 ∧ (W.alloc o).cell? ⟨s + 1, 1, none⟩ = some a3 :=
  held_kept ((Below.refl W.heap.size W).alloc (Nat.le_refl _) o) h hs
theorem held_realloc {W : World} {o o' : Obj} {s : Nat} {a0 a1 a2 a3 : Value} (h : (W.alloc o).cell? ⟨s, 0, none⟩ = some a0 ∧ (W.alloc o).cell? ⟨s, 1, none⟩ = some a1 ∧ (W.alloc o).cell? ⟨s + 1, 0, none⟩ = some a2 ∧ (W.alloc o).cell? ⟨s + 1, 1, none⟩ = some a3) (hs : s + 1 < W.heap.size) :
    (W.alloc o').cell? ⟨s, 0, none⟩ = some a0 ∧ (W.alloc o').cell? ⟨s, 1, none⟩ = some a1 ∧ (W.alloc o').cell? ⟨s + 1, 0, none⟩ = some a2 ∧ (W.alloc o').cell? ⟨s + 1, 1, none⟩ = some a3 := by
  have k := (Below.refl W.heap.size W).alloc (Nat.le_refl _) o
  refine held_alloc ?_ hs
  rw [k.cell (by simp; omega), k.cell (by simp; omega), k.cell (by simp; omega), k.cell (by simp; omega)] at h
  exact h
end Go.Proofs.YtllajhieocploaaGreatDoor.Cv
