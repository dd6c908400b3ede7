/-
  Steps through a law: what a call that makes memory leaves of cells, of the bytes of a draw, of what was.
-/
import Derived.Test.YtciikondckoboaaGreatDoorLawC2
import Derived.Test.YtciikondckoboaaGreatDoorDraw
namespace Go.Proofs.YtciikondckoboaaGreatDoor.Cv
open Go.ChangeShapes Go.WideShapes Go.ChangeAt Go.RowKit
open Cu
theorem Tw.next {w w' : World} {b : Nat} {x y : Int} (h : Tw w b x y) (k : Below w.heap.size w w') : Tw w' b x y := h.kept k h.lt
theorem Tw.step {w w' : World} {o : Obj} {b : Nat} {x y : Int} (h : Tw w b x y) (k : Below (w.alloc o).heap.size (w.alloc o) w') : Tw w' b x y :=
  Tw.next (Tw.kept h ((Below.refl w.heap.size w).alloc (Nat.le_refl _) o) h.lt) k
theorem Tw.old {w : World} {o : Obj} {b : Nat} {x y : Int} (h : Tw w b x y) : Tw (w.alloc o) b x y :=
  Tw.kept h ((Below.refl w.heap.size w).alloc (Nat.le_refl _) o) h.lt
theorem Tw.fresh {w w' : World} {x y : Int} {T : TypeId} (k : Below (w.alloc (.cells #[.int .i64 x, .int .i64 y] T)).heap.size (w.alloc (.cells #[.int .i64 x, .int .i64 y] T)) w') : Tw w' w.heap.size x y :=
  Tw.next (Tw.newAt rfl) k
theorem code_next {w w' : World} {a : Option Addr} {len : Nat} (h : Dr.Code w.heap.size w a len) (k : Below w.heap.size w w') : Dr.Code w'.heap.size w' a len := h.kept k
theorem code_old {w : World} {o : Obj} {a : Option Addr} {len : Nat} (h : Dr.Code w.heap.size w a len) : Dr.Code (w.alloc o).heap.size (w.alloc o) a len := h.kept ((Below.refl w.heap.size w).alloc (Nat.le_refl _) o)
theorem code_step {w w' : World} {o : Obj} {a : Option Addr} {len : Nat} (h : Dr.Code w.heap.size w a len) (k : Below (w.alloc o).heap.size (w.alloc o) w') : Dr.Code w'.heap.size w' a len := (code_old h).kept k
theorem below_next {w0 w w' : World} (h : Below w0.heap.size w0 w) (k : Below w.heap.size w w') : Below w0.heap.size w0 w' := h.trans (k.mono h.size)
theorem below_old {w0 w : World} {o : Obj} (h : Below w0.heap.size w0 w) : Below w0.heap.size w0 (w.alloc o) := h.alloc h.size o
theorem below_step {w0 w w' : World} {o : Obj} (h : Below w0.heap.size w0 w) (k : Below (w.alloc o).heap.size (w.alloc o) w') : Below w0.heap.size w0 w' := below_next (below_old h) k
theorem held8 {W wA : World} {b0 b1 b2 b3 : Nat} {a0 a1 a2 a3 a4 a5 a6 a7 : Value} (k : Below W.heap.size W wA) (h : W.cell? ⟨b0, 0, none⟩ = some a0 ∧ W.cell? ⟨b0, 1, none⟩ = some a1 ∧ W.cell? ⟨b1, 0, none⟩ = some a2 ∧ W.cell? ⟨b1, 1, none⟩ = some a3 ∧ W.cell? ⟨b2, 0, none⟩ = some a4 ∧ W.cell? ⟨b2, 1, none⟩ = some a5 ∧ W.cell? ⟨b3, 0, none⟩ = some a6 ∧ W.cell? ⟨b3, 1, none⟩ = some a7) (l0 : b0 < W.heap.size) (l1 : b1 < W.heap.size) (l2 : b2 < W.heap.size) (l3 : b3 < W.heap.size) :
    wA.cell? ⟨b0, 0, none⟩ = some a0 ∧ wA.cell? ⟨b0, 1, none⟩ = some a1 ∧ wA.cell? ⟨b1, 0, none⟩ = some a2 ∧ wA.cell? ⟨b1, 1, none⟩ = some a3 ∧ wA.cell? ⟨b2, 0, none⟩ = some a4 ∧ wA.cell? ⟨b2, 1, none⟩ = some a5 ∧ wA.cell? ⟨b3, 0, none⟩ = some a6 ∧ wA.cell? ⟨b3, 1, none⟩ = some a7 := by
  rw [k.cell (p := ⟨b0, 0, none⟩) l0, k.cell (p := ⟨b0, 1, none⟩) l0, k.cell (p := ⟨b1, 0, none⟩) l1, k.cell (p := ⟨b1, 1, none⟩) l1, k.cell (p := ⟨b2, 0, none⟩) l2, k.cell (p := ⟨b2, 1, none⟩) l2, k.cell (p := ⟨b3, 0, none⟩) l3, k.cell (p := ⟨b3, 1, none⟩) l3]
  exact h
theorem held8_drew {W wA : World} {b0 b1 b2 b3 : Nat} {a0 a1 a2 a3 a4 a5 a6 a7 : Value} (k : Below W.drew.heap.size W.drew wA) (h : W.cell? ⟨b0, 0, none⟩ = some a0 ∧ W.cell? ⟨b0, 1, none⟩ = some a1 ∧ W.cell? ⟨b1, 0, none⟩ = some a2 ∧ W.cell? ⟨b1, 1, none⟩ = some a3 ∧ W.cell? ⟨b2, 0, none⟩ = some a4 ∧ W.cell? ⟨b2, 1, none⟩ = some a5 ∧ W.cell? ⟨b3, 0, none⟩ = some a6 ∧ W.cell? ⟨b3, 1, none⟩ = some a7) (l0 : b0 < W.heap.size) (l1 : b1 < W.heap.size) (l2 : b2 < W.heap.size) (l3 : b3 < W.heap.size) :
    wA.cell? ⟨b0, 0, none⟩ = some a0 ∧ wA.cell? ⟨b0, 1, none⟩ = some a1 ∧ wA.cell? ⟨b1, 0, none⟩ = some a2 ∧ wA.cell? ⟨b1, 1, none⟩ = some a3 ∧ wA.cell? ⟨b2, 0, none⟩ = some a4 ∧ wA.cell? ⟨b2, 1, none⟩ = some a5 ∧ wA.cell? ⟨b3, 0, none⟩ = some a6 ∧ wA.cell? ⟨b3, 1, none⟩ = some a7 := held8 (W := W.drew) k h l0 l1 l2 l3
end Go.Proofs.YtciikondckoboaaGreatDoor.Cv
