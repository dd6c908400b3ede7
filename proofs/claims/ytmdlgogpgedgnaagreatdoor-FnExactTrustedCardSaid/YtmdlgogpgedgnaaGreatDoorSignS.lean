/-
  Signed of the program and of the specification: R and T of a secret and a text; the zero Sig and false when it is no secret.
-/
import Derived.Test.YtmdlgogpgedgnaaGreatDoorSignC
import Derived.Test.YtmdlgogpgedgnaaGreatDoorSignK
import Derived.Test.YtmdlgogpgedgnaaGreatDoorLawD
namespace Go.Proofs.YtmdlgogpgedgnaaGreatDoor.Sg
open Go.ChangeShapes Go.WideShapes Go.ChangeAt Go.RowKit
open Cv Cu
/-- R of a secret and a text. -/
def sgR (n : Nat) (s : ByteArray) : Nat × Nat := ns (2791, 6375) (noN n s)
/-- T of a secret and a text. -/
def sgT (n : Nat) (s : ByteArray) : Nat := (noN n s + chN (sgR n s).1 (sgR n s).2 (ns (2791, 6375) n).1 (ns (2791, 6375) n).2 s * n) % 2549
theorem sgT_lt (n : Nat) (s : ByteArray) : sgT n s < 2549 := Nat.mod_lt _ (by omega)
theorem wrap_small (m : Int) (h1 : 0 ≤ m) (h2 : m ≤ 9000000000) : IntKind.i64.wrap m = m := by rw [IntKind.wrap_i64]; omega
theorem prod_le {c n : Nat} (hc : c < 2549) (hn : n < 2549) : c * n ≤ 6492304 := Nat.mul_le_mul (show c ≤ 2548 by omega) (show n ≤ 2548 by omega)
/-- Block b holds the three numbers x, y, z, and may be written. -/
structure Tri (w : World) (b : Nat) (x y z : Int) : Prop where
  lt : b < w.heap.size
  c0 : w.cell? ⟨b, 0, none⟩ = some (.int .i64 x)
  c1 : w.cell? ⟨b, 1, none⟩ = some (.int .i64 y)
  c2 : w.cell? ⟨b, 2, none⟩ = some (.int .i64 z)
  f0 : w.frozen? ⟨b, 0, none⟩ = false
  f1 : w.frozen? ⟨b, 1, none⟩ = false
  f2 : w.frozen? ⟨b, 2, none⟩ = false
theorem Tri.next {w w' : World} {b : Nat} {x y z : Int} (h : Tri w b x y z) (k : Below w.heap.size w w') : Tri w' b x y z :=
  ⟨Nat.lt_of_lt_of_le h.lt k.size, by rw [k.cell (by simpa using h.lt)]; exact h.c0, by rw [k.cell (by simpa using h.lt)]; exact h.c1, by rw [k.cell (by simpa using h.lt)]; exact h.c2, by rw [k.frozen (by simpa using h.lt)]; exact h.f0, by rw [k.frozen (by simpa using h.lt)]; exact h.f1, by rw [k.frozen (by simpa using h.lt)]; exact h.f2⟩
theorem Tri.old {w : World} {o : Obj} {b : Nat} {x y z : Int} (h : Tri w b x y z) : Tri (w.alloc o) b x y z := h.next ((Below.refl w.heap.size w).alloc (Nat.le_refl _) o)
theorem Tri.newAt {w : World} {x y z : Int} {T : TypeId} {k : Nat} (h : w.heap.size = k) : Tri (w.alloc (.cells #[.int .i64 x, .int .i64 y, .int .i64 z] T)) k x y z := by
  subst h; exact ⟨by simp, by simp, by simp, by simp, by simp, by simp, by simp⟩
theorem Tri.put {w : World} {b : Nat} {x y z x' y' z' : Int} (h : Tri w b x y z) : Tri (((w.setCell ⟨b, 0, none⟩ (.int .i64 x')).setCell ⟨b, 1, none⟩ (.int .i64 y')).setCell ⟨b, 2, none⟩ (.int .i64 z')) b x' y' z' := by
  refine ⟨by simpa [World.setCell] using h.lt, ?_, ?_, ?_, ?_, ?_, ?_⟩
  · rw [cell_set_other (by decide), cell_set_other (by decide)]; exact World.cell?_setCell_same' _ _ _ (by rw [h.c0]; rfl)
  · rw [cell_set_other (by decide)]; exact World.cell?_setCell_same' _ _ _ (by rw [cell_set_other (by decide), h.c1]; rfl)
  · exact World.cell?_setCell_same' _ _ _ (by rw [cell_set_other (by decide), cell_set_other (by decide), h.c2]; rfl)
  · simpa using h.f0
  · simpa using h.f1
  · simpa using h.f2
theorem Tri.drew {w : World} {b : Nat} {x y z : Int} (h : Tri w b x y z) : Tri w.drew b x y z := ⟨h.lt, h.c0, h.c1, h.c2, h.f0, h.f1, h.f2⟩
theorem Tw.drew {w : World} {b : Nat} {x y : Int} (h : Tw w b x y) : Tw w.drew b x y := ⟨h.lt, h.c0, h.c1⟩
theorem ret_via3 {fn : Func} {tm : Array Value} {wf : World} {b : Nat} {x y z : Int} {v : Value} (t : Tri wf b x y z) (h : ∀ w2, Tri w2 b x y z → (results fn tm).run Tryz.prog w2 = .ok v w2) : (results fn tm).run Tryz.prog wf = .ok v wf := h wf t
end Go.Proofs.YtmdlgogpgedgnaaGreatDoor.Sg
