/-
  Hash: what the program's hash state, hasher and Hash answer and turn, and the specification's Hash.
-/
import Derived.Test.YtgbnkkjjgodilaaSignP
import Derived.Test.YtgbnkkjjgodilaaField
import Derived.Test.YtgbnkkjjgodilaaMem
import Derived.Deep.RegionWith
import Derived.Deep.Cut
namespace Go.Proofs.Ytgbnkkjjgodilaa.Sg
open Go.ChangeShapes Go.WideShapes Go.ChangeAt Go.RowKit
theorem hidIt {p : Prop} (h : p) : Hid p := h
/-- Block b's first cell holds the number h, and may be written. -/
structure One (w : World) (b h : Nat) : Prop where
  lt : b < w.heap.size
  c0 : w.cell? ⟨b, 0, none⟩ = some (.int .i64 h)
  f0 : w.frozen? ⟨b, 0, none⟩ = false
theorem One.kept {B : Nat} {w w' : World} {b h : Nat} (o : One w b h) (k : Below B w w') (hb : b < B) : One w' b h :=
  ⟨Nat.lt_of_lt_of_le o.lt k.size, by rw [k.cell (by simpa using hb)]; exact o.c0, by rw [k.frozen (by simpa using hb)]; exact o.f0⟩
theorem One.put {w : World} {b h g : Nat} (o : One w b h) : One (w.setCell ⟨b, 0, none⟩ (.int .i64 g)) b g :=
  ⟨by simpa [World.setCell] using o.lt, World.cell?_setCell_same' _ _ _ (by rw [o.c0]; rfl), by simpa using o.f0⟩
theorem One.newAt {w : World} {h k : Nat} {T : TypeId} (e : w.heap.size = k) : One (w.alloc (.cells #[.int .i64 h] T)) k h := by
  subst e; exact ⟨by simp, by simp, by simp⟩
theorem One.drew {w : World} {b h : Nat} (o : One w b h) : One w.drew b h := ⟨o.lt, o.c0, o.f0⟩
end Go.Proofs.Ytgbnkkjjgodilaa.Sg
