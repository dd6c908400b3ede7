/-
  Errors in memory: a package-level variable that holds an error of errors.New's make; an error of the program's own that wraps one, or none.
-/
import Derived.Test.YtmdlgogpgedgnaaGreatDoorBoxM
namespace Go.Proofs.YtmdlgogpgedgnaaGreatDoor.Se
open Go.RowKit
open Go.Proofs.YtmdlgogpgedgnaaGreatDoor.Bo (Box Box.new Box.kept)
set_option linter.unusedVariables false
/-- The package-level variable g holds the error of errors.New's make that lies at a. -/
def At (w : World) (g : Nat) (a : Addr) : Prop := w.cell? ⟨g, 0, none⟩ = some (.iface 190 (.pointer (some a)))
theorem At.kept {w w' : World} {g : Nat} {a : Addr} (h : At w g a) (k : Below w.heap.size w w') : At w' g a := by
  unfold At at h ⊢
  rw [k.cell (World.block_lt_of_cell? _ _ h)]
  exact h
theorem At.c {w : World} {g : Nat} {a : Addr} (h : At w g a) : w.cell? ⟨g, 0, none⟩ = some (.iface 190 (.pointer (some a))) := h
/-- The error v: none, or one of the program's own of the part p that wraps the error at a. -/
def Res (w : World) (v : Value) (r : Option (ByteArray × Addr)) : Prop :=
  (r = none ∧ v = .nilIface) ∨ ∃ p a b, r = some (p, a) ∧ v = .iface 70 (.pointer (some ⟨b, 0, none⟩)) ∧ Box w b #[.string p, .iface 190 (.pointer (some a))]
theorem Res.kept {w w' : World} {v : Value} {r : Option (ByteArray × Addr)} (h : Res w v r) (k : Below w.heap.size w w') : Res w' v r := by
  rcases h with h | ⟨p, a, b, h1, h2, h3⟩
  · exact .inl h
  · exact .inr ⟨p, a, b, h1, h2, h3.kept k⟩
theorem Res.none (w : World) : Res w .nilIface none := .inl ⟨rfl, rfl⟩
theorem Res.new (w : World) (p : ByteArray) (a : Addr) : Res (w.alloc (.cells #[.string p, .iface 190 (.pointer (some a))] 72)) (.iface 70 (.pointer (some ⟨w.heap.size, 0, Option.none⟩))) (some (p, a)) :=
  .inr ⟨p, a, w.heap.size, rfl, rfl, Box.new _ _ _⟩
theorem Res.newAt {w : World} {p : ByteArray} {a : Addr} {k : Nat} (h : w.heap.size = k) : Res (w.alloc (.cells #[.string p, .iface 190 (.pointer (some a))] 72)) (.iface 70 (.pointer (some ⟨k, 0, Option.none⟩))) (some (p, a)) := by
  subst h
  exact Res.new w p a
theorem Res.drew {w : World} {v : Value} {r : Option (ByteArray × Addr)} (h : Res w v r) : Res w.drew v r := by
  rcases h with h | ⟨p, a, b, h1, h2, h3⟩
  · exact .inl h
  · exact .inr ⟨p, a, b, h1, h2, h3.drew⟩
end Go.Proofs.YtmdlgogpgedgnaaGreatDoor.Se
