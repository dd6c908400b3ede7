/-
  What a Line's Sum is, by the program and by the specification; the last Sum of a list.
-/
import Derived.Test.YtgbnkkjjgodilaaLogP
namespace Go.Proofs.Ytgbnkkjjgodilaa.Lg
open Go.ChangeShapes Go.WideShapes Go.ChangeAt Go.RowKit
open Sg
/-- What the walk wants of the last Line. -/
theorem Rd.last {w : World} {a : Option Addr} {L : List Ln} {k : Nat} (h : Rd w a L) (hk : L.length = k + 1) : ∃ b off, a = some ⟨b, off, none⟩ ∧ w.cell? ⟨b, off + k * 2 + 1, none⟩ = some (.int .i64 (headL L)) := by
  obtain ⟨b, off, e, _, c1⟩ := h.cell k (by omega)
  exact ⟨b, off, e, by rw [headL_len hk]; exact c1⟩
end Go.Proofs.Ytgbnkkjjgodilaa.Lg
