/-
  Joined, Written, ValueOf and Alive of the specification.
-/
import Derived.Test.YtllajhieocploaaBokJ
import Derived.Test.YtllajhieocploaaNameR
namespace Go.Proofs.Ytllajhieocploaa.En
open Go.ChangeShapes Go.WideShapes Go.ChangeAt Go.RowKit
open Go.Proofs.Ytllajhieocploaa.Rc (BelowBy BelowBy.one wp_region_below calls_below calls_same)
open Go.Proofs.Ytllajhieocploaa.Bk (Bytes okE newB okBk look Ris IsJoin joinB)
set_option linter.unusedVariables false
attribute [local go_sem] str_gtr str_leq
abbrev shortR (L : List Rw) : Prop := ∀ i, i < L.length → (rat L i).1.size ≤ 9223372036854775807 ∧ (rat L i).2.1.size ≤ 9223372036854775807
/-- What Joined answers, in rows. -/
theorem joined_rows (A B : List Rw) : ∃ J : List Rw, toB J = (joinB (toB A) (toB B)).1 := by
  have h : ∀ L : List Bk.En, ∃ J : List Rw, toB J = L := by
    intro L
    induction L with
    | nil => exact ⟨[], rfl⟩
    | cons x L ih =>
      obtain ⟨J, hJ⟩ := ih
      refine ⟨(⟨x.key.toArray⟩, ⟨x.value.toArray⟩, x.time, x.node, x.gone) :: J, ?_⟩
      rw [toB, List.map_cons, ← hJ]
      rfl
  exact h _
end Go.Proofs.Ytllajhieocploaa.En
