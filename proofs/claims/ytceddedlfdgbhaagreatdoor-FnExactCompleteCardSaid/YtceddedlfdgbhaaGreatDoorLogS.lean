/-
  Head and Same of the program and of the specification.
-/
import Derived.Test.YtceddedlfdgbhaaGreatDoorLogK
import Derived.Laws.StructEq
namespace Go.Proofs.YtceddedlfdgbhaaGreatDoor.Lg
open Go.ChangeShapes Go.WideShapes Go.ChangeAt Go.RowKit
open Sg
/-- What Head answers: the last Sum of a log, -1 of what is none. -/
def hdL (L : List Ln) : Int := if okL L then headL L else -1
theorem hdL_ok {L : List Ln} (h : okL L = true) : hdL L = headL L := by unfold hdL; rw [if_pos h]
theorem hdL_no {L : List Ln} (h : okL L = false) : hdL L = -1 := by unfold hdL; rw [if_neg (by rw [h]; simp)]
/-- n is how many first Lines both have alike. -/
def IsSame (L M : List Ln) (n : Nat) : Prop := n ≤ L.length ∧ n ≤ M.length ∧ (∀ j, j < n → lat L j = lat M j) ∧ (n < L.length → n < M.length → lat L n ≠ lat M n)
theorem same_ex (L M : List Ln) : ∃ n, IsSame L M n := by
  have key : ∀ d k, d + k = L.length → (∀ j, j < k → lat L j = lat M j) → k ≤ M.length → ∃ n, IsSame L M n := by
    intro d
    induction d with
    | zero => intro k hk hj hm; exact ⟨k, by omega, hm, hj, fun h => by omega⟩
    | succ d ih =>
      intro k hk hj hm
      by_cases h2 : k < M.length
      · by_cases h3 : lat L k = lat M k
        · refine ih (k + 1) (by omega) (fun j hj' => ?_) (by omega)
          rcases Nat.lt_or_ge j k with h | h
          · exact hj j h
          · rw [show j = k from by omega]; exact h3
        · exact ⟨k, by omega, hm, hj, fun _ _ => h3⟩
      · exact ⟨k, by omega, hm, hj, fun _ h => absurd h h2⟩
  exact key L.length 0 (by omega) (fun j hj => by omega) (by omega)
/-- What the next Lines may be: alike, or unlike in the text, or in the Sum alone. -/
theorem ln_cases (x y : Ln) : x = y ∨ (x.1.toList == y.1.toList) = false ∨ (x.1 = y.1 ∧ (x.2 == y.2) = false) := by
  by_cases h : x.1 = y.1
  · by_cases h2 : x.2 = y.2
    · exact .inl (Prod.ext h h2)
    · exact .inr (.inr ⟨h, by simpa using h2⟩)
  · refine .inr (.inl (beq_eq_false_iff_ne.2 fun k => h ?_))
    rw [ByteArray.toList_eq, ByteArray.toList_eq] at k
    exact ByteArray.ext (Array.toList_inj.1 k)
end Go.Proofs.YtceddedlfdgbhaaGreatDoor.Lg
