/-
  Whether all of a list are names: allNames of the program.
-/
import Derived.Test.YtllajhieocploaaGreatDoorNameR
import Derived.Test.YtllajhieocploaaGreatDoorNameL
namespace Go.Proofs.YtllajhieocploaaGreatDoor.Nm
open Go.ChangeShapes Go.WideShapes Go.ChangeAt Go.RowKit
/-- The bytes of the texts. -/
abbrev bL (L : List ByteArray) : List Bytes := L.map bs
theorem all_take {α : Type} {p : α → Bool} {L : List α} {i : Nat} (hi : i < L.length) (h : (L.take i).all p = true) (hp : p L[i] = true) : (L.take (i + 1)).all p = true := by
  rw [List.take_add_one, List.getElem?_eq_getElem hi, List.all_append, h]
  simp [hp]
theorem all_bad {α : Type} {p : α → Bool} {L : List α} {i : Nat} (hi : i < L.length) (hp : p L[i] = false) : L.all p = false := by
  cases h : L.all p with
  | false => rfl
  | true => rw [List.all_eq_true.1 h _ (List.getElem_mem hi)] at hp; cases hp
theorem bL_at {L : List ByteArray} {i : Nat} (h : i < L.length) : (bL L)[i]'(by simpa using h) = bs (sat L i) := by rw [sat_at h]; simp
theorem bL_length (L : List ByteArray) : (bL L).length = L.length := List.length_map _
end Go.Proofs.YtllajhieocploaaGreatDoor.Nm
