/-
  Marks written into a list of Members of the call's own, and looked for again. (Written by wip/mkrow.py.)
-/
import Derived.Test.YtceddedlfdgbhaaGreatDoorMem2L
namespace Go.Proofs.YtceddedlfdgbhaaGreatDoor.Mm
open Go.ChangeShapes Go.WideShapes Go.ChangeAt Go.RowKit
open Go.Proofs.YtceddedlfdgbhaaGreatDoor.Rc (BelowBy BelowBy.one BelowBy.cell wp_region_below calls_below calls_same)
set_option linter.unusedVariables false
set_option linter.unusedSimpArgs false
/-- The marks of m Members from number k on. -/
def markX (k m : Nat) : List Rw := (List.range m).map fun j => (((k + 3 * j : Nat) : Int), ((k + 3 * j + 1 : Nat) : Int), ((k + 3 * j + 2 : Nat) : Int))
theorem markX_length (k m : Nat) : (markX k m).length = m := by simp [markX]
theorem rat_markX (k m j : Nat) (h : j < m) : rat (markX k m) j = (((k + 3 * j : Nat) : Int), ((k + 3 * j + 1 : Nat) : Int), ((k + 3 * j + 2 : Nat) : Int)) := by
  unfold markX
  rw [rat_map _ _ _ h]
theorem set_self {L : List Rw} {i : Nat} : L.set i (rat L i) = L := by
  by_cases h : i < L.length
  · apply ext_rat (by rw [List.length_set])
    intro t ht
    rw [rat_set h]
    split
    · next e => rw [e]
    · rfl
  · rw [List.set_eq_of_length_le (by omega)]
theorem Own.put0 {w : World} {base g m cap i : Nat} {L : List Rw} {y0 y1 y2} (h : Own w base (.slice (some ⟨g, 0, none⟩) m cap) (L.set i (y0, y1, y2))) (hi : i < L.length) (v : Int) : Own (w.setCell ⟨g, i * 3, none⟩ (.int .i64 v)) base (.slice (some ⟨g, 0, none⟩) m cap) (L.set i (v, y1, y2)) := by
  have h1 := h.set (i := i) (j := 0) (v := .int .i64 v) (y := (v, y1, y2)) (by rw [List.length_set]; exact hi) (by omega) (fun k hk => by
    rw [rat_set hi, if_pos rfl]
    match k, hk with
    | 0, _ => rfl
    | 1, _ => rfl
    | 2, _ => rfl)
  rw [List.set_set] at h1
  exact h1
theorem Own.put1 {w : World} {base g m cap i : Nat} {L : List Rw} {y0 y1 y2} (h : Own w base (.slice (some ⟨g, 0, none⟩) m cap) (L.set i (y0, y1, y2))) (hi : i < L.length) (v : Int) : Own (w.setCell ⟨g, i * 3 + 1, none⟩ (.int .i64 v)) base (.slice (some ⟨g, 0, none⟩) m cap) (L.set i (y0, v, y2)) := by
  have h1 := h.set (i := i) (j := 1) (v := .int .i64 v) (y := (y0, v, y2)) (by rw [List.length_set]; exact hi) (by omega) (fun k hk => by
    rw [rat_set hi, if_pos rfl]
    match k, hk with
    | 0, _ => rfl
    | 1, _ => rfl
    | 2, _ => rfl)
  rw [List.set_set] at h1
  exact h1
theorem Own.put2 {w : World} {base g m cap i : Nat} {L : List Rw} {y0 y1 y2} (h : Own w base (.slice (some ⟨g, 0, none⟩) m cap) (L.set i (y0, y1, y2))) (hi : i < L.length) (v : Int) : Own (w.setCell ⟨g, i * 3 + 2, none⟩ (.int .i64 v)) base (.slice (some ⟨g, 0, none⟩) m cap) (L.set i (y0, y1, v)) := by
  have h1 := h.set (i := i) (j := 2) (v := .int .i64 v) (y := (y0, y1, v)) (by rw [List.length_set]; exact hi) (by omega) (fun k hk => by
    rw [rat_set hi, if_pos rfl]
    match k, hk with
    | 0, _ => rfl
    | 1, _ => rfl
    | 2, _ => rfl)
  rw [List.set_set] at h1
  exact h1
end Go.Proofs.YtceddedlfdgbhaaGreatDoor.Mm
