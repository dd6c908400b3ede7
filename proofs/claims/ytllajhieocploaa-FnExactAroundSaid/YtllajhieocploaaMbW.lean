/-
  l12Turn, Doubted, Dropped of the specification. (Written by wip/mkTurn.py.)
-/
import Derived.Test.YtllajhieocploaaMbV
namespace Go.Proofs.Ytllajhieocploaa.Mm
open Go.ChangeShapes Go.WideShapes Go.ChangeAt Go.RowKit
open Go.Proofs.Ytllajhieocploaa.Mk (okE newB okBk look Ris IsJoin mergeB)
set_option linter.unusedVariables false
/-- One of an Id and a State becomes one of the next. -/
def turnR (L : List Rw) (id st : Int) : List Rw × Bool := if okBk (toB L) = true then (L.map fun x => if x.1 = id ∧ x.2.2 = st then (x.1, x.2.1, st + 1) else x, L.any fun x => decide (x.1 = id ∧ x.2.2 = st)) else ([], false)
theorem turn_no {L : List Rw} {id st : Int} (h : okBk (toB L) = false) : turnR L id st = ([], false) := by unfold turnR; rw [if_neg (by rw [h]; decide)]
theorem one_id {L : List Rw} (h : okBk (toB L) = true) {i j : Nat} (hi : i < L.length) (hj : j < L.length) (e : kat L i = kat L j) : i = j := by
  have r := Mk.ok_ris h
  unfold Ris at r
  rw [List.pairwise_iff_getElem] at r
  unfold kat at e
  rw [rat_at hi, rat_at hj] at e
  rcases Nat.lt_trichotomy i j with q | q | q
  · have := r i j (by rw [List.length_map]; exact hi) (by rw [List.length_map]; exact hj) q
    rw [List.getElem_map, List.getElem_map] at this
    simp only [toE] at this
    omega
  · exact q
  · have := r j i (by rw [List.length_map]; exact hj) (by rw [List.length_map]; exact hi) q
    rw [List.getElem_map, List.getElem_map] at this
    simp only [toE] at this
    omega
theorem turn_hit {L : List Rw} {id st : Int} {i : Nat} (h : okBk (toB L) = true) (hi : i < L.length) (h1 : (rat L i).1 = id) (h2 : (rat L i).2.2 = st) : turnR L id st = (L.set i (id, (rat L i).2.1, st + 1), true) := by
  unfold turnR
  rw [if_pos h]
  refine Prod.ext ?_ ?_
  · refine ext_rat (by simp) (fun j hj => ?_)
    have hj' : j < L.length := by simpa using hj
    rw [rat_set hi, rat_at (by simpa using hj'), List.getElem_map]
    by_cases e : i = j
    · subst e
      rw [if_pos rfl]
      rw [rat_at hi] at h1 h2 ⊢
      rw [if_pos ⟨h1, h2⟩, h1]
    · rw [if_neg e, if_neg (fun q => e (one_id h hi hj' (by unfold kat; rw [h1, rat_at hj']; exact q.1.symm))), rat_at hj']
  · rw [List.any_eq_true]
    exact ⟨rat L i, rat_mem hi, decide_eq_true ⟨h1, h2⟩⟩
theorem turn_miss {L : List Rw} {id st : Int} (h : okBk (toB L) = true) (hn : ∀ i, i < L.length → ¬ ((rat L i).1 = id ∧ (rat L i).2.2 = st)) : turnR L id st = (L, false) := by
  unfold turnR
  rw [if_pos h]
  have hm : ∀ x ∈ L, ¬ (x.1 = id ∧ x.2.2 = st) := fun x hx => by
    obtain ⟨i, hi, e⟩ := List.mem_iff_getElem.1 hx
    have := hn i hi
    rw [rat_at hi, e] at this
    exact this
  refine Prod.ext ?_ ?_
  · show List.map _ L = L
    conv => rhs; rw [← List.map_id L]
    exact List.map_congr_left (fun x hx => if_neg (hm x hx))
  · rw [List.any_eq_false]
    intro x hx
    simpa using hm x hx
end Go.Proofs.Ytllajhieocploaa.Mm
