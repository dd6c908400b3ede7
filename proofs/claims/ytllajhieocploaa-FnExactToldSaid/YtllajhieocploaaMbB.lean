/-
  Back of the specification. (Written by wip/mkTurn.py.)
-/
import Derived.Test.YtllajhieocploaaMbW
namespace Go.Proofs.Ytllajhieocploaa.Mk
set_option linter.unusedVariables false
def upE (id t : Int) : En := ⟨id, [], t, 0, false⟩
/-- What Back answers. -/
def backB (A : List En) (id : Int) : List En × Bool :=
  if okBk A = true then (if 0 ≤ id ∧ id ≤ 7 then (match look A id with
    | some e => if e.time = 1000000 then (A, false) else (A.map fun x => if x.key = id then upE id (x.time + 1) else x, true)
    | none => (mergeE A [upE id 0], true)) else (A, false)) else ([], false)
theorem back_no {A : List En} {id : Int} (h : okBk A = false) : backB A id = ([], false) := by unfold backB; rw [if_neg (by rw [h]; decide)]
theorem back_out {A : List En} {id : Int} (h : okBk A = true) (k : ¬ (0 ≤ id ∧ id ≤ 7)) : backB A id = (A, false) := by unfold backB; rw [if_pos h, if_neg k]
theorem back_max {A : List En} {id : Int} {e : En} (h : okBk A = true) (k : 0 ≤ id ∧ id ≤ 7) (hl : look A id = some e) (ht : e.time = 1000000) : backB A id = (A, false) := by unfold backB; rw [if_pos h, if_pos k, hl]; simp [ht]
theorem back_up {A : List En} {id : Int} {e : En} (h : okBk A = true) (k : 0 ≤ id ∧ id ≤ 7) (hl : look A id = some e) (ht : e.time ≠ 1000000) : backB A id = (A.map fun x => if x.key = id then upE id (x.time + 1) else x, true) := by unfold backB; rw [if_pos h, if_pos k, hl]; simp [ht]
theorem upE_ok {id t : Int} (k : 0 ≤ id ∧ id ≤ 7) (ht : 0 ≤ t ∧ t ≤ 1000000) : okE (upE id t) = true := by
  unfold okE upE
  simp only [Bool.and_eq_true, decide_eq_true_eq]
  omega
theorem back_new {A J : List En} {id : Int} (h : okBk A = true) (k : 0 ≤ id ∧ id ≤ 7) (hl : look A id = none) (j : IsJoin A [upE id 0] J) : backB A id = (J, true) := by
  unfold backB
  rw [if_pos h, if_pos k, hl]
  simp only
  rw [(merge_join A [upE id 0] (ok_ris h) (List.pairwise_singleton _ _)).unique j]
end Go.Proofs.Ytllajhieocploaa.Mk
namespace Go.Proofs.Ytllajhieocploaa.Mm
open Go.ChangeShapes Go.WideShapes Go.ChangeAt Go.RowKit
open Go.Proofs.Ytllajhieocploaa.Mk (okE newB okBk look Ris IsJoin mergeB backB upE)
set_option linter.unusedVariables false
theorem look_hit {L : List Rw} {id : Int} {i : Nat} (h : okBk (toB L) = true) (hi : i < L.length) (e : (rat L i).1 = id) : Mk.look (toB L) id = some (toE (rat L i)) := by
  have := Mk.look_mem (Mk.ok_ris h) (List.mem_map.2 ⟨_, rat_mem hi, rfl⟩ : toE (rat L i) ∈ toB L)
  rw [show (toE (rat L i)).key = id from e] at this
  exact this
theorem look_miss {L : List Rw} {id : Int} (h : ∀ j, j < L.length → (rat L j).1 ≠ id) : Mk.look (toB L) id = none :=
  Mk.look_none_of (fun x hx => by
    obtain ⟨y, hy, rfl⟩ := List.mem_map.1 hx
    obtain ⟨j, hj, rfl⟩ := List.mem_iff_getElem.1 hy
    have := h j hj
    rw [rat_at hj] at this
    exact this)
theorem map_up {L : List Rw} {id : Int} {i : Nat} (h : okBk (toB L) = true) (hi : i < L.length) (e : (rat L i).1 = id) : toB (L.set i (id, (rat L i).2.1 + 1, 0)) = (toB L).map fun x => if x.key = id then upE id (x.time + 1) else x := by
  refine List.ext_getElem (by simp) (fun j h1 h2 => ?_)
  have hj : j < L.length := by simpa using h1
  simp only [toB, List.getElem_map, List.getElem_set]
  by_cases q : i = j
  · subst q
    rw [if_pos rfl]
    rw [rat_at hi] at e ⊢
    rw [if_pos (show (toE L[i]).key = id from e)]
    rfl
  · rw [if_neg q, if_neg]
    intro c
    refine q (one_id h hi hj ?_)
    unfold kat
    rw [e, rat_at hj]
    exact c.symm
end Go.Proofs.Ytllajhieocploaa.Mm
