/-
  Doubted, Dropped and Back of the program.
-/
import Derived.Test.YtkkbccppfppalaaMbO
import Derived.Test.YtkkbccppfppalaaMbI
namespace Go.Proofs.Ytkkbccppfppalaa.Mm
open Go.ChangeShapes Go.WideShapes Go.ChangeAt Go.RowKit
open Go.Proofs.Ytkkbccppfppalaa.Mk (okE newB okBk look Ris IsJoin mergeB backB upE)
set_option linter.unusedVariables false
theorem st_of {x : Rw} (h : okE (toE x) = true) : (0 ≤ x.2.1 ∧ x.2.1 ≤ 1000000) ∧ (x.2.2 = 0 ∨ x.2.2 = 1 ∨ x.2.2 = 2) := by
  rw [okE_eq] at h
  unfold inB at h
  simp only [Bool.and_eq_true, decide_eq_true_eq] at h
  omega
/-- One of State st becomes one of the next, all others stay. -/
def nxT (st : Int) (x : Rw) : Rw := if x.2.2 = st then (x.1, x.2.1, st + 1) else x
def chT (st : Int) (x : Rw) : Bool := decide (x.2.2 = st)
theorem turn_of {L M : List Rw} {id st : Int} {b : Bool} (h : ChR L id (nxT st) (chT st) M b) : turnR L id st = (M, b) := by
  cases ok : okBk (toB L) with
  | false =>
    obtain ⟨rfl, rfl⟩ := h.no ok
    exact turn_no ok
  | true =>
    by_cases hk : ∃ k, k < L.length ∧ kat L k = id
    · obtain ⟨k, hk, e⟩ := hk
      obtain ⟨rfl, rfl⟩ := h.yes ok k hk e
      unfold nxT chT
      by_cases hs : (rat L k).2.2 = st
      · rw [if_pos hs, decide_eq_true hs, turn_hit ok hk e hs]
        unfold kat at e
        rw [e]
      · rw [if_neg hs, decide_eq_false hs, turn_miss ok (fun j hj q => by
          obtain rfl := one_id ok hk hj (e.trans q.1.symm)
          exact hs q.2)]
        refine Prod.ext ?_ rfl
        refine ext_rat (by rw [List.length_set]) (fun j hj => ?_)
        rw [rat_set hk]
        split
        · rename_i q; rw [q]
        · rfl
    · obtain ⟨rfl, rfl⟩ := h.miss ok (fun k hk' e => hk ⟨k, hk', e⟩)
      exact turn_miss ok (fun j hj q => hk ⟨j, hj, q.1⟩)
theorem take_put {L : List Rw} {k : Nat} {x : Rw} : toB (L.take k ++ x :: L.drop k) = (toB L).take k ++ toE x :: (toB L).drop k := by
  rw [toB, List.map_append, List.map_cons, List.map_take, List.map_drop]
theorem At.below {L : List Rw} {id : Int} {k : Nat} {is : Bool} (h : At L id k is) : ∀ e ∈ (toB L).take k, e.key < id := by
  intro e he
  obtain ⟨j, hj, rfl⟩ := List.mem_iff_getElem.1 he
  rw [List.length_take, List.length_map] at hj
  rw [List.getElem_take, List.getElem_map]
  have := h.lo j (by omega)
  unfold kat at this
  rw [rat_at (by omega)] at this
  exact this
theorem At.above {L : List Rw} {id : Int} {k : Nat} (hr : Ris (toB L)) (h : At L id k false) : ∀ e ∈ (toB L).drop k, id < e.key := by
  intro e he
  obtain ⟨j, hj, rfl⟩ := List.mem_iff_getElem.1 he
  rw [List.length_drop, List.length_map] at hj
  rw [List.getElem_drop, List.getElem_map]
  have hne := h.none hr (k + j) (by omega)
  have hhi := h.hi (by omega)
  unfold kat at hne hhi
  rw [rat_at (by omega)] at hne hhi
  have hle : (L[k]).1 ≤ (L[k + j]).1 := by
    rcases Nat.eq_zero_or_pos j with q | q
    · subst q; exact Int.le_refl _
    · have r := hr
      unfold Ris at r
      rw [List.pairwise_iff_getElem] at r
      have := r k (k + j) (by rw [List.length_map]; omega) (by rw [List.length_map]; omega) (by omega)
      rw [List.getElem_map, List.getElem_map] at this
      exact Int.le_of_lt this
  show id < (L[k + j]).1
  omega
theorem back_put {L : List Rw} {id : Int} {k : Nat} (ok : okBk (toB L) = true) (h : At L id k false) (hid : 0 ≤ id ∧ id ≤ 7) : backB (toB L) id = (toB (L.take k ++ (id, 0, 0) :: L.drop k), true) := by
  have hr := Mk.ok_ris ok
  refine Mk.back_new ok hid (look_miss (fun j hj => h.none hr j hj)) ?_
  rw [take_put]
  have := Mk.join_ins (A := toB L) (B := []) (X := (toB L).take k) (Y := (toB L).drop k) (b := toE (id, 0, 0)) (by rw [List.take_append_drop]; exact Mk.join_start hr) rfl h.below (h.above hr)
  exact this
theorem back_ch {L M : List Rw} {id : Int} {b : Bool} (h : ChR L id revN revB M b) (hw : (∃ k, k < L.length ∧ kat L k = id) ∨ (¬ (0 ≤ id ∧ id ≤ 7) ∧ ∀ k, k < L.length → kat L k ≠ id)) : backB (toB L) id = (toB M, b) := by
  cases ok : okBk (toB L) with
  | false =>
    obtain ⟨rfl, rfl⟩ := h.no ok
    exact Mk.back_no ok
  | true =>
    rcases hw with ⟨k, hk, e⟩ | ⟨hn, hm⟩
    · have hok := Mk.ok_all ok (List.mem_map.2 ⟨_, rat_mem hk, rfl⟩ : toE (rat L k) ∈ toB L)
      have hid : 0 ≤ id ∧ id ≤ 7 := by
        have := Mk.okE_key hok
        unfold kat at e
        rw [← e]
        exact this
      obtain ⟨rfl, rfl⟩ := h.yes ok k hk e
      unfold revN revB
      by_cases ht : (rat L k).2.1 = 1000000
      · rw [if_pos ht, decide_eq_false (by simp [ht]), Mk.back_max ok hid (look_hit ok hk e) ht]
        refine Prod.ext ?_ rfl
        show toB L = toB _
        congr 1
        refine ext_rat (by rw [List.length_set]) (fun j hj => ?_)
        rw [rat_set hk]
        split
        · rename_i q; rw [q]
        · rfl
      · rw [if_neg ht, decide_eq_true ht, Mk.back_up ok hid (look_hit ok hk e) ht]
        refine Prod.ext ?_ rfl
        have e' : (rat L k).1 = id := e
        rw [e']
        exact (map_up ok hk e).symm
    · obtain ⟨rfl, rfl⟩ := h.miss ok hm
      exact Mk.back_out ok hn
theorem back_rows (L : List Rw) (id : Int) : ∃ J : List Rw, toB J = (backB (toB L) id).1 := by
  cases ok : okBk (toB L) with
  | false => exact ⟨[], by rw [Mk.back_no ok]; rfl⟩
  | true =>
    by_cases hid : 0 ≤ id ∧ id ≤ 7
    · by_cases hk : ∃ k, k < L.length ∧ kat L k = id
      · obtain ⟨k, hk, e⟩ := hk
        by_cases ht : (rat L k).2.1 = 1000000
        · exact ⟨L, by rw [Mk.back_max ok hid (look_hit ok hk e) ht]⟩
        · exact ⟨_, by rw [Mk.back_up ok hid (look_hit ok hk e) ht]; exact map_up ok hk e⟩
      · have hm : Mk.look (toB L) id = none := look_miss (fun j hj q => hk ⟨j, hj, q⟩)
        have o1 : okBk (toB [(id, 0, 0)]) = true := Mk.ok_mk (by simp) (fun e he => by
          simp only [toB, List.map_cons, List.map_nil, List.mem_singleton] at he
          subst he
          exact Mk.upE_ok (t := 0) hid ⟨by decide, by decide⟩) (List.pairwise_singleton _ _)
        obtain ⟨J, hJ⟩ := merged_rows L [(id, 0, 0)]
        have j := Mk.merge_is ok o1
        rw [← hJ] at j
        exact ⟨J, by rw [Mk.back_new ok hid hm j]⟩
    · exact ⟨L, by rw [Mk.back_out ok hid]⟩
theorem back_short (A : List Mk.En) (id : Int) : (backB A id).1.length ≤ 9 := by
  unfold backB
  split
  · rename_i ok
    have := Mk.ok_len ok
    split
    · split
      · split
        · simp only; omega
        · simp only [List.length_map]; omega
      · have := Mk.merge_length A [upE id 0]
        simp only [List.length_singleton] at this ⊢
        omega
    · simp only; omega
  · simp
end Go.Proofs.Ytkkbccppfppalaa.Mm
