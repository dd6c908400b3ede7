/-
  Merged of the specification; what two lists of Members come to.
-/
import Derived.Test.YtllajhieocploaaMbJ
import Derived.Test.YtllajhieocploaaMbT
namespace Go.Proofs.Ytllajhieocploaa.Mk
set_option linter.unusedVariables false
theorem ris_short : ∀ (L : List En) (lo : Int), Ris L → (∀ e ∈ L, lo ≤ e.key ∧ e.key ≤ 7) → L.length ≤ (8 - lo).toNat
  | [], lo, _, _ => by simp
  | a :: L, lo, h, k => by
    obtain ⟨h1, h2⟩ := ris_cons.1 h
    have ha := k a (List.mem_cons_self ..)
    have := ris_short L (a.key + 1) h2 (fun e he => ⟨by have := h1 e he; omega, (k e (List.mem_cons_of_mem _ he)).2⟩)
    simp only [List.length_cons]
    omega
theorem okE_key {e : En} (h : okE e = true) : 0 ≤ e.key ∧ e.key ≤ 7 := by
  unfold okE at h
  simp only [Bool.and_eq_true, decide_eq_true_eq] at h
  exact ⟨h.1.1.1.1.1, h.1.1.1.1.2⟩
/-- What Merged answers. -/
def mergeB (A B : List En) : List En := if okBk A = true ∧ okBk B = true then mergeE A B else []
theorem merge_no {A B : List En} (h : ¬ (okBk A = true ∧ okBk B = true)) : mergeB A B = [] := if_neg h
theorem merge_of {A B J : List En} (hA : okBk A = true) (hB : okBk B = true) (h : IsJoin A B J) : mergeB A B = J := by
  unfold mergeB
  rw [if_pos ⟨hA, hB⟩]
  exact (merge_join A B (ok_ris hA) (ok_ris hB)).unique h
theorem merge_is {A B : List En} (hA : okBk A = true) (hB : okBk B = true) : IsJoin A B (mergeB A B) := by
  unfold mergeB
  rw [if_pos ⟨hA, hB⟩]
  exact merge_join A B (ok_ris hA) (ok_ris hB)
/-- What is merged is right. -/
theorem merge_ok {A B J : List En} (hA : okBk A = true) (hB : okBk B = true) (h : IsJoin A B J) : okBk J = true := by
  have hall : ∀ e ∈ J, okE e = true := fun e he => by
    rcases h.mem he with q | q
    · exact ok_all hA q
    · exact ok_all hB q
  exact ok_mk (ris_short J 0 h.ris (fun e he => okE_key (hall e he))) hall h.ris
theorem mergeB_ok (A B : List En) : okBk (mergeB A B) = true := by
  by_cases h : okBk A = true ∧ okBk B = true
  · exact merge_ok h.1 h.2 (merge_is h.1 h.2)
  · rw [merge_no h]; rfl
end Go.Proofs.Ytllajhieocploaa.Mk
namespace Go.Proofs.Ytllajhieocploaa.Mm
open Go.ChangeShapes Go.WideShapes Go.ChangeAt Go.RowKit
open Go.Proofs.Ytllajhieocploaa.Mk (okE newB okBk look Ris IsJoin mergeB)
set_option linter.unusedVariables false
theorem merged_rows (A B : List Rw) : ∃ J : List Rw, toB J = mergeB (toB A) (toB B) := by
  by_cases h : okBk (toB A) = true ∧ okBk (toB B) = true
  · have j := Mk.merge_is h.1 h.2
    have all : ∀ M : List Mk.En, (∀ e ∈ M, e ∈ mergeB (toB A) (toB B)) → ∃ J : List Rw, toB J = M := by
      intro M
      induction M with
      | nil => intro _; exact ⟨[], rfl⟩
      | cons e M ih =>
        intro hM
        obtain ⟨J, hJ⟩ := ih (fun x hx => hM x (List.mem_cons_of_mem _ hx))
        obtain ⟨x, hx⟩ : ∃ x : Rw, toE x = e := by
          rcases j.mem (hM e (List.mem_cons_self ..)) with q | q
          · obtain ⟨x, _, hx⟩ := List.mem_map.1 q; exact ⟨x, hx⟩
          · obtain ⟨x, _, hx⟩ := List.mem_map.1 q; exact ⟨x, hx⟩
        exact ⟨x :: J, by rw [← hJ, ← hx]; rfl⟩
    exact all _ (fun e he => he)
  · exact ⟨[], by rw [Mk.merge_no h]; rfl⟩
end Go.Proofs.Ytllajhieocploaa.Mm
