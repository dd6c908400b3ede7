/-
  Members as rows; Stronger of the specification.
-/
import Derived.Test.YtllajhieocploaaMbP
import Derived.Test.YtllajhieocploaaMem2M
import Derived.Test.YtllajhieocploaaQuiet
import Derived.Handy
import Derived.Deep.RegionHeld3
namespace Go.Proofs.Ytllajhieocploaa.Mm
open Go.ChangeShapes Go.WideShapes Go.ChangeAt Go.RowKit
open Go.Proofs.Ytllajhieocploaa.Rc (BelowBy BelowBy.one wp_region_below calls_below calls_same)
open Go.Proofs.Ytllajhieocploaa.Mk (okE newB okBk look Ris)
set_option linter.unusedVariables false
def toE (x : Rw) : Mk.En := ⟨x.1, [], x.2.1, x.2.2, false⟩
theorem toE_inj {x y : Rw} (h : toE x = toE y) : x = y := by
  obtain ⟨a, b, c⟩ := x
  obtain ⟨a', b', c'⟩ := y
  simp only [toE, Mk.En.mk.injEq] at h
  obtain ⟨rfl, _, rfl, rfl, _⟩ := h
  rfl
abbrev toB (L : List Rw) : List Mk.En := L.map toE
theorem toB_inj {L M : List Rw} (h : toB L = toB M) : L = M := by
  induction L generalizing M with
  | nil => cases M with
    | nil => rfl
    | cons y M => cases h
  | cons x L ih => cases M with
    | nil => cases h
    | cons y M =>
      simp only [toB, List.map_cons, List.cons.injEq] at h
      rw [toE_inj h.1, ih h.2]
abbrev kat (L : List Rw) (i : Nat) : Int := (rat L i).1
theorem new_str (x y : Rw) : newB (toE x) (toE y) = (decide (y.2.1 < x.2.1) || (decide (x.2.1 = y.2.1) && decide (y.2.2 < x.2.2))) := by
  obtain ⟨a, b, c⟩ := x
  obtain ⟨a', b', c'⟩ := y
  unfold newB toE
  simp only
  by_cases h : b = b'
  · subst h
    rw [if_neg (by simp)]
    by_cases k : c = c'
    · subst k; simp
    · rw [if_pos k]; simp
  · rw [if_pos h]
    simp [h]
theorem ris_of {L : List Rw} (h : ∀ i, i + 1 < L.length → kat L i < kat L (i + 1)) : Ris (toB L) := by
  unfold Ris
  rw [List.pairwise_iff_getElem]
  have far : ∀ d i, i + d + 1 < L.length → kat L i < kat L (i + d + 1) := by
    intro d
    induction d with
    | zero => intro i hi; exact h i hi
    | succ d ih => intro i hi; exact Int.lt_trans (ih i (by omega)) (h (i + d + 1) hi)
  intro i j hi hj hij
  rw [List.length_map] at hi hj
  have := far (j - i - 1) i (by omega)
  rw [show i + (j - i - 1) + 1 = j by omega] at this
  unfold kat at this
  rw [rat_at hi, rat_at hj] at this
  rw [List.getElem_map, List.getElem_map]
  exact this
theorem ris_to {L : List Rw} (h : Ris (toB L)) (i : Nat) (hi : i + 1 < L.length) : kat L i < kat L (i + 1) := by
  unfold Ris at h
  rw [List.pairwise_iff_getElem] at h
  have := h i (i + 1) (by rw [List.length_map]; omega) (by rw [List.length_map]; exact hi) (by omega)
  rw [List.getElem_map, List.getElem_map] at this
  unfold kat
  rw [rat_at (by omega), rat_at hi]
  exact this
theorem book_yes {L : List Rw} (h1 : L.length ≤ 8) (h2 : ∀ i, i < L.length → okE (toE (rat L i)) = true) (h3 : ∀ i, i + 1 < L.length → kat L i < kat L (i + 1)) : okBk (toB L) = true := by
  refine Mk.ok_mk (by rw [List.length_map]; exact h1) (fun e he => ?_) (ris_of h3)
  obtain ⟨x, hx, rfl⟩ := List.mem_map.1 he
  obtain ⟨i, hi, rfl⟩ := List.mem_iff_getElem.1 hx
  have := h2 i hi
  rwa [rat_at hi] at this
theorem book_no1 {L : List Rw} (h : ¬ L.length ≤ 8) : okBk (toB L) = false := by
  cases e : okBk (toB L) with
  | false => rfl
  | true => exact absurd (by have := Mk.ok_len e; rwa [List.length_map] at this) h
theorem book_no2 {L : List Rw} {i : Nat} (hi : i < L.length) (h : okE (toE (rat L i)) = false) : okBk (toB L) = false := by
  cases e : okBk (toB L) with
  | false => rfl
  | true =>
    have := Mk.ok_all e (List.mem_map.2 ⟨_, rat_mem hi, rfl⟩)
    rw [h] at this
    cases this
theorem book_no3 {L : List Rw} {i : Nat} (hi : i + 1 < L.length) (h : ¬ kat L i < kat L (i + 1)) : okBk (toB L) = false := by
  cases e : okBk (toB L) with
  | false => rfl
  | true => exact absurd (ris_to (Mk.ok_ris e) i hi) h
set_option maxRecDepth 100000 in
set_option maxHeartbeats 4000000 in
theorem spec_Stronger (x y : Rw) (w : World) : Calls Try.prog 93 #[rv x, rv y] w fun e w' => e = .returned (.bool (newB (toE x) (toE y))) ∧ Below w.heap.size w w' := by
  rw [new_str]
  obtain ⟨a, b, c⟩ := x
  obtain ⟨a', b', c'⟩ := y
  simp only
  by_cases h1 : b' < b
  · rw [decide_eq_true h1, Bool.true_or]
    go_enter Try.func93, Try.ntmps93
    go_wp2
    go_ret
    exact ⟨rfl, by go_grown⟩
  · rw [decide_eq_false h1, Bool.false_or]
    by_cases h2 : b = b'
    · subst h2
      have e2 : (b == b) = true := by simp
      rw [decide_eq_true rfl, Bool.true_and]
      go_enter Try.func93, Try.ntmps93
      go_wp2
      go_ret
      exact ⟨rfl, by go_grown⟩
    · have e2 : (b == b') = false := by simpa using h2
      rw [decide_eq_false h2, Bool.false_and]
      go_enter Try.func93, Try.ntmps93
      go_wp2
      go_ret
      exact ⟨rfl, by go_grown⟩
end Go.Proofs.Ytllajhieocploaa.Mm
