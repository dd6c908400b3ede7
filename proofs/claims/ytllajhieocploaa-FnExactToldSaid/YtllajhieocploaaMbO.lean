/-
  changed of the program: one Member becomes what the table says.
-/
import Derived.Test.YtllajhieocploaaMbL
import Derived.Test.YtllajhieocploaaMbB
namespace Go.Proofs.Ytllajhieocploaa.Mm
open Go.ChangeShapes Go.WideShapes Go.ChangeAt Go.RowKit
open Go.Proofs.Ytllajhieocploaa.Rc (BelowBy BelowBy.one wp_region_below calls_below calls_same)
open Go.Proofs.Ytllajhieocploaa.Mk (okE newB okBk look Ris IsJoin mergeB backB upE)
set_option linter.unusedVariables false
/-- What becomes of a list where one of an Id becomes nx, if ch says so. -/
structure ChR (L : List Rw) (id : Int) (nx : Rw → Rw) (ch : Rw → Bool) (M : List Rw) (b : Bool) : Prop where
  no : okBk (toB L) = false → M = [] ∧ b = false
  yes : okBk (toB L) = true → ∀ k, k < L.length → kat L k = id → M = L.set k (nx (rat L k)) ∧ b = ch (rat L k)
  miss : okBk (toB L) = true → (∀ k, k < L.length → kat L k ≠ id) → M = L ∧ b = false
theorem ChR.mkNo {L : List Rw} {id : Int} {nx : Rw → Rw} {ch : Rw → Bool} (ok : okBk (toB L) = false) : ChR L id nx ch [] false where
  no := fun _ => ⟨rfl, rfl⟩
  yes := fun e => by rw [ok] at e; cases e
  miss := fun e => by rw [ok] at e; cases e
theorem ChR.mkMiss {L : List Rw} {id : Int} {nx : Rw → Rw} {ch : Rw → Bool} (ok : okBk (toB L) = true) (hn : ∀ k, k < L.length → kat L k ≠ id) : ChR L id nx ch L false where
  no := fun e => by rw [ok] at e; cases e
  yes := fun _ k hk e => absurd e (hn k hk)
  miss := fun _ _ => ⟨rfl, rfl⟩
theorem ChR.mkYes {L : List Rw} {id : Int} {nx : Rw → Rw} {ch : Rw → Bool} (ok : okBk (toB L) = true) (k : Nat) (hk : k < L.length) (e : kat L k = id) : ChR L id nx ch (L.set k (nx (rat L k))) (ch (rat L k)) where
  no := fun e => by rw [ok] at e; cases e
  yes := fun o k' hk' e' => by
    obtain rfl := one_id o hk hk' (e.trans e'.symm)
    exact ⟨rfl, rfl⟩
  miss := fun _ hn => absurd e (hn k hk)
def ChP (L : List Rw) (id : Int) (nx : Rw → Rw) (ch : Rw → Bool) (w : World) (e : Ending) (w' : World) : Prop := ∃ v M b, e = .returned (.tuple #[v, .bool b]) ∧ ChR L id nx ch M b ∧ Own w' w.heap.size v M ∧ Below w.heap.size w w'
theorem ChP.of {L : List Rw} {id : Int} {nx : Rw → Rw} {ch : Rw → Bool} {w w' : World} {e : Ending} {v : Value} {M : List Rw} {b : Bool} (h : e = .returned (.tuple #[v, .bool b])) (h1 : ChR L id nx ch M b) (h2 : Own w' w.heap.size v M) (h3 : Below w.heap.size w w') : ChP L id nx ch w e w' := ⟨v, M, b, h, h1, h2, h3⟩
theorem ChP.out {L : List Rw} {id : Int} {nx : Rw → Rw} {ch : Rw → Bool} {w w' : World} {e : Ending} (h : ChP L id nx ch w e w') : ∃ v M b, e = .returned (.tuple #[v, .bool b]) ∧ ChR L id nx ch M b ∧ Own w' w.heap.size v M ∧ Below w.heap.size w w' := h
theorem At.none {L : List Rw} {id : Int} {k : Nat} (hr : Ris (toB L)) (h : At L id k false) : ∀ j, j < L.length → kat L j ≠ id := by
  intro j hj
  rcases Nat.lt_trichotomy j k with q | q | q
  · have := h.lo j q; omega
  · subst q; exact h.no rfl hj
  · have h1 := h.hi (by omega)
    have r := hr
    unfold Ris at r
    rw [List.pairwise_iff_getElem] at r
    have := r k j (by rw [List.length_map]; omega) (by rw [List.length_map]; exact hj) q
    rw [List.getElem_map, List.getElem_map] at this
    simp only [toE] at this
    unfold kat at h1 ⊢
    rw [rat_at (by omega)] at h1
    rw [rat_at hj]
    omega
end Go.Proofs.Ytllajhieocploaa.Mm
