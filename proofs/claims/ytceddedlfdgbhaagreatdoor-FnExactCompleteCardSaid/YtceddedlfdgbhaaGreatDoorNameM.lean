/-
  The labels from the end on by the program's iterator; Before of the program.
-/
import Derived.Test.YtceddedlfdgbhaaGreatDoorNameL
namespace Go.Proofs.YtceddedlfdgbhaaGreatDoor.Nm
open Go.ChangeShapes Go.WideShapes Go.ChangeAt Go.RowKit Go.Shelf
attribute [local go_sem] Oper.semAt_some
theorem last_labels {p q : Bytes} (hq : ∀ c ∈ q, c ≠ 46) (hne : ∀ x ∈ labels (p ++ 46 :: q), x ≠ []) : labels (p ++ 46 :: q) = labels p ++ [q] ∧ ∀ x ∈ labels p, x ≠ [] := by
  have e : labels (p ++ 46 :: q) = split p ++ [q] := by rw [labels_cons (by simp), split_join, split_whole hq]
  rw [e] at hne
  have hp : p ≠ [] := fun k => by
    subst k
    exact hne [] (by rw [split_nil]; simp) rfl
  rw [e, labels_cons hp]
  exact ⟨rfl, fun x hx => hne x (by simp [hx])⟩
theorem one_label {r : Bytes} (hd : ∀ c ∈ r, c ≠ 46) (h : r ≠ []) : labels r = [r] := by rw [labels_cons h, split_whole hd]
theorem ok_filled {l : Bytes} (h : okB l = true) : ∀ x ∈ labels l, x ≠ [] := by
  intro x hx e
  subst e
  have : okB l = false := ok_bad hx rfl
  rw [h] at this
  cases this
theorem ok_short {l : Bytes} (h : okB l = true) : l.length ≤ 60 := by
  rcases Nat.lt_or_ge 60 l.length with k | k
  · rw [okB_long k] at h; cases h
  · exact k
def lft1 (v : Value) : Nat := match v with
  | .string s => s.size
  | _ => 0
theorem befL_common (c x y : List Bytes) : befL (c ++ x) (c ++ y) = befL x y := by
  induction c with
  | nil => rfl
  | cons p c ih =>
    show (if p = p then befL (c ++ x) (c ++ y) else decide (p < p)) = befL x y
    rw [if_pos rfl]
    exact ih
theorem less_eq : ∀ x y : Bytes, Op.bytesLess x y = decide (x < y)
  | [], [] => by simp [Op.bytesLess]
  | _ :: _, [] => by simp [Op.bytesLess]
  | [], _ :: _ => by simp [Op.bytesLess]
  | a :: x, b :: y => by
    rw [Op.bytesLess, less_eq x y]
    simp only [List.cons_lt_cons_iff]
    by_cases h1 : a < b <;> by_cases h2 : a = b <;> by_cases h3 : x < y <;> simp [h1, h2, h3]
theorem less_of (a b : ByteArray) : Op.bytesLess a.toList b.toList = decide (bs a < bs b) := by rw [less_eq, Go.Lib.toList_data, Go.Lib.toList_data]
theorem box_kept {w w1 : World} {t : TypeId} {v : Value} (k : Below (w.alloc (.cells #[v] t)).heap.size (w.alloc (.cells #[v] t)) w1) :
    w1.cell? ⟨w.heap.size, 0, none⟩ = some v ∧ w1.frozen? ⟨w.heap.size, 0, none⟩ = false ∧ Below w.heap.size w w1 ∧ w.heap.size < w1.heap.size := by
  have b := Boxed.new w t v
  have hl : w.heap.size < (w.alloc (.cells #[v] t)).heap.size := by simp
  refine ⟨(k.cell (p := ⟨w.heap.size, 0, none⟩) hl).trans b.cell, (k.frozen (p := ⟨w.heap.size, 0, none⟩) hl).trans b.frozen, ?_, Nat.lt_of_lt_of_le hl k.size⟩
  exact ((Below.refl _ w).alloc (Nat.le_refl _) _).trans (k.mono (by simp))
theorem cell_below {w w1 : World} {b : Nat} {v : Value} (k : Below w.heap.size w w1) (h : w.cell? ⟨b, 0, none⟩ = some v) (f : w.frozen? ⟨b, 0, none⟩ = false) (hb : b < w.heap.size) :
    w1.cell? ⟨b, 0, none⟩ = some v ∧ w1.frozen? ⟨b, 0, none⟩ = false := ⟨(k.cell (p := ⟨b, 0, none⟩) hb).trans h, (k.frozen (p := ⟨b, 0, none⟩) hb).trans f⟩
end Go.Proofs.YtceddedlfdgbhaaGreatDoor.Nm
