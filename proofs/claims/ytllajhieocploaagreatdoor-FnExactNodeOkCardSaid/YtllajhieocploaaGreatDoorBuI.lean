/-
  slices.Insert at Buckets: one put in at a place, in a row of the call's own: at the end, with room, without. (Written by wip/mkins.py.)
-/
import Derived.Test.YtllajhieocploaaGreatDoorBucM
import Derived.Shelf.Spec.SlicesInsert
import Derived.Lib.AppendZerosOnto
import Derived.Laws.CopyRow
import Derived.Deep.RegionLaw
namespace Go.Proofs.YtllajhieocploaaGreatDoor.Bu
open Go.ChangeShapes Go.WideShapes Go.ChangeAt Go.RowKit
set_option linter.unusedVariables false
/-- A piece of a row written over. -/
def over (l : List Value) (o : Nat) (cs : List Value) : List Value := l.take o ++ cs ++ l.drop (o + cs.length)
theorem over_length (l cs : List Value) (o : Nat) (h : o + cs.length ≤ l.length) : (over l o cs).length = l.length := by
  unfold over
  simp
  omega
theorem over_get (l cs : List Value) (o : Nat) (h : o + cs.length ≤ l.length) (j : Nat) : (over l o cs)[j]? = if o ≤ j ∧ j < o + cs.length then cs[j - o]? else l[j]? := by
  unfold over
  by_cases h1 : j < o
  · rw [if_neg (by omega), List.append_assoc, List.getElem?_append_left (by simp; omega), List.getElem?_take, if_pos h1]
  · by_cases h2 : j < o + cs.length
    · rw [if_pos ⟨by omega, h2⟩, List.append_assoc, List.getElem?_append_right (by simp; omega), List.length_take, Nat.min_eq_left (by omega), List.getElem?_append_left (by omega)]
    · rw [if_neg (by omega), List.getElem?_append_right (by simp; omega), List.getElem?_drop]
      congr 1
      simp
      omega
/-- What copy does to a row of the call's own, the elements 3 cells each. -/
theorem run_copy_rows {w : World} {g : Nat} {cur : Array Value} (hg : w.heap[g]? = some (.cells cur 103 (0, 0))) (ty : TypeId) (o dl dc : Nat) (x : Addr) (sl sc n : Nat) (cs : List Value) (hn : sl.min dl = n) (hlen : cs.length = n * 3)
    (hsrc : ∀ j u, cs[j]? = some u → w.cell? (x.add j) = some u) (h1 : ∀ u ∈ cs, u.oneCell' = true) (hfit : o + n * 3 ≤ cur.size) :
    (Builtin.copy_ #[39, 39] ty #[.slice (some ⟨g, o, none⟩) dl dc, .slice (some x) sl sc]).run Tryz.prog w = .ok (goInt n) (w.setRow g (over cur.toList o cs).toArray) := by
  obtain ⟨i0, hi, hz0, hz1, hz2⟩ := info_parts infoRw
  have hl := run_firstCells_some (P := Tryz.prog) w 3 n x sl sc cs hlen hsrc
  have hst := run_storeCells_at Tryz.prog g o 103 cs 0 cur w hg (by rw [hlen]; omega) h1
  simp only [Nat.add_zero] at hst
  simp [Builtin.copy_, run_underlying Tryz.underlying39, Builtin.lenOf, sizeOf, typeInfo, hi, hz1, hn, hl, hst, over]
theorem take_eq_of {l m : List Value} {n : Nat} (hm : m.length = n) (h : ∀ j, j < n → l[j]? = m[j]?) : l.take n = m := by
  apply List.ext_getElem?
  intro j
  rw [List.getElem?_take]
  by_cases hj : j < n
  · rw [if_pos hj, h j hj]
  · rw [if_neg hj, List.getElem?_eq_none (by omega)]
/-- The row with one more at place i. -/
theorem ins_row {l : List Value} {M : List Rw} {i : Nat} {x : Rw} (hi : i ≤ M.length) (h1 : ∀ j, j < i * 3 → l[j]? = (rcells M)[j]?) (h2 : ∀ j, j < 3 → l[i * 3 + j]? = (rcells [x])[j]?) (h3 : ∀ j, j < (M.length - i) * 3 → l[(i + 1) * 3 + j]? = (rcells M)[i * 3 + j]?) :
    l.take ((M.length + 1) * 3) = rcells (M.take i ++ x :: M.drop i) := by
  refine take_eq_of (by rw [rcells_length]; simp; omega) (fun j hj => ?_)
  rw [rcells_append, show x :: M.drop i = [x] ++ M.drop i from rfl, rcells_append]
  by_cases c1 : j < i * 3
  · rw [h1 j c1, List.getElem?_append_left (by rw [rcells_length, List.length_take]; omega), rcells_take M i hi, List.getElem?_take, if_pos c1]
  · rw [List.getElem?_append_right (by rw [rcells_length, List.length_take]; omega), rcells_length, List.length_take, Nat.min_eq_left hi]
    by_cases c2 : j < i * 3 + 3
    · have := h2 (j - i * 3) (by omega)
      rw [show i * 3 + (j - i * 3) = j by omega] at this
      rw [this, List.getElem?_append_left (by rw [rcells_length]; simp; omega)]
    · have := h3 (j - i * 3 - 3) (by omega)
      rw [show (i + 1) * 3 + (j - i * 3 - 3) = j by omega] at this
      rw [this, List.getElem?_append_right (by rw [rcells_length]; simp; omega), rcells_length, rcells_drop M i hi, List.getElem?_drop]
      congr 1
end Go.Proofs.YtllajhieocploaaGreatDoor.Bu
