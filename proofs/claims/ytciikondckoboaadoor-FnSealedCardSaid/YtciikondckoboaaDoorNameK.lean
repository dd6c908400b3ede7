/-
  The labels by the program's two iterators, forwards and from the end on; NameOk of the program.
-/
import Derived.Test.YtciikondckoboaaDoorNameJ
import Derived.RangeFuncNested
import Derived.RangeFuncBox
import Derived.RangeFuncBound
import Derived.RangeFuncCalls
import Derived.RangeFuncLeaves
import Derived.Shelf.Abstract
import Derived.Shelf.RegionOpen
import Derived.WalkKit
import Derived.OwnWalkIn
import Derived.TacticsInMore
import Derived.LoopNIn
import Derived.LoopIn
namespace Go.Proofs.YtciikondckoboaaDoor.Nm
open Go.ChangeShapes Go.WideShapes Go.ChangeAt Go.RowKit Go.Shelf
attribute [local go_sem] Oper.semAt_some
/-- A text of at most 60 bytes. -/
abbrev Tx := { x : ByteArray // x.size ≤ 60 }
abbrev txs (xs : List Tx) : List Bytes := xs.map (fun x => bs x.1)
theorem tx_of {l : List Bytes} (h : ∀ p ∈ l, p.length ≤ 60) : ∃ xs : List Tx, txs xs = l := by
  induction l with
  | nil => exact ⟨[], rfl⟩
  | cons p r ih =>
    obtain ⟨xs, e⟩ := ih (fun q hq => h q (by simp [hq]))
    exact ⟨⟨B p, by rw [B_size]; exact h p (by simp)⟩ :: xs, by simp [txs, ← e]⟩
theorem tx_labels (s : ByteArray) (h : s.size ≤ 60) : ∃ xs : List Tx, txs xs = labels (bs s) :=
  tx_of (fun p hp => by have := labels_short hp; rw [bs_length] at this; omega)
theorem empty_of {s : ByteArray} (h : bs s = []) : s = ByteArray.empty := bs_inj h
theorem not_empty {s : ByteArray} (h : s ≠ ByteArray.empty) : (s.toList == []) = false := by
  rw [Go.Lib.toList_data]
  exact beq_eq_false_iff_ne.2 (fun e => h (bs_inj e))
theorem filled {s : ByteArray} (h : s ≠ ByteArray.empty) : s.toList.isEmpty = false := by
  rw [Go.Lib.toList_data]
  exact List.isEmpty_eq_false_iff.2 (fun e => h (bs_inj e))
theorem tx_one {t : List Tx} {p : Bytes} (h : txs t = [p]) : ∃ x, t = [x] ∧ bs x.1 = p := by
  cases t with
  | nil => cases h
  | cons x r =>
    cases r with
    | nil => exact ⟨x, rfl, (List.cons.inj h).1⟩
    | cons y z => cases (List.cons.inj h).2
theorem tx_cons {t : List Tx} {p : Bytes} {l : List Bytes} (h : txs t = p :: l) : ∃ x r, t = x :: r ∧ bs x.1 = p ∧ txs r = l := by
  cases t with
  | nil => cases h
  | cons x r => exact ⟨x, r, rfl, (List.cons.inj h).1, (List.cons.inj h).2⟩
def lft (v m : Value) : Nat := match v, m with
  | .string s, .bool true => s.size + 1
  | _, _ => 0
end Go.Proofs.YtciikondckoboaaDoor.Nm
