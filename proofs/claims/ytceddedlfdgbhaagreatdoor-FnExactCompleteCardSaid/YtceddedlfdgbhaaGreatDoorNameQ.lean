/-
  The laws' own helpers on lists of texts: eqStringS, markText, markStringS, heldStringS.
-/
import Derived.Test.YtceddedlfdgbhaaGreatDoorNameR
import Derived.Test.YtceddedlfdgbhaaGreatDoorNameJ
import Derived.Deep.RegionHeld3
import Derived.Deep.QuietTactic
import Derived.BigQuiet
import Derived.Laws.BytesArg
import Derived.Laws.IdiomStrings
import Derived.WalkLawsBesides
namespace Go.Proofs.YtceddedlfdgbhaaGreatDoor.Nm
open Go.ChangeShapes Go.WideShapes Go.ChangeAt Go.RowKit
set_option linter.unusedVariables false
/-- The digits of a number ahead of some bytes. -/
def digs : Nat → Nat → Bytes → Bytes
  | 0, _, l => l
  | f + 1, k, l => if k = 0 then l else digs f (k / 10) (UInt8.ofNat (48 + k % 10) :: l)
theorem digs_zero (f : Nat) (l : Bytes) : digs f 0 l = l := by cases f <;> rfl
theorem digs_step {f k : Nat} (hk : 0 < k) (hf : k ≤ f) (l : Bytes) : ∃ g, k / 10 ≤ g ∧ digs f k l = digs g (k / 10) (UInt8.ofNat (48 + k % 10) :: l) := by
  cases f with
  | zero => omega
  | succ g => exact ⟨g, by omega, by show (if k = 0 then l else _) = _; rw [if_neg (by omega)]⟩
/-- The mark of a number: m and its digits. -/
def mt (k : Nat) : ByteArray := ⟨#[109]⟩ ++ B (digs k k [])
/-- The marks of n texts from number k on. -/
def markL (k n : Nat) : List ByteArray := (List.range n).map fun j => mt (k + j)
theorem markL_length (k n : Nat) : (markL k n).length = n := by simp [markL]
theorem sat_markL (k n j : Nat) (h : j < n) : sat (markL k n) j = mt (k + j) := by
  rw [sat_at (by rw [markL_length]; exact h)]
  simp [markL]
theorem ext_sat {L M : List ByteArray} (hl : L.length = M.length) (h : ∀ i, i < L.length → sat L i = sat M i) : L = M := by
  apply List.ext_getElem hl
  intro i h1 h2
  have := h i h1
  rwa [sat_at h1, sat_at h2] at this
theorem sat_set {L : List ByteArray} {i j : Nat} {x : ByteArray} (h : i < L.length) : sat (L.set i x) j = if i = j then x else sat L j := by
  unfold sat
  rw [List.getD_eq_getElem?_getD, List.getD_eq_getElem?_getD, List.getElem?_set]
  by_cases e : i = j
  · subst e; simp [h]
  · simp [e]
theorem Rd.none_nil {w : World} {L : List ByteArray} (h : Rd w none L) : L = [] := by
  cases L with
  | nil => rfl
  | cons x r =>
    obtain ⟨b, o, e, _⟩ := h.cell 0 (by simp)
    cases e
/-- The block that a slice owns; of none, one that is not there. -/
def ob (w : World) (v : Value) : Nat := v.ownBlock.getD w.heap.size
theorem held1_drew {W wA : World} {b x : Nat} {a0 : Value} (k : Below W.drew.heap.size W.drew wA) (h : W.cell? ⟨b, x, none⟩ = some a0) : wA.cell? ⟨b, x, none⟩ = some a0 := by
  rw [k.cell (p := ⟨b, x, none⟩) (cell_block (w := W) h)]
  exact h
/-- What lies below a row that is written, or above it, stays. -/
theorem Own.lo {w w' : World} {b b' : Nat} {u v : Value} {M L : List ByteArray} (hu : Own w b u M) (hv : Own w b' v L) (Y : Only (ob w v) w w') (hlt : ∀ g, u.ownBlock = some g → g < b') : Own w' b u M := by
  refine hu.only Y (.inr fun g hg => ?_)
  have h1 := hlt g hg
  have h2 := (World.ownsRow.lt hu g hg).2
  unfold ob
  cases hvb : v.ownBlock with
  | none => simp; omega
  | some x => have := (World.ownsRow.lt hv x hvb).1; simp; omega
theorem Own.blk {w : World} {b : Nat} {v : Value} {L : List ByteArray} (hv : Own w b v L) {X : Nat} (hX : w.heap.size ≤ X) : ∀ g, v.ownBlock = some g → g < X := fun g hg => by
  have := (World.ownsRow.lt hv g hg).2; omega
theorem ob_below {W w w' : World} {b B : Nat} {v : Value} {L : List ByteArray} (k : Below B W w) (hv : Own w b v L) (Y : Only (ob w v) w w') (hb : B ≤ b) (hs : B ≤ w.heap.size) : Below B W w' := by
  refine k.trans (Y.below ?_ hs)
  unfold ob
  cases hvb : v.ownBlock with
  | none => simpa using hs
  | some x => have := (World.ownsRow.lt hv x hvb).1; simp; omega
end Go.Proofs.YtceddedlfdgbhaaGreatDoor.Nm
