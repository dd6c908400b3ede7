/-
  l11Join of the specification: what two books come to, one Entry after the other.
-/
import Derived.Test.YtllajhieocploaaGreatDoorBokQ
import Derived.Laws.AppendOwnNone
import Derived.Deep.RegionWith
import Derived.Deep.RegionHeld3
import Derived.Deep.Cut
import Derived.Deep.CutRange
namespace Go.Proofs.YtllajhieocploaaGreatDoor.En
open Go.ChangeShapes Go.WideShapes Go.ChangeAt Go.RowKit
open Go.Proofs.YtllajhieocploaaGreatDoor.Rc (BelowBy BelowBy.one wp_region_below calls_below calls_same)
open Go.Proofs.YtllajhieocploaaGreatDoor.Bk (Bytes okE newB okBk look Ris IsJoin)
set_option linter.unusedVariables false
attribute [local go_sem] str_gtr str_leq
/-- The five cells of an Entry from place o of block b on. -/
abbrev five (w : World) (b o : Nat) (s u : ByteArray) (q m : Int) (f : Bool) : Prop := w.cell? ⟨b, o, none⟩ = some (.string s) ∧ w.cell? ⟨b, o + 1, none⟩ = some (.string u) ∧ w.cell? ⟨b, o + 2, none⟩ = some (.int .i64 q) ∧ w.cell? ⟨b, o + 3, none⟩ = some (.int .i64 m) ∧ w.cell? ⟨b, o + 4, none⟩ = some (.bool f)
theorem five_kept {W w' : World} {b o : Nat} {s u : ByteArray} {q m : Int} {f : Bool} (k : Below W.heap.size W w') (h : five W b o s u q m f) : five w' b o s u q m f := by
  obtain ⟨h0, h1, h2, h3, h4⟩ := h
  exact ⟨by rw [k.cell (by simpa using cell_block h0)]; exact h0, by rw [k.cell (by simpa using cell_block h1)]; exact h1, by rw [k.cell (by simpa using cell_block h2)]; exact h2, by rw [k.cell (by simpa using cell_block h3)]; exact h3, by rw [k.cell (by simpa using cell_block h4)]; exact h4⟩
theorem five_rd {w : World} {b : Nat} {s u : ByteArray} {q m : Int} {f : Bool} (h : five w b 0 s u q m f) : Rd w (some ⟨b, 0, none⟩) [(s, u, q, m, f)] :=
  ⟨fun i hi => by
    have hi0 : i = 0 := by simp at hi; omega
    subst hi0
    refine ⟨b, 0, rfl, fun j hj => ?_⟩
    obtain ⟨h0, h1, h2, h3, h4⟩ := h
    match j, hj with
    | 0, _ => exact h0
    | 1, _ => exact h1
    | 2, _ => exact h2
    | 3, _ => exact h3
    | 4, _ => exact h4⟩
theorem five_grown {w w' : World} {r : Option Nat} {b o : Nat} {s u : ByteArray} {q m : Int} {f : Bool} (k : w.grownBy w' r) (h : five w b o s u q m f) (hr : some b ≠ r) : five w' b o s u q m f :=
  ⟨grown_cell1 k h.1 hr, grown_cell1 k h.2.1 hr, grown_cell1 k h.2.2.1 hr, grown_cell1 k h.2.2.2.1 hr, grown_cell1 k h.2.2.2.2 hr⟩
end Go.Proofs.YtllajhieocploaaGreatDoor.En
