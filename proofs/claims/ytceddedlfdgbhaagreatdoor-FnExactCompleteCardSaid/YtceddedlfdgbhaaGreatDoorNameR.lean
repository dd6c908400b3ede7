/-
  A list of texts as it lies in memory: one cell a text; a row of the call's own.
-/
import Derived.Test.YtceddedlfdgbhaaGreatDoorNameP
import Derived.Laws.OwnMore
import Derived.Deep.OwnRows
import Derived.OwnWalk
import Derived.Laws.AppendOwn
import Derived.Lib.SmallJoins
namespace Go.Proofs.YtceddedlfdgbhaaGreatDoor.Nm
open Go.ChangeShapes Go.WideShapes Go.ChangeAt Go.RowKit
def sat (L : List ByteArray) (i : Nat) : ByteArray := L.getD i ByteArray.empty
theorem sat_at {L : List ByteArray} {i : Nat} (h : i < L.length) : sat L i = L[i] := by
  unfold sat
  rw [List.getD_eq_getElem?_getD, List.getElem?_eq_getElem h]
  rfl
abbrev scells (L : List ByteArray) : List Value := L.map Value.string
theorem scells_at {L : List ByteArray} {i : Nat} (h : i < L.length) : (scells L)[i]? = some (.string (sat L i)) := by
  rw [sat_at h, List.getElem?_map, List.getElem?_eq_getElem h]
  rfl
theorem scells_one (L : List ByteArray) : ∀ u ∈ scells L, u.oneCell' = true := by
  intro u hu
  obtain ⟨s, _, rfl⟩ := List.mem_map.1 hu
  rfl
/-- A slice at address a reads as the list L. -/
structure Rd (w : World) (a : Option Addr) (L : List ByteArray) : Prop where
  cell : ∀ i, i < L.length → ∃ b off, a = some ⟨b, off, none⟩ ∧ w.cell? ⟨b, off + i, none⟩ = some (.string (sat L i))
theorem cell_block {w : World} {b o : Nat} {v : Value} (h : w.cell? ⟨b, o, none⟩ = some v) : b < w.heap.size := World.block_lt_of_cell? w ⟨b, o, none⟩ h
theorem Rd.kept {w w' : World} {a : Option Addr} {L : List ByteArray} (h : Rd w a L) (k : Below w.heap.size w w') : Rd w' a L :=
  ⟨fun i hi => by
    obtain ⟨b, off, e, c0⟩ := h.cell i hi
    exact ⟨b, off, e, by rw [k.cell (by simpa using cell_block c0)]; exact c0⟩⟩
theorem Rd.alloc {w : World} {a : Option Addr} {L : List ByteArray} (h : Rd w a L) (o : Obj) : Rd (w.alloc o) a L := h.kept ((Below.refl _ _).alloc (Nat.le_refl _) o)
theorem Rd.drew {w : World} {a : Option Addr} {L : List ByteArray} (h : Rd w a L) : Rd w.drew a L := ⟨h.cell⟩
theorem Rd.nil (w : World) (a : Option Addr) : Rd w a [] := ⟨fun i hi => by simp at hi⟩
/-- The slice v owns the texts L in a row of the call's own. -/
def Own (w : World) (base : Nat) (v : Value) (L : List ByteArray) : Prop := w.ownsRow base 9 1 v L.length (scells L)
theorem Own.form {w : World} {base : Nat} {v : Value} {L : List ByteArray} (h : Own w base v L) : ∃ a cap, v = .slice a L.length cap ∧ L.length ≤ cap ∧ cap ≤ maxLen ∧ Rd w a L ∧ (a = none → cap = 0) ∧ (∀ x, a = some x → ∃ g, x = ⟨g, 0, none⟩ ∧ base ≤ g ∧ g < w.heap.size) := by
  have h' := h
  rcases h.2 with ⟨rfl, h0⟩ | ⟨g, cap, cur, rfl, hb, hg, hn, hm, rest⟩
  · exact ⟨none, 0, by rw [h0], by omega, by decide, ⟨fun i hi => by omega⟩, fun _ => rfl, fun x hx => by cases hx⟩
  · refine ⟨some ⟨g, 0, none⟩, cap, rfl, hn, hm, ⟨fun i hi => ⟨g, 0, rfl, ?_⟩⟩, (fun e => by cases e), fun x hx => ⟨g, by cases hx; rfl, hb, (Array.getElem?_eq_some_iff.1 hg).1⟩⟩
    rw [Nat.zero_add, World.ownsRow.cellAt h' _ (by omega), scells_at hi]
theorem Own.kept {w w' : World} {base : Nat} {v : Value} {L : List ByteArray} (h : Own w base v L) (k : Below w.heap.size w w') : Own w' base v L :=
  World.ownsRow.kept (row := none) h ⟨k.os, k.tape, k.output, k.size, fun i hi _ => k.block i hi⟩ (by cases v.ownBlock <;> simp)
theorem Own.alloc {w : World} {base : Nat} {v : Value} {L : List ByteArray} (h : Own w base v L) (o : Obj) : Own (w.alloc o) base v L := World.ownsRow.alloc h o
theorem Own.drewN {w : World} {base : Nat} {v : Value} {L : List ByteArray} (h : Own w base v L) (n : Nat) : Own (w.drewN n) base v L := h.kept ⟨rfl, rfl, rfl, Nat.le_refl _, fun _ _ => rfl⟩
theorem Own.only {w w' : World} {base c : Nat} {v : Value} {L : List ByteArray} (h : Own w base v L) (k : Only c w w') (hc : c < base ∨ ∀ g, v.ownBlock = some g → g ≠ c) : Own w' base v L := by
  refine World.ownsRow.kept h (row := some c) ⟨k.os, k.tape, k.output, k.size, fun i hi hne => k.block i hi (fun e => hne (by rw [e]))⟩ ?_
  cases hv : v.ownBlock with
  | none => exact .inl rfl
  | some g =>
    refine .inr (fun e => ?_)
    cases e
    rcases hc with hc | hc
    · have := (World.ownsRow.lt h _ hv).1; omega
    · exact hc _ hv rfl
theorem Own.mono {w : World} {base b' : Nat} {v : Value} {L : List ByteArray} (h : Own w base v L) (hb : b' ≤ base) : Own w b' v L := by
  refine ⟨h.1, ?_⟩
  rcases h.2 with h0 | ⟨g, cap, cur, e, hb', r⟩
  · exact .inl h0
  · exact .inr ⟨g, cap, cur, e, by omega, r⟩
theorem Own.new (w : World) : Own (w.alloc (.cells #[] 9)) w.heap.size (.slice (some ⟨w.heap.size, 0, none⟩) 0 0) [] :=
  World.ownsRow_made w #[] 0 (Nat.le_refl _) (by decide) rfl
theorem Own.more {w : World} {base : Nat} {v : Value} {L : List ByteArray} {s : ByteArray} (h : w.ownsRow base 9 1 v (L.length + 1) (scells L ++ [.string s])) : Own w base v (L ++ [s]) := by
  unfold Own
  rw [List.length_append, scells, List.map_append]
  exact h
theorem Own.free {w : World} {base g n cap : Nat} {L : List ByteArray} (h : Own w base (.slice (some ⟨g, 0, none⟩) n cap) L) (j : Nat) : w.frozen? ⟨g, j, none⟩ = false := by
  obtain ⟨a, c', e, _⟩ := h.form
  cases e
  exact World.ownsRow.frozenAt h j
theorem Own.at {w : World} {base g n cap i : Nat} {L : List ByteArray} (h : Own w base (.slice (some ⟨g, 0, none⟩) n cap) L) (hi : i < L.length) :
    w.cell? ⟨g, i, none⟩ = some (.string (sat L i)) ∧ w.frozen? ⟨g, i, none⟩ = false := by
  obtain ⟨a', c', e1, _, _, r, _⟩ := h.form
  cases e1
  obtain ⟨b', o', e2, k0⟩ := r.cell i hi
  cases e2
  exact ⟨by simpa using k0, h.free _⟩
theorem grown_below {w w' : World} {base B : Nat} {v : Value} {L : List ByteArray} (h : Own w base v L) (g : w.grownBy w' v.ownBlock) (hB : B ≤ base) (hs : B ≤ w.heap.size) : Below B w w' :=
  ⟨g.os, g.tape, g.output, g.size, fun k hk => g.block k (by omega) (fun e => by have := (World.ownsRow.lt h k e.symm).1; omega)⟩
theorem Own.set {w : World} {base g n cap i : Nat} {L : List ByteArray} (h : Own w base (.slice (some ⟨g, 0, none⟩) n cap) L) (s : ByteArray) :
    Own (w.setCell ⟨g, i, none⟩ (.string s)) base (.slice (some ⟨g, 0, none⟩) n cap) (L.set i s) := by
  obtain ⟨a, c', e, _⟩ := h.form
  cases e
  have := (World.ownsRow.stored h i (.string s)).1
  unfold Own
  rw [List.length_set, scells, List.map_set]
  exact this
end Go.Proofs.YtceddedlfdgbhaaGreatDoor.Nm
