/-
  A slice as a value: where it begins, how long it is, how much room it has.
  A list of Nodes as it lies in memory: 10 cells each; a row of the call's own; one that came in. (Written by wip/mkrow.py.)
  One Replica: two slices, a book and Members; what the laws do with it: the measure, the copy, whether two are alike.
  A Replica that is right.
  A Node as it lies in memory: ten cells, four of them slices. (Written by wip/mkNod.py.)
-/
import Derived.Test.YtceddedlfdgbhaaGreatDoorMem
import Derived.WalkKit
import Derived.Test.YtceddedlfdgbhaaGreatDoorProg
import Derived.Laws.OwnMore
import Derived.Deep.OwnRows
import Derived.Deep.Strs
import Derived.OwnWalk
import Derived.OpenShut
import Derived.Laws.AppendOwn
import Derived.Lib.SmallJoins
import Derived.Test.YtceddedlfdgbhaaGreatDoorBun5
import Derived.Test.YtceddedlfdgbhaaGreatDoorMem2L
import Derived.Test.YtceddedlfdgbhaaGreatDoorBoxM
import Derived.Test.YtceddedlfdgbhaaGreatDoorBun3
import Derived.Test.YtceddedlfdgbhaaGreatDoorBun8
import Derived.Test.YtceddedlfdgbhaaGreatDoorLogP
import Derived.Test.YtceddedlfdgbhaaGreatDoorRollM
import Derived.Test.YtceddedlfdgbhaaGreatDoorBun2
import Derived.Test.YtceddedlfdgbhaaGreatDoorBun4
namespace Go.Proofs.YtceddedlfdgbhaaGreatDoor.Vv
open Go.ChangeShapes Go.WideShapes Go.ChangeAt Go.RowKit
set_option linter.unusedVariables false
theorem hidIt {p : Prop} (h : p) : Hid p := h
/-- A slice: where it begins, how long it is, how much room it has. -/
abbrev Sl := Option Addr × Nat × Nat
abbrev sv (x : Sl) : Value := .slice x.1 x.2.1 x.2.2
end Go.Proofs.YtceddedlfdgbhaaGreatDoor.Vv
namespace Go.Proofs.YtceddedlfdgbhaaGreatDoor.Nv
open Go.ChangeShapes Go.WideShapes Go.ChangeAt Go.RowKit
open Go.Proofs.YtceddedlfdgbhaaGreatDoor.Vv (Sl sv hidIt)
set_option linter.unusedVariables false
abbrev Rw := Sl × Sl × Int × Int × Int × Int × Int × Sl × Sl × ByteArray
/-- One as a value. -/
abbrev rv (x : Rw) : Value := .agg #[sv x.1, sv x.2.1, .int .i64 x.2.2.1, .int .i64 x.2.2.2.1, .int .i64 x.2.2.2.2.1, .int .i64 x.2.2.2.2.2.1, .int .i64 x.2.2.2.2.2.2.1, sv x.2.2.2.2.2.2.2.1, sv x.2.2.2.2.2.2.2.2.1, .string x.2.2.2.2.2.2.2.2.2]
abbrev rc (x : Rw) : Array Value := #[sv x.1, sv x.2.1, .int .i64 x.2.2.1, .int .i64 x.2.2.2.1, .int .i64 x.2.2.2.2.1, .int .i64 x.2.2.2.2.2.1, .int .i64 x.2.2.2.2.2.2.1, sv x.2.2.2.2.2.2.2.1, sv x.2.2.2.2.2.2.2.2.1, .string x.2.2.2.2.2.2.2.2.2]
def rat (L : List Rw) (i : Nat) : Rw := L.getD i ((none, 0, 0), (none, 0, 0), 0, 0, 0, 0, 0, (none, 0, 0), (none, 0, 0), ByteArray.empty)
theorem rat_at {L : List Rw} {i : Nat} (h : i < L.length) : rat L i = L[i] := by
  unfold rat
  rw [List.getD_eq_getElem?_getD, List.getElem?_eq_getElem h]
  rfl
theorem rat_getElem? {L : List Rw} {i : Nat} (h : i < L.length) : L[i]? = some (rat L i) := by rw [rat_at h, List.getElem?_eq_getElem h]
theorem rat_mem {L : List Rw} {i : Nat} (h : i < L.length) : rat L i ∈ L := by rw [rat_at h]; exact List.getElem_mem h
theorem rat_set {L : List Rw} {i j : Nat} {x : Rw} (h : i < L.length) : rat (L.set i x) j = if i = j then x else rat L j := by
  unfold rat
  rw [List.getD_eq_getElem?_getD, List.getD_eq_getElem?_getD, List.getElem?_set]
  by_cases e : i = j
  · subst e; simp [h]
  · simp [e]
theorem rat_take {L : List Rw} {k i : Nat} (h : i < k) : rat (L.take k) i = rat L i := by
  unfold rat
  rw [List.getD_eq_getElem?_getD, List.getD_eq_getElem?_getD, List.getElem?_take, if_pos h]
theorem take_rat {L : List Rw} {i : Nat} (h : i < L.length) : L.take (i + 1) = L.take i ++ [rat L i] := by
  rw [List.take_add_one, rat_getElem? h]
  rfl
theorem ext_rat {L M : List Rw} (h : L.length = M.length) (e : ∀ i, i < L.length → rat L i = rat M i) : L = M := by
  apply List.ext_getElem?
  intro i
  by_cases hi : i < L.length
  · rw [rat_getElem? hi, rat_getElem? (by omega), e i hi]
  · rw [List.getElem?_eq_none (by omega), List.getElem?_eq_none (by omega)]
def rcell (x : Rw) : Nat → Value
  | 0 => sv x.1
  | 1 => sv x.2.1
  | 2 => .int .i64 x.2.2.1
  | 3 => .int .i64 x.2.2.2.1
  | 4 => .int .i64 x.2.2.2.2.1
  | 5 => .int .i64 x.2.2.2.2.2.1
  | 6 => .int .i64 x.2.2.2.2.2.2.1
  | 7 => sv x.2.2.2.2.2.2.2.1
  | 8 => sv x.2.2.2.2.2.2.2.2.1
  | _ => .string x.2.2.2.2.2.2.2.2.2
def rcells : List Rw → List Value
  | [] => []
  | x :: r => sv x.1 :: sv x.2.1 :: .int .i64 x.2.2.1 :: .int .i64 x.2.2.2.1 :: .int .i64 x.2.2.2.2.1 :: .int .i64 x.2.2.2.2.2.1 :: .int .i64 x.2.2.2.2.2.2.1 :: sv x.2.2.2.2.2.2.2.1 :: sv x.2.2.2.2.2.2.2.2.1 :: .string x.2.2.2.2.2.2.2.2.2 :: rcells r
theorem rcells_cons (x : Rw) (r : List Rw) : rcells (x :: r) = sv x.1 :: sv x.2.1 :: .int .i64 x.2.2.1 :: .int .i64 x.2.2.2.1 :: .int .i64 x.2.2.2.2.1 :: .int .i64 x.2.2.2.2.2.1 :: .int .i64 x.2.2.2.2.2.2.1 :: sv x.2.2.2.2.2.2.2.1 :: sv x.2.2.2.2.2.2.2.2.1 :: .string x.2.2.2.2.2.2.2.2.2 :: rcells r := rfl
theorem rcells_length (L : List Rw) : (rcells L).length = L.length * 10 := by
  induction L with
  | nil => rfl
  | cons x r ih => simp only [rcells_cons, List.length_cons, ih]; omega
theorem rcells_append (L M : List Rw) : rcells (L ++ M) = rcells L ++ rcells M := by
  induction L with
  | nil => rfl
  | cons x r ih => rw [List.cons_append, rcells_cons, rcells_cons, ih]; rfl
theorem rcells_one (L : List Rw) : ∀ u ∈ rcells L, u.oneCell' = true := by
  induction L with
  | nil => intro u hu; cases hu
  | cons x r ih =>
    intro u hu
    rw [rcells_cons] at hu
    simp only [List.mem_cons] at hu
    rcases hu with rfl | rfl | rfl | rfl | rfl | rfl | rfl | rfl | rfl | rfl | hu
    · rfl
    · rfl
    · rfl
    · rfl
    · rfl
    · rfl
    · rfl
    · rfl
    · rfl
    · rfl
    · exact ih u hu
theorem rcells_get (L : List Rw) : ∀ i j, i < L.length → j < 10 → (rcells L)[i * 10 + j]? = some (rcell (rat L i) j) := by
  induction L with
  | nil => intro i j hi; simp at hi
  | cons x r ih =>
    intro i j hi hj
    cases i with
    | zero =>
      match j, hj with
      | 0, _ => rfl
      | 1, _ => rfl
      | 2, _ => rfl
      | 3, _ => rfl
      | 4, _ => rfl
      | 5, _ => rfl
      | 6, _ => rfl
      | 7, _ => rfl
      | 8, _ => rfl
      | 9, _ => rfl
    | succ k =>
      rw [rcells_cons, show (k + 1) * 10 + j = k * 10 + j + 1 + 1 + 1 + 1 + 1 + 1 + 1 + 1 + 1 + 1 by omega, List.getElem?_cons_succ, List.getElem?_cons_succ, List.getElem?_cons_succ, List.getElem?_cons_succ, List.getElem?_cons_succ, List.getElem?_cons_succ, List.getElem?_cons_succ, List.getElem?_cons_succ, List.getElem?_cons_succ, List.getElem?_cons_succ, ih k j (by simp at hi; omega) hj]
      rfl
theorem rcells_set (L : List Rw) : ∀ i j (v : Value) (y : Rw), i < L.length → j < 10 → (∀ k, k < 10 → rcell y k = if k = j then v else rcell (rat L i) k) → (rcells L).set (i * 10 + j) v = rcells (L.set i y) := by
  induction L with
  | nil => intro i j v y hi; simp at hi
  | cons x r ih =>
    intro i j v y hi hj h
    cases i with
    | zero =>
      have e0 := h 0 (by omega)
      have e1 := h 1 (by omega)
      have e2 := h 2 (by omega)
      have e3 := h 3 (by omega)
      have e4 := h 4 (by omega)
      have e5 := h 5 (by omega)
      have e6 := h 6 (by omega)
      have e7 := h 7 (by omega)
      have e8 := h 8 (by omega)
      have e9 := h 9 (by omega)
      rw [List.set_cons_zero, rcells_cons y r, show (sv y.1 : Value) = rcell y 0 from rfl, show (sv y.2.1 : Value) = rcell y 1 from rfl, show (.int .i64 y.2.2.1 : Value) = rcell y 2 from rfl, show (.int .i64 y.2.2.2.1 : Value) = rcell y 3 from rfl, show (.int .i64 y.2.2.2.2.1 : Value) = rcell y 4 from rfl, show (.int .i64 y.2.2.2.2.2.1 : Value) = rcell y 5 from rfl, show (.int .i64 y.2.2.2.2.2.2.1 : Value) = rcell y 6 from rfl, show (sv y.2.2.2.2.2.2.2.1 : Value) = rcell y 7 from rfl, show (sv y.2.2.2.2.2.2.2.2.1 : Value) = rcell y 8 from rfl, show (.string y.2.2.2.2.2.2.2.2.2 : Value) = rcell y 9 from rfl, e0, e1, e2, e3, e4, e5, e6, e7, e8, e9]
      match j, hj with
      | 0, _ => rfl
      | 1, _ => rfl
      | 2, _ => rfl
      | 3, _ => rfl
      | 4, _ => rfl
      | 5, _ => rfl
      | 6, _ => rfl
      | 7, _ => rfl
      | 8, _ => rfl
      | 9, _ => rfl
    | succ k =>
      rw [rcells_cons, show (k + 1) * 10 + j = k * 10 + j + 1 + 1 + 1 + 1 + 1 + 1 + 1 + 1 + 1 + 1 by omega, List.set_cons_succ, List.set_cons_succ, List.set_cons_succ, List.set_cons_succ, List.set_cons_succ, List.set_cons_succ, List.set_cons_succ, List.set_cons_succ, List.set_cons_succ, List.set_cons_succ, ih k j v y (by simp at hi; omega) hj (fun n hn => h n hn)]
      rfl
theorem rcells_swap_len (L : List Rw) (i j : Nat) (x y : Rw) : ((L.set i x).set j y).length = L.length := by rw [List.length_set, List.length_set]
/-- A slice at address a reads as the list L. -/
structure Rd (w : World) (a : Option Addr) (L : List Rw) : Prop where
  cell : ∀ i, i < L.length → ∃ b off, a = some ⟨b, off, none⟩ ∧ ∀ j, j < 10 → w.cell? ⟨b, off + (i * 10 + j), none⟩ = some (rcell (rat L i) j)
theorem Rd.all {w : World} {a : Option Addr} {L : List Rw} (h : Rd w a L) {i : Nat} (hi : i < L.length) : ∃ b off, a = some ⟨b, off, none⟩ ∧ w.cell? ⟨b, off + i * 10, none⟩ = some (sv (rat L i).1) ∧ w.cell? ⟨b, off + i * 10 + 1, none⟩ = some (sv (rat L i).2.1) ∧ w.cell? ⟨b, off + i * 10 + 2, none⟩ = some (.int .i64 (rat L i).2.2.1) ∧ w.cell? ⟨b, off + i * 10 + 3, none⟩ = some (.int .i64 (rat L i).2.2.2.1) ∧ w.cell? ⟨b, off + i * 10 + 4, none⟩ = some (.int .i64 (rat L i).2.2.2.2.1) ∧ w.cell? ⟨b, off + i * 10 + 5, none⟩ = some (.int .i64 (rat L i).2.2.2.2.2.1) ∧ w.cell? ⟨b, off + i * 10 + 6, none⟩ = some (.int .i64 (rat L i).2.2.2.2.2.2.1) ∧ w.cell? ⟨b, off + i * 10 + 7, none⟩ = some (sv (rat L i).2.2.2.2.2.2.2.1) ∧ w.cell? ⟨b, off + i * 10 + 8, none⟩ = some (sv (rat L i).2.2.2.2.2.2.2.2.1) ∧ w.cell? ⟨b, off + i * 10 + 9, none⟩ = some (.string (rat L i).2.2.2.2.2.2.2.2.2) := by
  obtain ⟨b, off, e, c⟩ := h.cell i hi
  exact ⟨b, off, e, c 0 (by omega), by rw [Nat.add_assoc]; exact c 1 (by omega), by rw [Nat.add_assoc]; exact c 2 (by omega), by rw [Nat.add_assoc]; exact c 3 (by omega), by rw [Nat.add_assoc]; exact c 4 (by omega), by rw [Nat.add_assoc]; exact c 5 (by omega), by rw [Nat.add_assoc]; exact c 6 (by omega), by rw [Nat.add_assoc]; exact c 7 (by omega), by rw [Nat.add_assoc]; exact c 8 (by omega), by rw [Nat.add_assoc]; exact c 9 (by omega)⟩
theorem cell_block {w : World} {b o : Nat} {v : Value} (h : w.cell? ⟨b, o, none⟩ = some v) : b < w.heap.size := World.block_lt_of_cell? w ⟨b, o, none⟩ h
theorem Rd.kept {w w' : World} {a : Option Addr} {L : List Rw} (h : Rd w a L) (k : Below w.heap.size w w') : Rd w' a L :=
  ⟨fun i hi => by
    obtain ⟨b, off, e, c⟩ := h.cell i hi
    exact ⟨b, off, e, fun j hj => by rw [k.cell (by simpa using cell_block (c j hj))]; exact c j hj⟩⟩
theorem Rd.alloc {w : World} {a : Option Addr} {L : List Rw} (h : Rd w a L) (o : Obj) : Rd (w.alloc o) a L := h.kept ((Below.refl _ _).alloc (Nat.le_refl _) o)
theorem Rd.drew {w : World} {a : Option Addr} {L : List Rw} (h : Rd w a L) : Rd w.drew a L := ⟨h.cell⟩
theorem Rd.take {w : World} {a : Option Addr} {L : List Rw} (h : Rd w a L) (k : Nat) : Rd w a (L.take k) :=
  ⟨fun i hi => by
    rw [List.length_take] at hi
    rw [rat_take (by omega)]
    exact h.cell i (by omega)⟩
theorem Rd.nil (w : World) (a : Option Addr) : Rd w a [] := ⟨fun i hi => by simp at hi⟩
theorem Rd.none_nil {w : World} {L : List Rw} (h : Rd w none L) : L = [] := by
  cases L with
  | nil => rfl
  | cons x r => obtain ⟨b, off, e, _⟩ := h.cell 0 (by simp); cases e
/-- The slice v owns the list L in a row of the call's own. -/
def Own (w : World) (base : Nat) (v : Value) (L : List Rw) : Prop := w.ownsRow base 46 10 v L.length (rcells L)
theorem Own.form {w : World} {base : Nat} {v : Value} {L : List Rw} (h : Own w base v L) : ∃ a cap, v = .slice a L.length cap ∧ L.length ≤ cap ∧ cap ≤ maxLen ∧ Rd w a L ∧ (a = none → cap = 0) ∧ (∀ x, a = some x → ∃ g, x = ⟨g, 0, none⟩ ∧ base ≤ g ∧ g < w.heap.size) := by
  have h' := h
  rcases h.2 with ⟨rfl, h0⟩ | ⟨g, cap, cur, rfl, hb, hg, hn, hm, rest⟩
  · exact ⟨none, 0, by rw [h0], by omega, by decide, ⟨fun i hi => by omega⟩, fun _ => rfl, fun x hx => by cases hx⟩
  · refine ⟨some ⟨g, 0, none⟩, cap, rfl, hn, hm, ⟨fun i hi => ⟨g, 0, rfl, fun j hj => ?_⟩⟩, (fun e => by cases e), fun x hx => ⟨g, by cases hx; rfl, hb, (Array.getElem?_eq_some_iff.1 hg).1⟩⟩
    rw [Nat.zero_add, World.ownsRow.cellAt h' _ (by omega), rcells_get _ _ _ hi hj]
theorem Own.formN {w : World} {base m : Nat} {v : Value} {L : List Rw} (h : Own w base v L) (hn : L.length = m) : ∃ a cap, v = .slice a m cap ∧ m ≤ cap ∧ cap ≤ maxLen ∧ Rd w a L := by
  subst hn
  obtain ⟨a, cap, e, h1, h2, r, _⟩ := h.form
  exact ⟨a, cap, e, h1, h2, r⟩
theorem Own.kept {w w' : World} {base : Nat} {v : Value} {L : List Rw} (h : Own w base v L) (k : Below w.heap.size w w') : Own w' base v L :=
  World.ownsRow.kept (row := none) h ⟨k.os, k.tape, k.output, k.size, fun i hi _ => k.block i hi⟩ (by cases v.ownBlock <;> simp)
theorem Own.alloc {w : World} {base : Nat} {v : Value} {L : List Rw} (h : Own w base v L) (o : Obj) : Own (w.alloc o) base v L := World.ownsRow.alloc h o
theorem Own.drew {w : World} {base : Nat} {v : Value} {L : List Rw} (h : Own w base v L) : Own w.drew base v L := h
theorem Own.only {w w' : World} {base c : Nat} {v : Value} {L : List Rw} (h : Own w base v L) (k : Only c w w') (hc : c < base ∨ ∀ g, v.ownBlock = some g → g ≠ c) : Own w' base v L := by
  refine World.ownsRow.kept h (row := some c) ⟨k.os, k.tape, k.output, k.size, fun i hi hne => k.block i hi (fun e => hne (by rw [e]))⟩ ?_
  cases hv : v.ownBlock with
  | none => exact .inl rfl
  | some g =>
    refine .inr (fun e => ?_)
    cases e
    rcases hc with hc | hc
    · have := (World.ownsRow.lt h _ hv).1; omega
    · exact hc _ hv rfl
theorem Own.mono {w : World} {base b' : Nat} {v : Value} {L : List Rw} (h : Own w base v L) (hb : b' ≤ base) : Own w b' v L := by
  refine ⟨h.1, ?_⟩
  rcases h.2 with h0 | ⟨g, cap, cur, e, hb', r⟩
  · exact .inl h0
  · exact .inr ⟨g, cap, cur, e, by omega, r⟩
theorem Own.new (w : World) : Own (w.alloc (.cells #[] 46)) w.heap.size (.slice (some ⟨w.heap.size, 0, none⟩) 0 0) [] :=
  World.ownsRow_made w #[] 0 (Nat.le_refl _) (by decide) rfl
theorem Own.ofNil (w : World) (base : Nat) : Own w base (.slice none 0 0) [] := World.ownsRow_nil _ _ _ _
theorem Own.one (w : World) (x : Rw) {k : Nat} (h : w.heap.size = k) : Own (w.alloc (.cells (rc x) 46)) k (.slice (some ⟨k, 0, none⟩) 1 1) [x] := by
  subst h
  exact ⟨rfl, .inr ⟨w.heap.size, 1, _, rfl, Nat.le_refl _, heap_alloc_new w _, Nat.le_refl _, by decide, rfl, rfl⟩⟩
theorem Own.more {w : World} {base : Nat} {v : Value} {L M : List Rw} (h : w.ownsRow base 46 10 v (L.length + M.length) (rcells L ++ rcells M)) : Own w base v (L ++ M) := by
  unfold Own
  rw [List.length_append, rcells_append]
  exact h
theorem Own.free {w : World} {base g m cap : Nat} {L : List Rw} (h : Own w base (.slice (some ⟨g, 0, none⟩) m cap) L) (j : Nat) : w.frozen? ⟨g, j, none⟩ = false := by
  obtain ⟨a, c', e, _⟩ := h.form
  cases e
  exact World.ownsRow.frozenAt h j
theorem Own.at {w : World} {base g m cap i j : Nat} {L : List Rw} (h : Own w base (.slice (some ⟨g, 0, none⟩) m cap) L) (hi : i < L.length) (hj : j < 10) : w.cell? ⟨g, i * 10 + j, none⟩ = some (rcell (rat L i) j) := by
  obtain ⟨a', c', e1, _, _, r, _⟩ := h.form
  cases e1
  obtain ⟨b', o', e2, k⟩ := r.cell i hi
  cases e2
  simpa using k j hj
/-- A store into one cell of number i. -/
theorem Own.set {w : World} {base g m cap i j : Nat} {L : List Rw} {v : Value} {y : Rw} (h : Own w base (.slice (some ⟨g, 0, none⟩) m cap) L) (hi : i < L.length) (hj : j < 10) (hy : ∀ k, k < 10 → rcell y k = if k = j then v else rcell (rat L i) k) :
    Own (w.setCell ⟨g, i * 10 + j, none⟩ v) base (.slice (some ⟨g, 0, none⟩) m cap) (L.set i y) := by
  obtain ⟨a, c', e, _⟩ := h.form
  cases e
  have := (World.ownsRow.stored h (i * 10 + j) v).1
  rw [rcells_set L i j v y hi hj hy] at this
  unfold Own
  rw [List.length_set]
  exact this
theorem grown_below {w w' : World} {base Bb : Nat} {v : Value} {L : List Rw} (h : Own w base v L) (g : w.grownBy w' v.ownBlock) (hB : Bb ≤ base) (hs : Bb ≤ w.heap.size) : Below Bb w w' :=
  ⟨g.os, g.tape, g.output, g.size, fun k hk => g.block k (by omega) (fun e => by have := (World.ownsRow.lt h k e.symm).1; omega)⟩
/-- All cells of number i stored, one after the other. -/
theorem Own.whole {w : World} {base g m cap i : Nat} {L : List Rw} (h : Own w base (.slice (some ⟨g, 0, none⟩) m cap) L) (hi : i < L.length) (y : Rw) :
    Own (((((((((((w.setCell ⟨g, i * 10, none⟩ (sv y.1)).setCell ⟨g, i * 10 + 1, none⟩ (sv y.2.1)).setCell ⟨g, i * 10 + 2, none⟩ (.int .i64 y.2.2.1)).setCell ⟨g, i * 10 + 3, none⟩ (.int .i64 y.2.2.2.1)).setCell ⟨g, i * 10 + 4, none⟩ (.int .i64 y.2.2.2.2.1)).setCell ⟨g, i * 10 + 5, none⟩ (.int .i64 y.2.2.2.2.2.1)).setCell ⟨g, i * 10 + 6, none⟩ (.int .i64 y.2.2.2.2.2.2.1)).setCell ⟨g, i * 10 + 7, none⟩ (sv y.2.2.2.2.2.2.2.1)).setCell ⟨g, i * 10 + 8, none⟩ (sv y.2.2.2.2.2.2.2.2.1)).setCell ⟨g, i * 10 + 9, none⟩ (.string y.2.2.2.2.2.2.2.2.2))) base (.slice (some ⟨g, 0, none⟩) m cap) (L.set i y) := by
  obtain ⟨y0, y1, y2, y3, y4, y5, y6, y7, y8, y9⟩ := y
  have h1 := h.set (i := i) (j := 0) (v := sv y0) (y := (y0, (rat L i).2.1, (rat L i).2.2.1, (rat L i).2.2.2.1, (rat L i).2.2.2.2.1, (rat L i).2.2.2.2.2.1, (rat L i).2.2.2.2.2.2.1, (rat L i).2.2.2.2.2.2.2.1, (rat L i).2.2.2.2.2.2.2.2.1, (rat L i).2.2.2.2.2.2.2.2.2)) hi (by omega) (fun k hk => by
    match k, hk with
    | 0, _ => rfl
    | 1, _ => rfl
    | 2, _ => rfl
    | 3, _ => rfl
    | 4, _ => rfl
    | 5, _ => rfl
    | 6, _ => rfl
    | 7, _ => rfl
    | 8, _ => rfl
    | 9, _ => rfl)
  have h2 := h1.set (i := i) (j := 1) (v := sv y1) (y := (y0, y1, (rat L i).2.2.1, (rat L i).2.2.2.1, (rat L i).2.2.2.2.1, (rat L i).2.2.2.2.2.1, (rat L i).2.2.2.2.2.2.1, (rat L i).2.2.2.2.2.2.2.1, (rat L i).2.2.2.2.2.2.2.2.1, (rat L i).2.2.2.2.2.2.2.2.2)) (by rw [List.length_set]; exact hi) (by omega) (fun k hk => by
    rw [rat_set hi, if_pos rfl]
    match k, hk with
    | 0, _ => rfl
    | 1, _ => rfl
    | 2, _ => rfl
    | 3, _ => rfl
    | 4, _ => rfl
    | 5, _ => rfl
    | 6, _ => rfl
    | 7, _ => rfl
    | 8, _ => rfl
    | 9, _ => rfl)
  rw [List.set_set] at h2
  have h3 := h2.set (i := i) (j := 2) (v := .int .i64 y2) (y := (y0, y1, y2, (rat L i).2.2.2.1, (rat L i).2.2.2.2.1, (rat L i).2.2.2.2.2.1, (rat L i).2.2.2.2.2.2.1, (rat L i).2.2.2.2.2.2.2.1, (rat L i).2.2.2.2.2.2.2.2.1, (rat L i).2.2.2.2.2.2.2.2.2)) (by rw [List.length_set]; exact hi) (by omega) (fun k hk => by
    rw [rat_set hi, if_pos rfl]
    match k, hk with
    | 0, _ => rfl
    | 1, _ => rfl
    | 2, _ => rfl
    | 3, _ => rfl
    | 4, _ => rfl
    | 5, _ => rfl
    | 6, _ => rfl
    | 7, _ => rfl
    | 8, _ => rfl
    | 9, _ => rfl)
  rw [List.set_set] at h3
  have h4 := h3.set (i := i) (j := 3) (v := .int .i64 y3) (y := (y0, y1, y2, y3, (rat L i).2.2.2.2.1, (rat L i).2.2.2.2.2.1, (rat L i).2.2.2.2.2.2.1, (rat L i).2.2.2.2.2.2.2.1, (rat L i).2.2.2.2.2.2.2.2.1, (rat L i).2.2.2.2.2.2.2.2.2)) (by rw [List.length_set]; exact hi) (by omega) (fun k hk => by
    rw [rat_set hi, if_pos rfl]
    match k, hk with
    | 0, _ => rfl
    | 1, _ => rfl
    | 2, _ => rfl
    | 3, _ => rfl
    | 4, _ => rfl
    | 5, _ => rfl
    | 6, _ => rfl
    | 7, _ => rfl
    | 8, _ => rfl
    | 9, _ => rfl)
  rw [List.set_set] at h4
  have h5 := h4.set (i := i) (j := 4) (v := .int .i64 y4) (y := (y0, y1, y2, y3, y4, (rat L i).2.2.2.2.2.1, (rat L i).2.2.2.2.2.2.1, (rat L i).2.2.2.2.2.2.2.1, (rat L i).2.2.2.2.2.2.2.2.1, (rat L i).2.2.2.2.2.2.2.2.2)) (by rw [List.length_set]; exact hi) (by omega) (fun k hk => by
    rw [rat_set hi, if_pos rfl]
    match k, hk with
    | 0, _ => rfl
    | 1, _ => rfl
    | 2, _ => rfl
    | 3, _ => rfl
    | 4, _ => rfl
    | 5, _ => rfl
    | 6, _ => rfl
    | 7, _ => rfl
    | 8, _ => rfl
    | 9, _ => rfl)
  rw [List.set_set] at h5
  have h6 := h5.set (i := i) (j := 5) (v := .int .i64 y5) (y := (y0, y1, y2, y3, y4, y5, (rat L i).2.2.2.2.2.2.1, (rat L i).2.2.2.2.2.2.2.1, (rat L i).2.2.2.2.2.2.2.2.1, (rat L i).2.2.2.2.2.2.2.2.2)) (by rw [List.length_set]; exact hi) (by omega) (fun k hk => by
    rw [rat_set hi, if_pos rfl]
    match k, hk with
    | 0, _ => rfl
    | 1, _ => rfl
    | 2, _ => rfl
    | 3, _ => rfl
    | 4, _ => rfl
    | 5, _ => rfl
    | 6, _ => rfl
    | 7, _ => rfl
    | 8, _ => rfl
    | 9, _ => rfl)
  rw [List.set_set] at h6
  have h7 := h6.set (i := i) (j := 6) (v := .int .i64 y6) (y := (y0, y1, y2, y3, y4, y5, y6, (rat L i).2.2.2.2.2.2.2.1, (rat L i).2.2.2.2.2.2.2.2.1, (rat L i).2.2.2.2.2.2.2.2.2)) (by rw [List.length_set]; exact hi) (by omega) (fun k hk => by
    rw [rat_set hi, if_pos rfl]
    match k, hk with
    | 0, _ => rfl
    | 1, _ => rfl
    | 2, _ => rfl
    | 3, _ => rfl
    | 4, _ => rfl
    | 5, _ => rfl
    | 6, _ => rfl
    | 7, _ => rfl
    | 8, _ => rfl
    | 9, _ => rfl)
  rw [List.set_set] at h7
  have h8 := h7.set (i := i) (j := 7) (v := sv y7) (y := (y0, y1, y2, y3, y4, y5, y6, y7, (rat L i).2.2.2.2.2.2.2.2.1, (rat L i).2.2.2.2.2.2.2.2.2)) (by rw [List.length_set]; exact hi) (by omega) (fun k hk => by
    rw [rat_set hi, if_pos rfl]
    match k, hk with
    | 0, _ => rfl
    | 1, _ => rfl
    | 2, _ => rfl
    | 3, _ => rfl
    | 4, _ => rfl
    | 5, _ => rfl
    | 6, _ => rfl
    | 7, _ => rfl
    | 8, _ => rfl
    | 9, _ => rfl)
  rw [List.set_set] at h8
  have h9 := h8.set (i := i) (j := 8) (v := sv y8) (y := (y0, y1, y2, y3, y4, y5, y6, y7, y8, (rat L i).2.2.2.2.2.2.2.2.2)) (by rw [List.length_set]; exact hi) (by omega) (fun k hk => by
    rw [rat_set hi, if_pos rfl]
    match k, hk with
    | 0, _ => rfl
    | 1, _ => rfl
    | 2, _ => rfl
    | 3, _ => rfl
    | 4, _ => rfl
    | 5, _ => rfl
    | 6, _ => rfl
    | 7, _ => rfl
    | 8, _ => rfl
    | 9, _ => rfl)
  rw [List.set_set] at h9
  have h10 := h9.set (i := i) (j := 9) (v := .string y9) (y := (y0, y1, y2, y3, y4, y5, y6, y7, y8, y9)) (by rw [List.length_set]; exact hi) (by omega) (fun k hk => by
    rw [rat_set hi, if_pos rfl]
    match k, hk with
    | 0, _ => rfl
    | 1, _ => rfl
    | 2, _ => rfl
    | 3, _ => rfl
    | 4, _ => rfl
    | 5, _ => rfl
    | 6, _ => rfl
    | 7, _ => rfl
    | 8, _ => rfl
    | 9, _ => rfl)
  rw [List.set_set] at h10
  exact h10
theorem infoRw : (Tryz.prog.info? 46).map (fun i => (i.zero, i.size, i.bytes)) = some (some (.agg #[sv (none, 0, 0), sv (none, 0, 0), .int .i64 0, .int .i64 0, .int .i64 0, .int .i64 0, .int .i64 0, sv (none, 0, 0), sv (none, 0, 0), .string ByteArray.empty]), 10, 152) := by kernel_rfl
theorem row_cell {w : World} {g : Nat} {cur : Array Value} {T : TypeId} {f : Nat × Nat} (hg : w.heap[g]? = some (.cells cur T f)) (j : Nat) : w.cell? ⟨g, j, none⟩ = cur[j]? := by simp [World.cell?, hg]
theorem rcells_split (M : List Rw) (k : Nat) (hk : k ≤ M.length) : rcells M = rcells (M.take k) ++ rcells (M.drop k) ∧ (rcells (M.take k)).length = k * 10 := by
  refine ⟨by rw [← rcells_append, List.take_append_drop], ?_⟩
  rw [rcells_length, List.length_take, Nat.min_eq_left hk]
theorem rcells_take (M : List Rw) (k : Nat) (hk : k ≤ M.length) : rcells (M.take k) = (rcells M).take (k * 10) := by
  obtain ⟨e, l⟩ := rcells_split M k hk
  rw [e, ← l, List.take_left]
theorem rcells_drop (M : List Rw) (k : Nat) (hk : k ≤ M.length) : rcells (M.drop k) = (rcells M).drop (k * 10) := by
  obtain ⟨e, l⟩ := rcells_split M k hk
  rw [e, ← l, List.drop_left]
/-- A row of one's own, looked into. -/
theorem own_row {w : World} {base g m cap : Nat} {M : List Rw} (h : Own w base (.slice (some ⟨g, 0, none⟩) m cap) M) : ∃ cur, base ≤ g ∧ w.heap[g]? = some (.cells cur 46 (0, 0)) ∧ M.length ≤ cap ∧ cap ≤ maxLen ∧ cur.size = cap * 10 ∧ cur.toList.take (M.length * 10) = rcells M ∧ M.length = m := by
  obtain ⟨a', c', e, _⟩ := h.form
  have em : M.length = m := by cases e; rfl
  rcases h.2 with ⟨e', _⟩ | ⟨g', cap', cur, e', hb, hg, hn, hm, hs, ht⟩
  · cases e'
  · cases e'
    exact ⟨cur, hb, hg, hn, hm, hs, ht, rfl⟩
/-- A piece of a row is read. -/
theorem Own.piece {w : World} {base g m cap : Nat} {M : List Rw} (h : Own w base (.slice (some ⟨g, 0, none⟩) m cap) M) (k : Nat) (hk : k ≤ M.length) : ∀ j u, (rcells (M.drop k))[j]? = some u → w.cell? ((⟨g, k * 10, none⟩ : Addr).add j) = some u := by
  intro j u hj
  obtain ⟨cur, _, hg, _, _, hsz, htk, _⟩ := own_row h
  rw [rcells_drop M k hk, List.getElem?_drop, ← htk, List.getElem?_take] at hj
  rw [Go.WideShapes.add_plain, row_cell hg]
  split at hj
  · rw [← Array.getElem?_toList]; exact hj
  · cases hj
theorem Own.front {w : World} {base g m cap : Nat} {M : List Rw} (h : Own w base (.slice (some ⟨g, 0, none⟩) m cap) M) (k : Nat) (hk : k ≤ M.length) : ∀ j u, (rcells (M.take k))[j]? = some u → w.cell? ((⟨g, 0, none⟩ : Addr).add j) = some u := by
  intro j u hj
  obtain ⟨cur, _, hg, _, _, hsz, htk, _⟩ := own_row h
  rw [rcells_take M k hk, List.getElem?_take] at hj
  rw [Go.WideShapes.add_plain, row_cell hg, Nat.zero_add]
  split at hj
  · rw [← htk, List.getElem?_take] at hj
    split at hj
    · rw [← Array.getElem?_toList]; exact hj
    · cases hj
  · cases hj
theorem Own.some_form {w : World} {base : Nat} {v : Value} {M : List Rw} (h : Own w base v M) (hv : v ≠ .slice none 0 0) : ∃ g cap, v = .slice (some ⟨g, 0, none⟩) M.length cap ∧ M.length ≤ cap ∧ cap ≤ 9223372036854775807 ∧ base ≤ g ∧ g < w.heap.size := by
  obtain ⟨a, cap, rfl, hc, hm, hR, hna, hs⟩ := h.form
  cases a with
  | none =>
    have e := hna rfl
    subst e
    have : M.length = 0 := by omega
    rw [this] at hv
    exact absurd rfl hv
  | some x =>
    obtain ⟨g, rfl, h1, h2⟩ := hs x rfl
    exact ⟨g, cap, rfl, hc, hm, h1, h2⟩
/-- What is read is there to be appended. -/
theorem Rd.cells {w : World} {b off : Nat} {L : List Rw} (h : Rd w (some ⟨b, off, none⟩) L) : ∀ j u, (rcells L)[j]? = some u → w.cell? ((⟨b, off, none⟩ : Addr).add j) = some u := by
  intro j u hj
  have hlt : j < L.length * 10 := by rw [← rcells_length]; exact (List.getElem?_eq_some_iff.1 hj).1
  obtain ⟨b', o', e, c⟩ := h.cell (j / 10) (by omega)
  cases e
  have hc := c (j % 10) (by omega)
  have hg := rcells_get L (j / 10) (j % 10) (by omega) (by omega)
  rw [show j / 10 * 10 + j % 10 = j by omega] at hc hg
  rw [hg] at hj
  rw [Go.WideShapes.add_plain, hc]
  exact hj
/-- An append onto a row of one's own, as one step of a region that draws its order; what is not nil stays so. -/
theorem step_append {ops : Array Oper} {o : Oper} {a : Act} {w : World} {K : Act → World → Prop} {Q : Exit → Act → World → Prop} {E : Prop}
    (hg : o.guard = none) (s x : Operand) (hop : o.op = Op.call { callee := Callee.builtin Builtin.append, args := #[s, x], argTypes := #[28, 28] })
    (base : Nat) (v : Value) (M N : List Rw) (hs : a.eval s = v) (hown : Own w base v M) (ad : Addr) (m c : Nat) (hm : N.length = m) (hx : a.eval x = .slice (some ad) m c) (hc : ∀ j u, (rcells N)[j]? = some u → w.cell? (ad.add j) = some u)
    (hl : M.length + m ≤ 1000) (hb : base ≤ w.heap.size)
    (hK : ∀ v' w', Own w' base v' (M ++ N) → w.grownBy w' v.ownBlock → (v' = .slice none 0 0 ↔ v = .slice none 0 0 ∧ m = 0) → K (a.put o.dst v') w') :
    if Region.wanted o (yielded ops a.tmps) = true then Oper.wp Tryz.prog o a w K Q else E := by
  have hw : Region.wanted o (yielded ops a.tmps) = true := by simp [Region.wanted, hg]
  obtain ⟨i0, hi0, hz0, hz1, hz2⟩ := info_parts infoRw
  rw [if_pos hw]
  obtain ⟨v', w', hrun, r1, r2, r3⟩ := run_append_own (P := Tryz.prog) w base 28 o.type 46 i0 (.agg #[sv (none, 0, 0), sv (none, 0, 0), .int .i64 0, .int .i64 0, .int .i64 0, .int .i64 0, .int .i64 0, sv (none, 0, 0), sv (none, 0, 0), .string ByteArray.empty]) 10 152 Tryz.underlying28 hi0 hz0 hz1 hz2 rfl (by decide) v M.length (rcells M) hown ad m c (rcells N) (by rw [rcells_length, hm]) hc (rcells_one _) (by unfold maxLen; omega) (by omega) hb
  unfold Oper.wp
  simp [execOp, hop, resolve, invoke, builtin, hs, hx, hrun, Result.andThen]
  exact hK v' w' (Own.more (by rw [hm]; exact r1)) r2 r3
/-- An append of nil onto a row of one's own, as one step of a region that draws its order. -/
theorem step_append_none {ops : Array Oper} {o : Oper} {a : Act} {w : World} {K : Act → World → Prop} {Q : Exit → Act → World → Prop} {E : Prop}
    (hg : o.guard = none) (s x : Operand) (hop : o.op = Op.call { callee := Callee.builtin Builtin.append, args := #[s, x], argTypes := #[28, 28] })
    (base : Nat) (v : Value) (M : List Rw) (hs : a.eval s = v) (hown : Own w base v M) (hx : a.eval x = .slice none 0 0)
    (hK : K (a.put o.dst v) w) : if Region.wanted o (yielded ops a.tmps) = true then Oper.wp Tryz.prog o a w K Q else E := by
  have hw : Region.wanted o (yielded ops a.tmps) = true := by simp [Region.wanted, hg]
  obtain ⟨i0, hi0, hz0, hz1, hz2⟩ := info_parts infoRw
  rw [if_pos hw]
  have hrun := run_append_owned_none (P := Tryz.prog) (w := w) base 28 o.type 46 i0 10 Tryz.underlying28 hi0 v M.length (rcells M) hown
  unfold Oper.wp
  simp [execOp, hop, resolve, invoke, builtin, hs, hx, hrun, Result.andThen]
  exact hK
theorem grown_cell1 {w w' : World} {r : Option Nat} (k : w.grownBy w' r) {b o : Nat} {v : Value} (h : w.cell? ⟨b, o, none⟩ = some v) (hr : some b ≠ r) : w'.cell? ⟨b, o, none⟩ = some v := by
  rw [World.cell?_of_block (w := w) (k.block b (cell_block h) hr)]
  exact h
/-- The block that a slice owns; of none, one that is not there. -/
def ob (w : World) (v : Value) : Nat := v.ownBlock.getD w.heap.size
theorem Own.lo {w w' : World} {b b' : Nat} {u v : Value} {M L : List Rw} (hu : Own w b u M) (hv : Own w b' v L) (Y : Only (ob w v) w w') (hlt : ∀ g, u.ownBlock = some g → g < b') : Own w' b u M := by
  refine hu.only Y (.inr fun g hg => ?_)
  have h1 := hlt g hg
  have h2 := (World.ownsRow.lt hu g hg).2
  unfold ob
  cases hvb : v.ownBlock with
  | none => simp; omega
  | some x => have := (World.ownsRow.lt hv x hvb).1; simp; omega
theorem Own.hi {w w' : World} {b b' : Nat} {u v : Value} {M L : List Rw} (hu : Own w b u M) (hv : Own w b' v L) (Y : Only (ob w v) w w') (hlt : ∀ g, v.ownBlock = some g → g < b) : Own w' b u M := by
  refine hu.only Y (.inr fun g hg => ?_)
  have h2 := World.ownsRow.lt hu g hg
  unfold ob
  cases hvb : v.ownBlock with
  | none => simp; omega
  | some x => have := hlt x hvb; simp; omega
theorem Own.blk {w : World} {b : Nat} {v : Value} {L : List Rw} (hv : Own w b v L) {X : Nat} (hX : w.heap.size ≤ X) : ∀ g, v.ownBlock = some g → g < X := fun g hg => by
  have := (World.ownsRow.lt hv g hg).2; omega
theorem ob_below {W w w' : World} {b B : Nat} {v : Value} {L : List Rw} (k : Below B W w) (hv : Own w b v L) (Y : Only (ob w v) w w') (hb : B ≤ b) (hs : B ≤ w.heap.size) : Below B W w' := by
  refine k.trans (Y.below ?_ hs)
  unfold ob
  cases hvb : v.ownBlock with
  | none => simpa using hs
  | some x => have := (World.ownsRow.lt hv x hvb).1; simp; omega
theorem rat_map (m : Nat) (f : Nat → Rw) (i : Nat) (hi : i < m) : rat ((List.range m).map f) i = f i := by
  unfold rat
  rw [List.getD_eq_getElem?_getD, List.getElem?_map, List.getElem?_range hi]
  rfl
theorem fresh (w : World) (x : Rw) (T : TypeId) : ∀ j u, (rcells [x])[j]? = some u → (w.alloc (.cells (rc x) T)).cell? ((⟨w.heap.size, 0, none⟩ : Addr).add j) = some u := by
  intro j u hj
  match j, hj with
  | 0, hj => simp [rcells] at hj; subst hj; simp [Addr.add]
  | 1, hj => simp [rcells] at hj; subst hj; simp [Addr.add]
  | 2, hj => simp [rcells] at hj; subst hj; simp [Addr.add]
  | 3, hj => simp [rcells] at hj; subst hj; simp [Addr.add]
  | 4, hj => simp [rcells] at hj; subst hj; simp [Addr.add]
  | 5, hj => simp [rcells] at hj; subst hj; simp [Addr.add]
  | 6, hj => simp [rcells] at hj; subst hj; simp [Addr.add]
  | 7, hj => simp [rcells] at hj; subst hj; simp [Addr.add]
  | 8, hj => simp [rcells] at hj; subst hj; simp [Addr.add]
  | 9, hj => simp [rcells] at hj; subst hj; simp [Addr.add]
  | j + 10, hj => simp [rcells] at hj
end Go.Proofs.YtceddedlfdgbhaaGreatDoor.Nv
namespace Go.Proofs.YtceddedlfdgbhaaGreatDoor.Rp
open Go.ChangeShapes Go.WideShapes Go.ChangeAt Go.RowKit
open Go.Proofs.YtceddedlfdgbhaaGreatDoor.Vv (Sl sv hidIt)
open Go.Proofs.YtceddedlfdgbhaaGreatDoor.Rc (BelowBy BelowBy.one wp_region_below calls_below calls_same)
set_option linter.unusedVariables false
abbrev Rep := List En.Rw × List Mm.Rw
/-- A slice that reads as a list of Entries. -/
structure RdE (w : World) (s : Sl) (L : List En.Rw) : Prop where
  len : s.2.1 = L.length
  rd : En.Rd w s.1 L
  na : s.1 = none → s.2.2 = 0
  le : L.length ≤ s.2.2
  cap : s.2.2 ≤ 9223372036854775807
structure RdM (w : World) (s : Sl) (L : List Mm.Rw) : Prop where
  len : s.2.1 = L.length
  rd : Mm.Rd w s.1 L
  na : s.1 = none → s.2.2 = 0
  le : L.length ≤ s.2.2
  cap : s.2.2 ≤ 9223372036854775807
theorem RdE.kept {w w' : World} {s : Sl} {L : List En.Rw} (h : RdE w s L) (k : Below w.heap.size w w') : RdE w' s L := ⟨h.len, h.rd.kept k, h.na, h.le, h.cap⟩
theorem RdM.kept {w w' : World} {s : Sl} {L : List Mm.Rw} (h : RdM w s L) (k : Below w.heap.size w w') : RdM w' s L := ⟨h.len, h.rd.kept k, h.na, h.le, h.cap⟩
theorem rdE_of {w : World} {base : Nat} {s : Sl} {L : List En.Rw} (h : En.Own w base (sv s) L) : RdE w s L := by
  obtain ⟨a, c, e, h1, h2, r, h4, _⟩ := h.form
  obtain ⟨s0, s1, s2⟩ := s
  simp only [sv, Value.slice.injEq] at e
  obtain ⟨rfl, rfl, rfl⟩ := e
  exact ⟨rfl, r, h4, h1, h2⟩
theorem rdM_of {w : World} {base : Nat} {s : Sl} {L : List Mm.Rw} (h : Mm.Own w base (sv s) L) : RdM w s L := by
  obtain ⟨a, c, e, h1, h2, r, h4, _⟩ := h.form
  obtain ⟨s0, s1, s2⟩ := s
  simp only [sv, Value.slice.injEq] at e
  obtain ⟨rfl, rfl, rfl⟩ := e
  exact ⟨rfl, r, h4, h1, h2⟩
theorem slE {w : World} {base : Nat} {v : Value} {L : List En.Rw} (h : En.Own w base v L) : ∃ s : Sl, v = sv s := by
  obtain ⟨a, c, e, _⟩ := h.form
  exact ⟨(a, L.length, c), e⟩
theorem slM {w : World} {base : Nat} {v : Value} {L : List Mm.Rw} (h : Mm.Own w base v L) : ∃ s : Sl, v = sv s := by
  obtain ⟨a, c, e, _⟩ := h.form
  exact ⟨(a, L.length, c), e⟩
theorem on {W a b : World} (h : Below W.heap.size W a) (k : Below a.heap.size a b) : Below W.heap.size W b := h.trans (k.mono h.size)
/-- How many Entries and Members a Replica has. -/
def bulk1 (r : Rep) : Nat := r.1.length + r.2.length
set_option maxRecDepth 100000 in
set_option maxHeartbeats 4000000 in
theorem sz_any (s t : Sl) (r : Rep) (l : Int) (w : World) (hE : RdE w s r.1) (hM : RdM w t r.2) (hs : ∀ j, j < r.1.length → (En.rat r.1 j).1.size ≤ 9223372036854775807 ∧ (En.rat r.1 j).2.1.size ≤ 9223372036854775807) (h0 : 0 ≤ l) (h1 : l ≤ 1048576) :
    Calls Tryz.prog 29 #[.agg #[sv s, sv t], .int .i64 l] w fun e w' => ∃ q : Int, e = .returned (.int .i64 q) ∧ En.Le2 q l (bulk1 r) ∧ Below w.heap.size w w' := by
  obtain ⟨s0, s1, s2⟩ := s
  obtain ⟨t0, t1, t2⟩ := t
  obtain ⟨e1, rE, nE, lE, cE⟩ := hE
  obtain ⟨e2, rM, nM, lM, cM⟩ := hM
  simp only at e1 rE nE lE cE e2 rM nM lM cM
  subst e1 e2
  have C1 := hidIt (fun W (k : En.Rd W s0 r.1) => En.szS_any s0 s2 r.1 l W k (by omega) hs h0 h1)
  have C2 := hidIt (fun l' W (k : Mm.Rd W t0 r.2) => Mm.szS_any t0 t2 r.2 l' W k (by omega))
  have HE := hidIt rE
  have HM := hidIt rM
  clear rE rM hs
  unfold bulk1
  generalize r.1.length = m1 at *
  generalize r.2.length = m2 at *
  have BX := hidIt (Bo.Box.new w #[.slice s0 m1 s2, .slice t0 m2 t2] 55)
  have HB := hidIt ((Below.refl w.heap.size w).alloc (Nat.le_refl _) (.cells #[.slice s0 m1 s2, .slice t0 m2 t2] 55))
  go_enter Tryz.func29, Tryz.ntmps29
  go_wp2_with (fail)
  refine (C1.out _ (HE.out.kept HB.out)).mono ?_
  rintro e w1 ⟨q, rfl, hq, _, k1⟩
  have HQ := hidIt hq
  have HB1 := hidIt (on HB.out k1)
  have b1 := (BX.out.kept k1).c 1 rfl
  have q1 := hq.le
  clear k1 hq
  by_cases hneg : q < 0
  · go_wp2_with (fail)
    go_ret
    first | exact ⟨-1, rfl, ⟨by omega, fun h => by omega⟩, HB1.out⟩ | exact ⟨⟨by omega, fun h => by omega⟩, HB1.out⟩
  · go_wp2_with (fail)
    refine (C2.out q _ (HM.out.kept HB1.out) (by omega) (by omega)).mono ?_
    rintro e w2 ⟨p, rfl, hp, _, k2⟩
    have HP := hidIt hp
    have HB2 := hidIt (on HB1.out k2)
    have p1 := hp.le
    clear k2 hp
    by_cases hneg2 : p < 0
    · go_wp2_with (fail)
      go_ret
      first | exact ⟨-1, rfl, ⟨by omega, fun h => by omega⟩, HB2.out⟩ | exact ⟨⟨by omega, fun h => by omega⟩, HB2.out⟩
    · go_wp2_with (fail)
      go_ret
      have h1 := HQ.out.sum (by omega)
      have h2 := HP.out.sum (by omega)
      first | exact ⟨p, rfl, ⟨by omega, fun h => by omega⟩, HB2.out⟩ | exact ⟨⟨by omega, fun h => by omega⟩, HB2.out⟩
/-- A Replica of the call's own comes back. -/
def TwoP (w : World) (r : Rep) (e : Ending) (w' : World) : Prop := ∃ s t : Sl, e = .returned (.agg #[sv s, sv t]) ∧ En.Own w' w.heap.size (sv s) r.1 ∧ Mm.Own w' w.heap.size (sv t) r.2 ∧ Below w.heap.size w w'
theorem TwoP.of {w w' : World} {r : Rep} {e : Ending} {s t : Sl} (h : e = .returned (.agg #[sv s, sv t])) (h1 : En.Own w' w.heap.size (sv s) r.1) (h2 : Mm.Own w' w.heap.size (sv t) r.2) (h3 : Below w.heap.size w w') : TwoP w r e w' := ⟨s, t, h, h1, h2, h3⟩
theorem TwoP.out {w w' : World} {r : Rep} {e : Ending} (h : TwoP w r e w') : ∃ s t : Sl, e = .returned (.agg #[sv s, sv t]) ∧ En.Own w' w.heap.size (sv s) r.1 ∧ Mm.Own w' w.heap.size (sv t) r.2 ∧ Below w.heap.size w w' := h
set_option maxRecDepth 100000 in
set_option maxHeartbeats 8000000 in
theorem to_any (s t : Sl) (r : Rep) (w : World) (hE : RdE w s r.1) (hM : RdM w t r.2) (h1 : r.1.length ≤ 1048576) (h2 : r.2.length ≤ 1048576) :
    Calls Tryz.prog 41 #[.agg #[sv s, sv t]] w fun e w' => TwoP w r e w' := by
  obtain ⟨s0, s1, s2⟩ := s
  obtain ⟨t0, t1, t2⟩ := t
  obtain ⟨e1, rE, nE, lE, cE⟩ := hE
  obtain ⟨e2, rM, nM, lM, cM⟩ := hM
  simp only at e1 rE nE lE cE e2 rM nM lM cM
  subst e1 e2
  have C1 := hidIt (fun W (k : En.Rd W s0 r.1) => En.toS_any s0 s2 r.1 W k h1)
  have C2 := hidIt (fun W (k : Mm.Rd W t0 r.2) => Mm.toS_any t0 t2 r.2 W k h2)
  have HE := hidIt rE
  have HM := hidIt rM
  clear rE rM
  generalize r.1.length = m1 at *
  generalize r.2.length = m2 at *
  have BA : Hid (Bo.Box (((w.alloc (.cells #[.slice s0 m1 s2, .slice t0 m2 t2] 55)).alloc (.cells #[.slice none 0 0, .slice none 0 0] 40)).alloc (.cells #[.slice none 0 0, .slice none 0 0] 40)) w.heap.size #[.slice s0 m1 s2, .slice t0 m2 t2]) := hidIt (((Bo.Box.new w _ _).alloc _).alloc _)
  have BB : Hid (Bo.Box (((w.alloc (.cells #[.slice s0 m1 s2, .slice t0 m2 t2] 55)).alloc (.cells #[.slice none 0 0, .slice none 0 0] 40)).alloc (.cells #[.slice none 0 0, .slice none 0 0] 40)) (w.heap.size + 1) #[.slice none 0 0, .slice none 0 0]) := hidIt ((Bo.Box.newAt (by simp)).alloc _)
  have BC : Hid (Bo.Box (((w.alloc (.cells #[.slice s0 m1 s2, .slice t0 m2 t2] 55)).alloc (.cells #[.slice none 0 0, .slice none 0 0] 40)).alloc (.cells #[.slice none 0 0, .slice none 0 0] 40)) (w.heap.size + 1 + 1) #[.slice none 0 0, .slice none 0 0]) := hidIt (Bo.Box.newAt (by simp))
  have HB : Hid (Below w.heap.size w (((w.alloc (.cells #[.slice s0 m1 s2, .slice t0 m2 t2] 55)).alloc (.cells #[.slice none 0 0, .slice none 0 0] 40)).alloc (.cells #[.slice none 0 0, .slice none 0 0] 40))) := hidIt ((((Below.refl w.heap.size w).alloc (Nat.le_refl _) _).alloc (by simp) _).alloc (by simp; omega) _)
  go_enter Tryz.func41, Tryz.ntmps41
  go_wp2_with (fail)
  refine (C1.out _ (HE.out.kept HB.out)).mono ?_
  rintro e w1 ⟨v1, rfl, hO1, k⟩
  obtain ⟨⟨x0, x1, x2⟩, rfl⟩ := slE hO1
  have ne1 : w.heap.size ≠ w.heap.size + 1 + 1 := by omega
  have ne2 : w.heap.size + 1 ≠ w.heap.size + 1 + 1 := by omega
  have ne3 : w.heap.size + 1 + 1 ≠ w.heap.size := by omega
  have ne4 : w.heap.size + 1 + 1 ≠ w.heap.size + 1 := by omega
  have hle : w.heap.size ≤ w.heap.size + 1 + 1 := by omega
  have hle1 : w.heap.size ≤ w.heap.size + 1 := by omega
  replace BA := hidIt (BA.out.kept k)
  replace BB := hidIt (BB.out.kept k)
  replace BC := hidIt (BC.out.kept k)
  replace HB := hidIt (on HB.out k)
  have HO1 : Hid (En.Own w1 (w.heap.size + 1 + 1 + 1) (.slice x0 x1 x2) r.1) := hidIt (hO1.mono (by simp))
  have hn3 : w.heap.size ≤ w.heap.size + 1 + 1 + 1 := by omega
  have lt1 : Hid (∀ q, (Value.slice x0 x1 x2).ownBlock = some q → w.heap.size + 1 + 1 < q ∧ w.heap.size + 1 < q) := hidIt (fun q hq => by have := (World.ownsRow.lt HO1.out q hq).1; omega)
  clear hO1 k HE C1
  generalize w.heap.size + 1 + 1 + 1 = n3 at *
  generalize w.heap.size + 1 + 1 = n2 at *
  generalize w.heap.size + 1 = n1 at *
  have a1 := BA.out.c 1 (v := .slice t0 m2 t2) rfl
  have c0 := BC.out.c 0 (v := .slice none 0 0) rfl
  have f0 := BC.out.fr 0
  have BC2 := hidIt (BC.out.put (c' := #[.slice x0 x1 x2, .slice none 0 0]) 0 (.slice x0 x1 x2) (by simp) rfl)
  have BB2 := hidIt (BB.out.other (v := .slice x0 x1 x2) (i := 0) ne4)
  have HB2 := hidIt (HB.out.setCell (p := ⟨n2, 0, none⟩) hle (.slice x0 x1 x2))
  have HO2 := hidIt (En.Own.only (c := n2) HO1.out ((Only.refl _ _).setCell 0 (.slice x0 x1 x2)) (.inr fun q hq e => by have := (lt1.out q hq).1; omega))
  clear BC BB HB HO1
  go_wp2_with (fail)
  generalize w1.setCell ⟨n2, 0, none⟩ (.slice x0 x1 x2) = wa at BC2 BB2 HB2 HO2 ⊢
  refine (C2.out _ (HM.out.kept HB2.out)).mono ?_
  rintro e w3 ⟨v3, rfl, hO3, k⟩
  obtain ⟨⟨y0, y1, y2⟩, rfl⟩ := slM hO3
  have HB3 := hidIt (on HB2.out k)
  have BC3 := hidIt (BC2.out.kept k)
  have BB3 := hidIt (BB2.out.kept k)
  have HO3 := hidIt (HO2.out.kept k)
  have hn2 : n2 < wa.heap.size := BC2.out.lt
  have hn1 : n1 < wa.heap.size := BB2.out.lt
  have lt3 : Hid (∀ q, (Value.slice y0 y1 y2).ownBlock = some q → n2 < q ∧ n1 < q) := hidIt (fun q hq => by have := (World.ownsRow.lt hO3 q hq).1; omega)
  have HM3 : Hid (Mm.Own w3 w.heap.size (.slice y0 y1 y2) r.2) := hidIt (hO3.mono HB2.out.size)
  clear hO3 k HM C2 BC2 BB2 HO2 a1 c0 f0 HB2 BA
  have c0 := BC3.out.c 0 (v := .slice x0 x1 x2) rfl
  have c1 := BC3.out.c 1 (v := .slice none 0 0) rfl
  have f1 := BC3.out.fr 1
  have b0 := BB3.out.c 0 (v := .slice none 0 0) rfl
  have b1 := BB3.out.c 1 (v := .slice none 0 0) rfl
  have g0 := BB3.out.fr 0
  have g1 := BB3.out.fr 1
  have Y1 := hidIt ((Only.refl n2 w3).setCell 1 (.slice y0 y1 y2))
  have HO4 := hidIt (HO3.out.only Y1.out (.inr fun q hq e => by have := (lt1.out q hq).1; omega))
  have HM4 := hidIt (HM3.out.only Y1.out (.inr fun q hq e => by have := (lt3.out q hq).1; omega))
  have Y2 := hidIt (((Only.refl n1 (w3.setCell ⟨n2, 1, none⟩ (.slice y0 y1 y2))).setCell 0 (.slice x0 x1 x2)).setCell 1 (.slice y0 y1 y2))
  have HO5 := hidIt (HO4.out.only Y2.out (.inr fun q hq e => by have := (lt1.out q hq).2; omega))
  have HM5 := hidIt (HM4.out.only Y2.out (.inr fun q hq e => by have := (lt3.out q hq).2; omega))
  have HB4 := hidIt (((HB3.out.setCell (p := ⟨n2, 1, none⟩) hle (.slice y0 y1 y2)).setCell (p := ⟨n1, 0, none⟩) hle1 (.slice x0 x1 x2)).setCell (p := ⟨n1, 1, none⟩) hle1 (.slice y0 y1 y2))
  have RB := hidIt (((BB3.out.other (v := .slice y0 y1 y2) (i := 1) ne4).put (c' := #[.slice x0 x1 x2, .slice none 0 0]) 0 (.slice x0 x1 x2) (by simp) rfl).put (c' := #[.slice x0 x1 x2, .slice y0 y1 y2]) 1 (.slice y0 y1 y2) (by simp) rfl)
  clear HO3 HM3 HO4 HM4 Y1 Y2 HB3 BC3 BB3
  go_wp2_with (fail)
  generalize ((w3.setCell ⟨n2, 1, none⟩ (.slice y0 y1 y2)).setCell ⟨n1, 0, none⟩ (.slice x0 x1 x2)).setCell ⟨n1, 1, none⟩ (.slice y0 y1 y2) = wz at HO5 HM5 HB4 RB ⊢
  have q0 := RB.out.c 0 (v := .slice x0 x1 x2) rfl
  have q1 := RB.out.c 1 (v := .slice y0 y1 y2) rfl
  clear c0 c1 b0 b1 f1 g0 g1
  refine bodyPost_end (v := .agg #[.slice x0 x1 x2, .slice y0 y1 y2]) (by simp [results, Tryz.results41, go_sem, q0, q1]) rfl ?_
  exact TwoP.of (s := (x0, x1, x2)) (t := (y0, y1, y2)) rfl (HO5.out.mono hn3) HM5.out HB4.out
set_option maxRecDepth 100000 in
set_option maxHeartbeats 8000000 in
theorem eq_same (s t s' t' : Sl) (r : Rep) (w : World) (hE : RdE w s r.1) (hM : RdM w t r.2) (hE' : RdE w s' r.1) (hM' : RdM w t' r.2) :
    Calls Tryz.prog 48 #[.agg #[sv s, sv t], .agg #[sv s', sv t']] w fun e w' => e = .returned (.bool true) ∧ Below w.heap.size w w' := by
  obtain ⟨s0, s1, s2⟩ := s
  obtain ⟨t0, t1, t2⟩ := t
  obtain ⟨p0, p1, p2⟩ := s'
  obtain ⟨q0, q1, q2⟩ := t'
  obtain ⟨e1, rE, _, _, cE⟩ := hE
  obtain ⟨e2, rM, _, _, cM⟩ := hM
  obtain ⟨e3, rE', _, _, _⟩ := hE'
  obtain ⟨e4, rM', _, _, _⟩ := hM'
  simp only at e1 rE cE e2 rM cM e3 rE' e4 rM'
  have C1 := hidIt (fun W (k : En.Rd W s0 r.1) (k' : En.Rd W p0 r.1) => En.eqS_same s0 p0 s2 p2 r.1 W k k' (by omega))
  have C2 := hidIt (fun W (k : Mm.Rd W t0 r.2) (k' : Mm.Rd W q0 r.2) => Mm.eqS_same t0 q0 t2 q2 r.2 W k k' (by omega))
  rw [← e3] at e1
  rw [← e4] at e2
  subst e1 e2
  rw [← e3] at C1
  rw [← e4] at C2
  have H1 := hidIt rE
  have H2 := hidIt rM
  have H3 := hidIt rE'
  have H4 := hidIt rM'
  clear rE rM rE' rM' e3 e4 cE cM
  have BA := hidIt ((Bo.Box.new w #[.slice s0 s1 s2, .slice t0 t1 t2] 40).alloc (.cells #[.slice p0 s1 p2, .slice q0 t1 q2] 40))
  have BB : Hid (Bo.Box ((w.alloc (.cells #[.slice s0 s1 s2, .slice t0 t1 t2] 40)).alloc (.cells #[.slice p0 s1 p2, .slice q0 t1 q2] 40)) (w.heap.size + 1) #[.slice p0 s1 p2, .slice q0 t1 q2]) := hidIt (Bo.Box.newAt (by simp))
  have HB := hidIt (((Below.refl w.heap.size w).alloc (Nat.le_refl _) (.cells #[.slice s0 s1 s2, .slice t0 t1 t2] 40)).alloc (by simp) (.cells #[.slice p0 s1 p2, .slice q0 t1 q2] 40))
  go_enter Tryz.func48, Tryz.ntmps48
  go_wp2_with (fail)
  refine (C1.out _ (H1.out.kept HB.out) (H3.out.kept HB.out)).mono ?_
  rintro e w1 ⟨rfl, k1⟩
  have a1 := (BA.out.kept k1).c 1 (v := .slice t0 t1 t2) rfl
  have b1 := (BB.out.kept k1).c 1 (v := .slice q0 t1 q2) rfl
  have HB1 := hidIt (on HB.out k1)
  clear k1 BA BB HB
  go_wp2_with (fail)
  refine (C2.out _ (H2.out.kept HB1.out) (H4.out.kept HB1.out)).mono ?_
  rintro e w2 ⟨rfl, k2⟩
  have HB2 := hidIt (on HB1.out k2)
  clear k2
  go_wp2_with (fail)
  go_ret
  exact ⟨rfl, HB2.out⟩
end Go.Proofs.YtceddedlfdgbhaaGreatDoor.Rp
namespace Go.Proofs.YtceddedlfdgbhaaGreatDoor.Rp
open Go.ChangeShapes Go.WideShapes Go.ChangeAt Go.RowKit
open Go.Proofs.YtceddedlfdgbhaaGreatDoor.Vv (Sl sv hidIt)
set_option linter.unusedVariables false
/-- A Replica that is right. -/
def okR (r : Rep) : Bool := Bk.okBk (En.toB r.1) && Mk.okBk (Mm.toB r.2)
end Go.Proofs.YtceddedlfdgbhaaGreatDoor.Rp
namespace Go.Proofs.YtceddedlfdgbhaaGreatDoor.Nd
open Go.ChangeShapes Go.WideShapes Go.ChangeAt Go.RowKit
open Go.Proofs.YtceddedlfdgbhaaGreatDoor.Vv (Sl sv hidIt)
set_option linter.unusedVariables false
/-- A Node in plain words. -/
structure Nw where
  book : List En.Rw
  mem : List Mm.Rw
  ph : Int
  mn : Int
  ol : Int
  nw : Int
  tm : Int
  buc : List Bu.Rw
  log : List Lg.Ln
  apex : ByteArray
structure RdB (w : World) (s : Sl) (L : List Bu.Rw) : Prop where
  len : s.2.1 = L.length
  rd : Bu.Rd w s.1 L
  na : s.1 = none → s.2.2 = 0
  le : L.length ≤ s.2.2
  cap : s.2.2 ≤ 9223372036854775807
structure RdG (w : World) (s : Sl) (L : List Lg.Ln) : Prop where
  len : s.2.1 = L.length
  rd : Lg.Rd w s.1 L
  le : L.length ≤ s.2.2
  cap : s.2.2 ≤ 9223372036854775807
theorem RdB.kept {w w' : World} {s : Sl} {L : List Bu.Rw} (h : RdB w s L) (k : Below w.heap.size w w') : RdB w' s L := ⟨h.len, h.rd.kept k, h.na, h.le, h.cap⟩
theorem RdG.kept {w w' : World} {s : Sl} {L : List Lg.Ln} (h : RdG w s L) (k : Below w.heap.size w w') : RdG w' s L := ⟨h.len, h.rd.kept k, h.le, h.cap⟩
theorem rdB_of {w : World} {base : Nat} {s : Sl} {L : List Bu.Rw} (h : Bu.Own w base (sv s) L) : RdB w s L := by
  obtain ⟨a, c, e, h1, h2, r, h4, _⟩ := h.form
  obtain ⟨s0, s1, s2⟩ := s
  simp only [sv, Value.slice.injEq] at e
  obtain ⟨rfl, rfl, rfl⟩ := e
  exact ⟨rfl, r, h4, h1, h2⟩
theorem rdG_of {w : World} {base : Nat} {s : Sl} {L : List Lg.Ln} (h : Lg.Own w base (sv s) L) : RdG w s L := by
  obtain ⟨a, c, e, h1, h2, r, h4, _⟩ := h.form
  obtain ⟨s0, s1, s2⟩ := s
  simp only [sv, Value.slice.injEq] at e
  obtain ⟨rfl, rfl, rfl⟩ := e
  exact ⟨rfl, r, h1, h2⟩
theorem slB {w : World} {base : Nat} {v : Value} {L : List Bu.Rw} (h : Bu.Own w base v L) : ∃ s : Sl, v = sv s := by
  obtain ⟨a, c, e, _⟩ := h.form
  exact ⟨(a, L.length, c), e⟩
theorem slG {w : World} {base : Nat} {v : Value} {L : List Lg.Ln} (h : Lg.Own w base v L) : ∃ s : Sl, v = sv s := by
  obtain ⟨a, c, e, _⟩ := h.form
  exact ⟨(a, L.length, c), e⟩
/-- A Node whose lists lie at four slices. -/
structure RdN (w : World) (x : Nw) (e m b g : Sl) : Prop where
  e : Rp.RdE w e x.book
  m : Rp.RdM w m x.mem
  b : RdB w b x.buc
  g : RdG w g x.log
theorem RdN.kept {w w' : World} {x : Nw} {e m b g : Sl} (h : RdN w x e m b g) (k : Below w.heap.size w w') : RdN w' x e m b g := ⟨h.e.kept k, h.m.kept k, h.b.kept k, h.g.kept k⟩
abbrev nc (x : Nw) (e m b g : Sl) : Array Value := #[sv e, sv m, .int .i64 x.ph, .int .i64 x.mn, .int .i64 x.ol, .int .i64 x.nw, .int .i64 x.tm, sv b, sv g, .string x.apex]
abbrev nv (x : Nw) (e m b g : Sl) : Value := .agg (nc x e m b g)
/-- The lists of a Node of the call's own. -/
structure OwnN (w : World) (base : Nat) (x : Nw) (e m b g : Sl) : Prop where
  e : En.Own w base (sv e) x.book
  m : Mm.Own w base (sv m) x.mem
  b : Bu.Own w base (sv b) x.buc
  g : Lg.Own w base (sv g) x.log
theorem OwnN.rd {w : World} {base : Nat} {x : Nw} {e m b g : Sl} (h : OwnN w base x e m b g) : RdN w x e m b g := ⟨Rp.rdE_of h.e, Rp.rdM_of h.m, rdB_of h.b, rdG_of h.g⟩
theorem OwnN.kept {w w' : World} {base : Nat} {x : Nw} {e m b g : Sl} (h : OwnN w base x e m b g) (k : Below w.heap.size w w') : OwnN w' base x e m b g := ⟨h.e.kept k, h.m.kept k, h.b.kept k, h.g.kept k⟩
/-- No text of it is longer than a text may be. -/
structure ShortN (x : Nw) : Prop where
  e : En.shortR x.book
  g : ∀ i, i < x.log.length → (Lg.lat x.log i).1.size ≤ 9223372036854775807
  ap : x.apex.size ≤ 9223372036854775807
/-- It is not too great. -/
structure SmallN (x : Nw) : Prop where
  e : x.book.length ≤ 1048576
  m : x.mem.length ≤ 1048576
  b : x.buc.length ≤ 1048576
  g : x.log.length ≤ 1048576
  ap : x.apex.size ≤ 1048576
structure Le3 (x : Nw) (q l : Int) : Prop where
  le : q ≤ l
  sm : 0 ≤ q → SmallN x
def NodP (w : World) (x : Nw) (en : Ending) (w' : World) : Prop := ∃ e m b g : Sl, en = .returned (nv x e m b g) ∧ OwnN w' w.heap.size x e m b g ∧ Below w.heap.size w w'
theorem NodP.of {w w' : World} {x : Nw} {en : Ending} {e m b g : Sl} (h : en = .returned (nv x e m b g)) (h1 : OwnN w' w.heap.size x e m b g) (h2 : Below w.heap.size w w') : NodP w x en w' := ⟨e, m, b, g, h, h1, h2⟩
theorem NodP.out {w w' : World} {x : Nw} {en : Ending} (h : NodP w x en w') : ∃ e m b g : Sl, en = .returned (nv x e m b g) ∧ OwnN w' w.heap.size x e m b g ∧ Below w.heap.size w w' := h
/-- NodeOk in plain words. -/
def okN (x : Nw) : Bool := Bk.okBk (En.toB x.book) && (Mk.okBk (Mm.toB x.mem) && (Ro.rollOk x.ph x.mn x.ol x.nw x.tm && (Bu.okB x.buc && (Lg.okL x.log && apexB x.apex))))
end Go.Proofs.YtceddedlfdgbhaaGreatDoor.Nd
