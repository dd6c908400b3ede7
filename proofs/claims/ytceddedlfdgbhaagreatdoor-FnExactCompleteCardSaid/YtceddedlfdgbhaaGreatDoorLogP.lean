/-
  A log in numbers: a list of texts and Sums; when it is one; how it lies in memory: two cells a Line.
-/
import Derived.Test.YtceddedlfdgbhaaGreatDoorSignH
import Derived.Laws.OwnMore
namespace Go.Proofs.YtceddedlfdgbhaaGreatDoor.Lg
open Go.ChangeShapes Go.WideShapes Go.ChangeAt Go.RowKit
open Sg
/-- A Line: its text and its Sum. -/
abbrev Ln := ByteArray × Int
def lat (L : List Ln) (i : Nat) : Ln := L.getD i (ByteArray.empty, 0)
/-- What a Line's Sum must be: the hash of the Sum ahead as a number, a blank, and the text. -/
def sumN (n : Nat) (s : ByteArray) : Nat := hashN (nums (numS n ++ Sg.blank ++ s))
theorem sumN_lt (n : Nat) (s : ByteArray) : sumN n s < 2147483647 := hashN_lt _
/-- The Sum ahead of Line i. -/
def prev (L : List Ln) : Nat → Nat
  | 0 => 0
  | k + 1 => (lat L k).2.toNat
theorem prev_zero (L : List Ln) : prev L 0 = 0 := rfl
theorem prev_succ (L : List Ln) (k : Nat) : prev L (k + 1) = (lat L k).2.toNat := rfl
def Good (L : List Ln) (i : Nat) : Prop := (lat L i).1.size ≤ 100 ∧ (lat L i).2 = (sumN (prev L i) (lat L i).1 : Int)
def LogIs (L : List Ln) : Prop := L.length ≤ 300 ∧ ∀ i, i < L.length → Good L i
def goodB (L : List Ln) (i : Nat) : Bool := decide ((lat L i).1.size ≤ 100) && decide ((lat L i).2 = (sumN (prev L i) (lat L i).1 : Int))
def okL (L : List Ln) : Bool := decide (L.length ≤ 300) && (List.range L.length).all (goodB L)
theorem goodB_iff (L : List Ln) (i : Nat) : goodB L i = true ↔ Good L i := by
  unfold goodB Good
  rw [Bool.and_eq_true, decide_eq_true_iff, decide_eq_true_iff]
theorem okL_iff (L : List Ln) : okL L = true ↔ LogIs L := by
  unfold okL LogIs
  rw [Bool.and_eq_true, decide_eq_true_iff, List.all_eq_true]
  exact ⟨fun h => ⟨h.1, fun i hi => (goodB_iff L i).1 (h.2 i (List.mem_range.2 hi))⟩, fun h => ⟨h.1, fun i hi => (goodB_iff L i).2 (h.2 i (List.mem_range.1 hi))⟩⟩
theorem okL_true {L : List Ln} (h : LogIs L) : okL L = true := (okL_iff L).2 h
theorem okL_false {L : List Ln} (h : ¬ LogIs L) : okL L = false := by
  cases e : okL L with
  | false => rfl
  | true => exact absurd ((okL_iff L).1 e) h
theorem of_okL {L : List Ln} (h : okL L = true) : LogIs L := (okL_iff L).1 h
theorem not_okL {L : List Ln} (h : okL L = false) : ¬ LogIs L := fun k => by rw [okL_true k] at h; cases h
/-- The last Sum, 0 of none. -/
def headL (L : List Ln) : Int := match L.length with
  | 0 => 0
  | k + 1 => (lat L k).2
theorem headL_nil : headL [] = 0 := rfl
theorem headL_len {L : List Ln} {k : Nat} (h : L.length = k + 1) : headL L = (lat L k).2 := by unfold headL; rw [h]
theorem lat_take {L : List Ln} {n i : Nat} (h : i < n) : lat (L.take n) i = lat L i := by
  unfold lat
  rw [List.getD_eq_getElem?_getD, List.getD_eq_getElem?_getD, List.getElem?_take, if_pos h]
theorem lat_append_left {L M : List Ln} {i : Nat} (h : i < L.length) : lat (L ++ M) i = lat L i := by
  unfold lat
  rw [List.getD_eq_getElem?_getD, List.getD_eq_getElem?_getD, List.getElem?_append_left h]
theorem lat_append_at {L : List Ln} {x : Ln} : lat (L ++ [x]) L.length = x := by
  unfold lat
  rw [List.getD_eq_getElem?_getD, List.getElem?_append_right (Nat.le_refl _)]
  simp
theorem lat_set {L : List Ln} {i j : Nat} {x : Ln} (h : i < L.length) : lat (L.set i x) j = if i = j then x else lat L j := by
  unfold lat
  rw [List.getD_eq_getElem?_getD, List.getD_eq_getElem?_getD, List.getElem?_set]
  by_cases e : i = j
  · subst e; simp [h]
  · simp [e]
theorem lat_getElem? {L : List Ln} {i : Nat} (h : i < L.length) : L[i]? = some (lat L i) := by
  unfold lat
  rw [List.getD_eq_getElem?_getD, List.getElem?_eq_getElem h]; rfl
theorem ext_lat {L M : List Ln} (h : L.length = M.length) (e : ∀ i, i < L.length → lat L i = lat M i) : L = M := by
  apply List.ext_getElem? ; intro i
  by_cases hi : i < L.length
  · rw [lat_getElem? hi, lat_getElem? (by omega), e i hi]
  · rw [List.getElem?_eq_none (by omega), List.getElem?_eq_none (by omega)]
/-- As long as all Lines ahead are right, the Sum ahead is a hash, or 0. -/
theorem prev_lt {L : List Ln} {i : Nat} (h : ∀ j, j < i → Good L j) : prev L i < 2147483647 := by
  cases i with
  | zero => rw [prev_zero]; omega
  | succ k =>
    rw [prev_succ, (h k (by omega)).2]
    have := sumN_lt (prev L k) (lat L k).1
    omega
theorem prev_cast {L : List Ln} {i : Nat} (h : ∀ j, j < i → Good L j) : headL (L.take i) = (prev L i : Int) ∨ L.length < i := by
  by_cases hl : L.length < i
  · exact .inr hl
  · left
    cases i with
    | zero => rfl
    | succ k =>
      rw [headL_len (k := k) (by rw [List.length_take]; omega), lat_take (by omega), prev_succ, (h k (by omega)).2]
      omega
theorem head_prev {L : List Ln} (h : LogIs L) : headL L = (prev L L.length : Int) := by
  rcases prev_cast (i := L.length) (fun j hj => h.2 j hj) with e | e
  · rwa [List.take_length] at e
  · omega
theorem logIs_cut {L : List Ln} {i : Nat} (hi : i < L.length) (h : ¬ Good L i) : ¬ LogIs L := fun k => h (k.2 i hi)
/-- The cells of a list. -/
def lcells : List Ln → List Value
  | [] => []
  | x :: r => .string x.1 :: .int .i64 x.2 :: lcells r
theorem lcells_nil : lcells [] = [] := rfl
theorem lcells_cons (x : Ln) (r : List Ln) : lcells (x :: r) = .string x.1 :: .int .i64 x.2 :: lcells r := rfl
theorem lcells_length (L : List Ln) : (lcells L).length = L.length * 2 := by
  induction L with
  | nil => rfl
  | cons x r ih => rw [lcells_cons, List.length_cons, List.length_cons, ih, List.length_cons]; omega
theorem lcells_append (L M : List Ln) : lcells (L ++ M) = lcells L ++ lcells M := by
  induction L with
  | nil => rfl
  | cons x r ih => rw [List.cons_append, lcells_cons, lcells_cons, ih]; rfl
theorem lcells_text (L : List Ln) : ∀ i, i < L.length → (lcells L)[i * 2]? = some (.string (lat L i).1) := by
  induction L with
  | nil => intro i hi; simp at hi
  | cons x r ih =>
    intro i hi
    cases i with
    | zero => rfl
    | succ k =>
      rw [lcells_cons, show (k + 1) * 2 = k * 2 + 1 + 1 from by omega, List.getElem?_cons_succ, List.getElem?_cons_succ, ih k (by simp at hi; omega)]
      rfl
theorem lcells_sum (L : List Ln) : ∀ i, i < L.length → (lcells L)[i * 2 + 1]? = some (.int .i64 (lat L i).2) := by
  induction L with
  | nil => intro i hi; simp at hi
  | cons x r ih =>
    intro i hi
    cases i with
    | zero => rfl
    | succ k =>
      rw [lcells_cons, show (k + 1) * 2 + 1 = k * 2 + 1 + 1 + 1 from by omega, List.getElem?_cons_succ, List.getElem?_cons_succ, ih k (by simp at hi; omega)]
      rfl
theorem lcells_set_text (L : List Ln) (s : ByteArray) : ∀ i, i < L.length → (lcells L).set (i * 2) (.string s) = lcells (L.set i (s, (lat L i).2)) := by
  induction L with
  | nil => intro i hi; simp at hi
  | cons x r ih =>
    intro i hi
    cases i with
    | zero => rfl
    | succ k =>
      rw [lcells_cons, show (k + 1) * 2 = k * 2 + 1 + 1 from by omega, List.set_cons_succ, List.set_cons_succ, ih k (by simp at hi; omega)]
      rfl
theorem lcells_set_sum (L : List Ln) (n : Int) : ∀ i, i < L.length → (lcells L).set (i * 2 + 1) (.int .i64 n) = lcells (L.set i ((lat L i).1, n)) := by
  induction L with
  | nil => intro i hi; simp at hi
  | cons x r ih =>
    intro i hi
    cases i with
    | zero => rfl
    | succ k =>
      rw [lcells_cons, show (k + 1) * 2 + 1 = k * 2 + 1 + 1 + 1 from by omega, List.set_cons_succ, List.set_cons_succ, ih k (by simp at hi; omega)]
      rfl
theorem lcells_one (L : List Ln) : ∀ u ∈ lcells L, u.oneCell' = true := by
  induction L with
  | nil => intro u hu; cases hu
  | cons x r ih =>
    intro u hu
    rw [lcells_cons] at hu
    rcases List.mem_cons.1 hu with rfl | hu
    · rfl
    rcases List.mem_cons.1 hu with rfl | hu
    · rfl
    exact ih u hu
theorem lat_zero (n i : Nat) : lat (List.replicate n (ByteArray.empty, 0)) i = (ByteArray.empty, 0) := by
  unfold lat
  rw [List.getD_eq_getElem?_getD, List.getElem?_replicate]
  split <;> rfl
theorem lcells_zero (n : Nat) : lcells (List.replicate n (ByteArray.empty, 0)) = (madeCells #[.string ByteArray.empty, .int .i64 0] (n * 2)).toList := by
  apply List.ext_getElem?
  intro j
  rcases Nat.lt_or_ge j (n * 2) with hj | hj
  · have h2 : j / 2 < (List.replicate n ((ByteArray.empty, 0) : Ln)).length := by simp; omega
    rcases Nat.mod_two_eq_zero_or_one j with e | e
    · have := lcells_text _ _ h2
      rw [show j / 2 * 2 = j from by omega] at this
      rw [this, lat_zero]
      simp [madeCells, hj, e]
    · have := lcells_sum _ _ h2
      rw [show j / 2 * 2 + 1 = j from by omega] at this
      rw [this, lat_zero]
      simp [madeCells, hj, e]
  · rw [List.getElem?_eq_none (by rw [lcells_length]; simp; omega), List.getElem?_eq_none (by simp [madeCells]; omega)]
/-- A slice at address a reads as the list L. -/
structure Rd (w : World) (a : Option Addr) (L : List Ln) : Prop where
  cell : ∀ i, i < L.length → ∃ b off, a = some ⟨b, off, none⟩ ∧ w.cell? ⟨b, off + i * 2, none⟩ = some (.string (lat L i).1) ∧ w.cell? ⟨b, off + i * 2 + 1, none⟩ = some (.int .i64 (lat L i).2)
theorem cell_block {w : World} {b o : Nat} {v : Value} (h : w.cell? ⟨b, o, none⟩ = some v) : b < w.heap.size := World.block_lt_of_cell? w ⟨b, o, none⟩ h
theorem Rd.kept {w w' : World} {a : Option Addr} {L : List Ln} (h : Rd w a L) (k : Below w.heap.size w w') : Rd w' a L :=
  ⟨fun i hi => by
    obtain ⟨b, off, e, c0, c1⟩ := h.cell i hi
    exact ⟨b, off, e, by rw [k.cell (by simpa using cell_block c0)]; exact c0, by rw [k.cell (by simpa using cell_block c1)]; exact c1⟩⟩
theorem Rd.alloc {w : World} {a : Option Addr} {L : List Ln} (h : Rd w a L) (o : Obj) : Rd (w.alloc o) a L := h.kept ((Below.refl _ _).alloc (Nat.le_refl _) o)
theorem Rd.drew {w : World} {a : Option Addr} {L : List Ln} (h : Rd w a L) : Rd w.drew a L := ⟨h.cell⟩
theorem Rd.take {w : World} {a : Option Addr} {L : List Ln} (h : Rd w a L) (n : Nat) : Rd w a (L.take n) :=
  ⟨fun i hi => by
    rw [List.length_take] at hi
    rw [lat_take (by omega)]
    exact h.cell i (by omega)⟩
theorem Rd.nil (w : World) (a : Option Addr) : Rd w a [] := ⟨fun i hi => by simp at hi⟩
/-- The slice v owns the Lines L in a row of the call's own. -/
def Own (w : World) (base : Nat) (v : Value) (L : List Ln) : Prop := w.ownsRow base 67 2 v L.length (lcells L)
theorem Own.form {w : World} {base : Nat} {v : Value} {L : List Ln} (h : Own w base v L) : ∃ a cap, v = .slice a L.length cap ∧ L.length ≤ cap ∧ cap ≤ maxLen ∧ Rd w a L ∧ (a = none → cap = 0) ∧ (∀ x, a = some x → ∃ g, x = ⟨g, 0, none⟩ ∧ base ≤ g ∧ g < w.heap.size) := by
  have h' := h
  rcases h.2 with ⟨rfl, h0⟩ | ⟨g, cap, cur, rfl, hb, hg, hn, hm, rest⟩
  · exact ⟨none, 0, by rw [h0], by omega, by decide, ⟨fun i hi => by omega⟩, fun _ => rfl, fun x hx => by cases hx⟩
  · refine ⟨some ⟨g, 0, none⟩, cap, rfl, hn, hm, ⟨fun i hi => ⟨g, 0, rfl, ?_, ?_⟩⟩, (fun e => by cases e), fun x hx => ⟨g, by cases hx; rfl, hb, (Array.getElem?_eq_some_iff.1 hg).1⟩⟩
    · rw [Nat.zero_add, World.ownsRow.cellAt h' _ (by omega), lcells_text _ _ hi]
    · rw [Nat.zero_add, World.ownsRow.cellAt h' _ (by omega), lcells_sum _ _ hi]
theorem Own.kept {w w' : World} {base : Nat} {v : Value} {L : List Ln} (h : Own w base v L) (k : Below w.heap.size w w') : Own w' base v L :=
  World.ownsRow.kept (row := none) h ⟨k.os, k.tape, k.output, k.size, fun i hi _ => k.block i hi⟩ (by cases v.ownBlock <;> simp)
theorem Own.alloc {w : World} {base : Nat} {v : Value} {L : List Ln} (h : Own w base v L) (o : Obj) : Own (w.alloc o) base v L := World.ownsRow.alloc h o
theorem Own.only {w w' : World} {base c : Nat} {v : Value} {L : List Ln} (h : Own w base v L) (k : Only c w w') (hc : c < base ∨ ∀ g, v.ownBlock = some g → g ≠ c) : Own w' base v L := by
  refine World.ownsRow.kept h (row := some c) ⟨k.os, k.tape, k.output, k.size, fun i hi hne => k.block i hi (fun e => hne (by rw [e]))⟩ ?_
  cases hv : v.ownBlock with
  | none => exact .inl rfl
  | some g =>
    refine .inr (fun e => ?_)
    cases e
    rcases hc with hc | hc
    · have := (World.ownsRow.lt h _ hv).1; omega
    · exact hc _ hv rfl
theorem Own.mono {w : World} {base b' : Nat} {v : Value} {L : List Ln} (h : Own w base v L) (hb : b' ≤ base) : Own w b' v L := by
  refine ⟨h.1, ?_⟩
  rcases h.2 with h0 | ⟨g, cap, cur, e, hb', r⟩
  · exact .inl h0
  · exact .inr ⟨g, cap, cur, e, by omega, r⟩
theorem Own.new (w : World) : Own (w.alloc (.cells #[] 67)) w.heap.size (.slice (some ⟨w.heap.size, 0, none⟩) 0 0) [] :=
  World.ownsRow_made w #[] 0 (Nat.le_refl _) (by decide) rfl
/-- A store into the text or the Sum of Line i. -/
theorem Own.text {w : World} {base g n cap i : Nat} {L : List Ln} (h : Own w base (.slice (some ⟨g, 0, none⟩) n cap) L) (hi : i < L.length) (s : ByteArray) :
    Own (w.setCell ⟨g, i * 2, none⟩ (.string s)) base (.slice (some ⟨g, 0, none⟩) n cap) (L.set i (s, (lat L i).2)) := by
  obtain ⟨a, c', e, _⟩ := h.form
  cases e
  have := (World.ownsRow.stored h (i * 2) (.string s)).1
  rw [lcells_set_text _ _ _ hi] at this
  unfold Own
  rw [List.length_set]
  exact this
theorem Own.sum {w : World} {base g n cap i : Nat} {L : List Ln} (h : Own w base (.slice (some ⟨g, 0, none⟩) n cap) L) (hi : i < L.length) (x : Int) :
    Own (w.setCell ⟨g, i * 2 + 1, none⟩ (.int .i64 x)) base (.slice (some ⟨g, 0, none⟩) n cap) (L.set i ((lat L i).1, x)) := by
  obtain ⟨a, c', e, _⟩ := h.form
  cases e
  have := (World.ownsRow.stored h (i * 2 + 1) (.int .i64 x)).1
  rw [lcells_set_sum _ _ _ hi] at this
  unfold Own
  rw [List.length_set]
  exact this
theorem Own.free {w : World} {base g n cap : Nat} {L : List Ln} (h : Own w base (.slice (some ⟨g, 0, none⟩) n cap) L) (j : Nat) : w.frozen? ⟨g, j, none⟩ = false := by
  obtain ⟨a, c', e, _⟩ := h.form
  cases e
  exact World.ownsRow.frozenAt h j
theorem Own.at {w : World} {base g n cap i : Nat} {L : List Ln} (h : Own w base (.slice (some ⟨g, 0, none⟩) n cap) L) (hi : i < L.length) :
    w.cell? ⟨g, i * 2, none⟩ = some (.string (lat L i).1) ∧ w.cell? ⟨g, i * 2 + 1, none⟩ = some (.int .i64 (lat L i).2) ∧ w.frozen? ⟨g, i * 2, none⟩ = false ∧ w.frozen? ⟨g, i * 2 + 1, none⟩ = false := by
  obtain ⟨a', c', e1, _, _, r, _⟩ := h.form
  cases e1
  obtain ⟨b', o', e2, k0, k1⟩ := r.cell i hi
  cases e2
  exact ⟨by simpa using k0, by simpa using k1, h.free _, h.free _⟩
theorem Own.line {w : World} {base g n cap i : Nat} {L : List Ln} (h : Own w base (.slice (some ⟨g, 0, none⟩) n cap) L) (hi : i < L.length) (s : ByteArray) (x : Int) :
    Own ((w.setCell ⟨g, i * 2, none⟩ (.string s)).setCell ⟨g, i * 2 + 1, none⟩ (.int .i64 x)) base (.slice (some ⟨g, 0, none⟩) n cap) (L.set i (s, x)) := by
  have := (h.text hi s).sum (i := i) (by rw [List.length_set]; exact hi) x
  rw [lat_set hi, if_pos rfl, List.set_set] at this
  exact this
end Go.Proofs.YtceddedlfdgbhaaGreatDoor.Lg
