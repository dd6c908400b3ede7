/-
  Noted of the program and of the specification: what is noted on a log.
-/
import Derived.Test.YtgbnkkjjgodilaaLogT
import Derived.Deep.RegionLawGrows
import Derived.ArgAppend
import Derived.Laws.CopyOwn
import Derived.Laws.AppendOwnNone
namespace Go.Proofs.Ytgbnkkjjgodilaa.Lg
open Go.ChangeShapes Go.WideShapes Go.ChangeAt Go.RowKit
open Sg
set_option linter.unusedVariables false
/-- The cells of a list that is read, one by one. -/
theorem Rd.cells {w : World} {x : Addr} {L : List Ln} (h : Rd w (some x) L) : ∀ j u, (lcells L)[j]? = some u → w.cell? (x.add j) = some u := by
  intro j u hj
  have hlt : j < L.length * 2 := by
    rcases Nat.lt_or_ge j (L.length * 2) with h | h
    · exact h
    · rw [List.getElem?_eq_none (by rw [lcells_length]; exact h)] at hj; cases hj
  obtain ⟨b, off, e, c0, c1⟩ := h.cell (j / 2) (by omega)
  cases e
  rw [Go.WideShapes.add_plain]
  rcases Nat.mod_two_eq_zero_or_one j with e | e
  · have := lcells_text L (j / 2) (by omega)
    rw [show j / 2 * 2 = j from by omega] at this c0
    rw [this] at hj
    cases hj
    exact c0
  · have := lcells_sum L (j / 2) (by omega)
    rw [show j / 2 * 2 + 1 = j from by omega] at this
    rw [show off + j / 2 * 2 + 1 = off + j from by omega] at c1
    rw [this] at hj
    cases hj
    exact c1
theorem Rd.holds {w : World} {a : Option Addr} {L : List Ln} (h : Rd w a L) : ∀ b, a = some b → ∀ j u, (lcells L)[j]? = some u → w.cell? (b.add j) = some u := by
  intro b e
  subst e
  exact h.cells
theorem Rd.one {w : World} {b : Nat} {s : ByteArray} {q : Int} (h0 : w.cell? ⟨b, 0, none⟩ = some (.string s)) (h1 : w.cell? ⟨b, 1, none⟩ = some (.int .i64 q)) : Rd w (some ⟨b, 0, none⟩) [(s, q)] :=
  ⟨fun i hi => by
    have e : i = 0 := by simp at hi; exact hi
    subst e
    exact ⟨b, 0, rfl, h0, h1⟩⟩
theorem Rd.fresh (w : World) (s : ByteArray) (q : Int) (T : TypeId) : Rd (w.alloc (.cells #[.string s, .int .i64 q] T)) (some ⟨w.heap.size, 0, none⟩) [(s, q)] := Rd.one (by simp) (by simp)
theorem Own.of_append {w : World} {base : Nat} {v : Value} {L : List Ln} {s : ByteArray} {q : Int} {n : Nat} (hn : L.length = n) (h : w.ownsRow base 71 2 v (n + 1) (lcells L ++ [.string s, .int .i64 q])) : Own w base v (L ++ [(s, q)]) := by
  unfold Own
  rw [List.length_append, lcells_append, hn]
  exact h
theorem Rd.none_nil {w : World} {L : List Ln} (h : Rd w none L) : L = [] := by
  cases L with
  | nil => rfl
  | cons x r => obtain ⟨b, off, e, _⟩ := h.cell 0 (by simp); cases e
theorem setRow_only {w : World} {g : Nat} (cs : Array Value) : Only g w (w.setRow g cs) :=
  ⟨rfl, rfl, rfl, by simp [World.setRow], fun k _ hk => setRow_other w g k cs hk⟩
/-- copy of a list onto a row of the call's own that is as long. -/
theorem run_copy_lines {w : World} {base g dcap cap n : Nat} {a : Option Addr} {L M : List Ln} (ty : TypeId) (hn : L.length = n) (hm : M.length = n) (hO : Own w base (.slice (some ⟨g, 0, none⟩) n dcap) M) (h : Rd w a L) :
    ∃ w', (Builtin.copy_ #[40, 40] ty #[.slice (some ⟨g, 0, none⟩) n dcap, .slice a n cap]).run Try.prog w = .ok (goInt n) w' ∧ Own w' base (.slice (some ⟨g, 0, none⟩) n dcap) L ∧ Only g w w' := by
  obtain ⟨i0, hi, hz0, hz1, hz2⟩ := info_parts infoLn
  subst hn
  cases a with
  | none =>
    have e := h.none_nil
    subst e
    have e := List.eq_nil_of_length_eq_zero hm
    subst e
    exact ⟨w, by simp [Builtin.copy_, run_underlying Try.underlying40, Builtin.lenOf, Builtin.firstCells, sizeOf, typeInfo, hi, storeCells], hO, Only.refl _ _⟩
  | some x =>
    rcases hO.2 with ⟨e, _⟩ | ⟨g', cap', cur, e, hb, hg, hnc, hcm, hsz, htk⟩
    · cases e
    · simp only [Value.slice.injEq, Option.some.injEq, Addr.mk.injEq, and_true] at e
      obtain ⟨rfl, hML, rfl⟩ := e
      have hl := run_firstCells_some (P := Try.prog) w 2 L.length x L.length cap (lcells L) (lcells_length L) h.cells
      have hst := run_storeCells_at Try.prog g 0 71 (lcells L) 0 cur w hg (by rw [lcells_length, hsz]; omega) (lcells_one L)
      simp only [Nat.add_zero, Nat.zero_add, List.take_zero, List.nil_append] at hst
      refine ⟨w.setRow g (lcells L ++ List.drop (lcells L).length cur.toList).toArray, ?_, ?_, setRow_only _⟩
      · simp [Builtin.copy_, run_underlying Try.underlying40, Builtin.lenOf, sizeOf, typeInfo, hi, hz1, hl, hst]
      · refine ⟨lcells_length L, .inr ⟨g, dcap, _, rfl, hb, setRow_heap w g _ _ _ _ hg, by omega, hcm, ?_, ?_⟩⟩
        · simp [lcells_length, hsz]; omega
        · simp [← lcells_length]
end Go.Proofs.Ytgbnkkjjgodilaa.Lg
