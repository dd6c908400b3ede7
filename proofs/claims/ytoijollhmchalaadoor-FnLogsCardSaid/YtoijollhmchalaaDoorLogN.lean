/-
  Noted of the program and of the specification: what is noted on a log.
-/
import Derived.Test.YtoijollhmchalaaDoorLogT
import Derived.Deep.RegionLawGrows
import Derived.ArgAppend
import Derived.Laws.CopyOwn
import Derived.Laws.AppendOwnNone
namespace Go.Proofs.YtoijollhmchalaaDoor.Lg
open Go.ChangeShapes Go.WideShapes Go.ChangeAt Go.RowKit
open Sg
set_option linter.unusedVariables false
/-- The cells of a list that is read, one by one. -/
theorem Rd.cells {w : World} {x : Addr} {L : List Ln} (h : Rd w (some x) L) : ∀ j u, (lcells L)[j]? = some u → w.cell? (x.add j) = some u := by
  intro j u hj
  have hlt : j < L.length * 2 := by
    rcases Nat.lt_or_ge j (L.length * 2) with h | h
    · exact h
    · rw [List.getElem?_eq_none (by rw [lcells_length]; exact h)] at hj; cases hj
  obtain ⟨b, off, e, c0, c1⟩ := h.cell (j / 2) (by omega)
  cases e
  rw [Go.WideShapes.add_plain]
  rcases Nat.mod_two_eq_zero_or_one j with e | e
  · have := lcells_text L (j / 2) (by omega)
    rw [show j / 2 * 2 = j from by omega] at this c0
    rw [this] at hj
    cases hj
    exact c0
  · have := lcells_sum L (j / 2) (by omega)
    rw [show j / 2 * 2 + 1 = j from by omega] at this
    rw [show off + j / 2 * 2 + 1 = off + j from by omega] at c1
    rw [this] at hj
    cases hj
    exact c1
theorem Rd.holds {w : World} {a : Option Addr} {L : List Ln} (h : Rd w a L) : ∀ b, a = some b → ∀ j u, (lcells L)[j]? = some u → w.cell? (b.add j) = some u := by
  intro b e
  subst e
  exact h.cells
theorem Rd.one {w : World} {b : Nat} {s : ByteArray} {q : Int} (h0 : w.cell? ⟨b, 0, none⟩ = some (.string s)) (h1 : w.cell? ⟨b, 1, none⟩ = some (.int .i64 q)) : Rd w (some ⟨b, 0, none⟩) [(s, q)] :=
  ⟨fun i hi => by
    have e : i = 0 := by simp at hi; exact hi
    subst e
    exact ⟨b, 0, rfl, h0, h1⟩⟩
theorem Rd.fresh (w : World) (s : ByteArray) (q : Int) (T : TypeId) : Rd (w.alloc (.cells #[.string s, .int .i64 q] T)) (some ⟨w.heap.size, 0, none⟩) [(s, q)] := Rd.one (by simp) (by simp)
theorem Own.of_append {w : World} {base : Nat} {v : Value} {L : List Ln} {s : ByteArray} {q : Int} {n : Nat} (hn : L.length = n) (h : w.ownsRow base 36 2 v (n + 1) (lcells L ++ [.string s, .int .i64 q])) : Own w base v (L ++ [(s, q)]) := by
  unfold Own
  rw [List.length_append, lcells_append, hn]
  exact h
theorem Rd.none_nil {w : World} {L : List Ln} (h : Rd w none L) : L = [] := by
  cases L with
  | nil => rfl
  | cons x r => obtain ⟨b, off, e, _⟩ := h.cell 0 (by simp); cases e
theorem setRow_only {w : World} {g : Nat} (cs : Array Value) : Only g w (w.setRow g cs) :=
  ⟨rfl, rfl, rfl, by simp [World.setRow], fun k _ hk => setRow_other w g k cs hk⟩
/-- copy of a list onto a row of the call's own that is as long. -/
theorem run_copy_lines {w : World} {base g dcap cap n : Nat} {a : Option Addr} {L M : List Ln} (ty : TypeId) (hn : L.length = n) (hm : M.length = n) (hO : Own w base (.slice (some ⟨g, 0, none⟩) n dcap) M) (h : Rd w a L) :
    ∃ w', (Builtin.copy_ #[24, 24] ty #[.slice (some ⟨g, 0, none⟩) n dcap, .slice a n cap]).run Tryd.prog w = .ok (goInt n) w' ∧ Own w' base (.slice (some ⟨g, 0, none⟩) n dcap) L ∧ Only g w w' := by
  obtain ⟨i0, hi, hz0, hz1, hz2⟩ := info_parts infoLn
  subst hn
  cases a with
  | none =>
    have e := h.none_nil
    subst e
    have e := List.eq_nil_of_length_eq_zero hm
    subst e
    exact ⟨w, by simp [Builtin.copy_, run_underlying Tryd.underlying24, Builtin.lenOf, Builtin.firstCells, sizeOf, typeInfo, hi, storeCells], hO, Only.refl _ _⟩
  | some x =>
    rcases hO.2 with ⟨e, _⟩ | ⟨g', cap', cur, e, hb, hg, hnc, hcm, hsz, htk⟩
    · cases e
    · simp only [Value.slice.injEq, Option.some.injEq, Addr.mk.injEq, and_true] at e
      obtain ⟨rfl, hML, rfl⟩ := e
      have hl := run_firstCells_some (P := Tryd.prog) w 2 L.length x L.length cap (lcells L) (lcells_length L) h.cells
      have hst := run_storeCells_at Tryd.prog g 0 36 (lcells L) 0 cur w hg (by rw [lcells_length, hsz]; omega) (lcells_one L)
      simp only [Nat.add_zero, Nat.zero_add, List.take_zero, List.nil_append] at hst
      refine ⟨w.setRow g (lcells L ++ List.drop (lcells L).length cur.toList).toArray, ?_, ?_, setRow_only _⟩
      · simp [Builtin.copy_, run_underlying Tryd.underlying24, Builtin.lenOf, sizeOf, typeInfo, hi, hz1, hl, hst]
      · refine ⟨lcells_length L, .inr ⟨g, dcap, _, rfl, hb, setRow_heap w g _ _ _ _ hg, by omega, hcm, ?_, ?_⟩⟩
        · simp [lcells_length, hsz]; omega
        · simp [← lcells_length]
set_option maxHeartbeats 2000000 in
theorem impl_closed (a : Option Addr) (n cap : Nat) (w : World) (hn : n ≤ cap) (hc : cap ≤ 9223372036854775807) (ha : a = none → cap = 0) :
    Calls Tryd.prog 34 #[.slice a n cap] w fun e w' => e = .returned (.slice a n n) ∧ w' = w := by
  cases a with
  | none =>
    have e := ha rfl
    subst e
    have e : n = 0 := by omega
    subst e
    go_enter Tryd.func34, Tryd.ntmps34
    go_wp2
    go_ret
    exact ⟨rfl, rfl⟩
  | some x =>
    have h1 : (n : Int) ≤ (cap : Int) := by omega
    go_enter Tryd.func34, Tryd.ntmps34
    go_wp2
    go_ret
    exact ⟨rfl, rfl⟩
set_option maxRecDepth 100000 in
set_option maxHeartbeats 4000000 in
theorem impl_copied (a : Option Addr) (cap : Nat) (L : List Ln) (w : World) (h : Rd w a L) (hl : L.length ≤ 1048576) :
    Calls Tryd.prog 31 #[.slice a L.length cap] w fun e w' => ∃ v, e = .returned v ∧ Own w' w.heap.size v L ∧ Below w.heap.size w w' := by
  generalize hn : L.length = n at *
  obtain ⟨i0, hi, hz0, hz1, hz2⟩ := info_parts infoLn
  have HR := hidIt h
  have HN := hidIt hn
  clear h hn
  go_enter Tryd.func31, Tryd.ntmps31
  go_wp2_with (first
    | (at_make; refine wpList_make_full _ rfl _ _ 24 rfl w.heap.size 36 i0 (.agg #[.string ByteArray.empty, .int .i64 0]) 2 Tryd.underlying24 hi hz0 hz1 _ _ _ _ n rfl rfl (by omega) (by omega) (by rw [hz2]; omega) (by unfold maxLen; omega) (Nat.le_refl _) ?_)
    | fail)
  intro w1 hown hgrow
  have HO : Hid (Own w1 w.heap.size (.slice (some ⟨w.heap.size, 0, none⟩) n n) (List.replicate n (ByteArray.empty, 0))) := by
    refine hidIt ?_
    unfold Own
    rw [List.length_replicate, lcells_zero]
    exact hown
  have HB := hidIt ((Below.refl w.heap.size w).grown hgrow (Nat.le_refl _) (fun k hk => by cases hk))
  have HR1 := hidIt (HR.out.kept HB.out)
  clear hown hgrow
  obtain ⟨w2, hrun, hO2, hY2⟩ := run_copy_lines (cap := cap) 3 HN.out (List.length_replicate ..) HO.out HR1.out
  have HO2 := hidIt hO2
  have HB2 := hidIt (HB.out.trans (hY2.below (B := w.heap.size) (Nat.le_refl _) HB.out.size))
  clear hO2 hY2
  go_wp2_with (fail)
  go_ret
  exact ⟨_, rfl, HO2.out, HB2.out⟩
end Go.Proofs.YtoijollhmchalaaDoor.Lg
