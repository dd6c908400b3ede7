/-
  slices.Insert at Members: one put in at a place, in a row of the call's own: at the end, with room, without. (Written by wip/mkins.py.)
-/
import Derived.Test.YtllajhieocploaaMem2M
import Derived.Shelf.Spec.SlicesInsert
import Derived.Lib.AppendZerosOnto
import Derived.Laws.CopyRow
import Derived.Deep.RegionLaw
namespace Go.Proofs.Ytllajhieocploaa.Mm
open Go.ChangeShapes Go.WideShapes Go.ChangeAt Go.RowKit
set_option linter.unusedVariables false
/-- A piece of a row written over. -/
def over (l : List Value) (o : Nat) (cs : List Value) : List Value := l.take o ++ cs ++ l.drop (o + cs.length)
theorem over_length (l cs : List Value) (o : Nat) (h : o + cs.length ≤ l.length) : (over l o cs).length = l.length := by
  unfold over
  simp
  omega
theorem over_get (l cs : List Value) (o : Nat) (h : o + cs.length ≤ l.length) (j : Nat) : (over l o cs)[j]? = if o ≤ j ∧ j < o + cs.length then cs[j - o]? else l[j]? := by
  unfold over
  by_cases h1 : j < o
  · rw [if_neg (by omega), List.append_assoc, List.getElem?_append_left (by simp; omega), List.getElem?_take, if_pos h1]
  · by_cases h2 : j < o + cs.length
    · rw [if_pos ⟨by omega, h2⟩, List.append_assoc, List.getElem?_append_right (by simp; omega), List.length_take, Nat.min_eq_left (by omega), List.getElem?_append_left (by omega)]
    · rw [if_neg (by omega), List.getElem?_append_right (by simp; omega), List.getElem?_drop]
      congr 1
      simp
      omega
/-- What copy does to a row of the call's own, the elements 3 cells each. -/
theorem run_copy_rows {w : World} {g : Nat} {cur : Array Value} (hg : w.heap[g]? = some (.cells cur 89 (0, 0))) (ty : TypeId) (o dl dc : Nat) (x : Addr) (sl sc n : Nat) (cs : List Value) (hn : sl.min dl = n) (hlen : cs.length = n * 3)
    (hsrc : ∀ j u, cs[j]? = some u → w.cell? (x.add j) = some u) (h1 : ∀ u ∈ cs, u.oneCell' = true) (hfit : o + n * 3 ≤ cur.size) :
    (Builtin.copy_ #[34, 34] ty #[.slice (some ⟨g, o, none⟩) dl dc, .slice (some x) sl sc]).run Try.prog w = .ok (goInt n) (w.setRow g (over cur.toList o cs).toArray) := by
  obtain ⟨i0, hi, hz0, hz1, hz2⟩ := info_parts infoRw
  have hl := run_firstCells_some (P := Try.prog) w 3 n x sl sc cs hlen hsrc
  have hst := run_storeCells_at Try.prog g o 89 cs 0 cur w hg (by rw [hlen]; omega) h1
  simp only [Nat.add_zero] at hst
  simp [Builtin.copy_, run_underlying Try.underlying34, Builtin.lenOf, sizeOf, typeInfo, hi, hz1, hn, hl, hst, over]
theorem take_eq_of {l m : List Value} {n : Nat} (hm : m.length = n) (h : ∀ j, j < n → l[j]? = m[j]?) : l.take n = m := by
  apply List.ext_getElem?
  intro j
  rw [List.getElem?_take]
  by_cases hj : j < n
  · rw [if_pos hj, h j hj]
  · rw [if_neg hj, List.getElem?_eq_none (by omega)]
/-- The row with one more at place i. -/
theorem ins_row {l : List Value} {M : List Rw} {i : Nat} {x : Rw} (hi : i ≤ M.length) (h1 : ∀ j, j < i * 3 → l[j]? = (rcells M)[j]?) (h2 : ∀ j, j < 3 → l[i * 3 + j]? = (rcells [x])[j]?) (h3 : ∀ j, j < (M.length - i) * 3 → l[(i + 1) * 3 + j]? = (rcells M)[i * 3 + j]?) :
    l.take ((M.length + 1) * 3) = rcells (M.take i ++ x :: M.drop i) := by
  refine take_eq_of (by rw [rcells_length]; simp; omega) (fun j hj => ?_)
  rw [rcells_append, show x :: M.drop i = [x] ++ M.drop i from rfl, rcells_append]
  by_cases c1 : j < i * 3
  · rw [h1 j c1, List.getElem?_append_left (by rw [rcells_length, List.length_take]; omega), rcells_take M i hi, List.getElem?_take, if_pos c1]
  · rw [List.getElem?_append_right (by rw [rcells_length, List.length_take]; omega), rcells_length, List.length_take, Nat.min_eq_left hi]
    by_cases c2 : j < i * 3 + 3
    · have := h2 (j - i * 3) (by omega)
      rw [show i * 3 + (j - i * 3) = j by omega] at this
      rw [this, List.getElem?_append_left (by rw [rcells_length]; simp; omega)]
    · have := h3 (j - i * 3 - 3) (by omega)
      rw [show (i + 1) * 3 + (j - i * 3 - 3) = j by omega] at this
      rw [this, List.getElem?_append_right (by rw [rcells_length]; simp; omega), rcells_length, rcells_drop M i hi, List.getElem?_drop]
      congr 1
theorem overlaps_apart (w : World) (vb g o lb cb : Nat) (hne : vb ≠ g) (cur : Array Value) (T : TypeId) (x : Rw) (hv : w.heap[vb]? = some (.cells (rc x) T (0, 0))) (hg : w.heap[g]? = some (.cells cur T (0, 0))) (hc : cur.size ≠ 0) :
    (callFunc 102 #[.slice (some ⟨vb, 0, none⟩) 1 1, .slice (some ⟨g, o, none⟩) lb cb]).run Try.prog w = .ok (.value (.bool false)) w := by
  rw [run_callFunc_extern Try.func102 (by kernel_rfl) (by kernel_rfl) (by kernel_rfl) (e := Extern.SlicesOverlaps.overlaps #[34, 34] #[4]) (by kernel_rfl),
    Go.Lib.run_overlaps_apart w 34 4 89 Try.underlying34 3 Try.sizeOf89 ⟨vb, 0, none⟩ ⟨g, o, none⟩ 1 1 lb cb hne T T 3 cur.size (by simp [World.shape?, hv]) (by simp [World.shape?, hg]) hc (by simp [World.frozen?, hv]) (by simp [World.frozen?, hv])]
  rfl
set_option maxRecDepth 100000 in
set_option maxHeartbeats 4000000 in
theorem insert_end (base : Nat) (v : Value) (M : List Rw) (x : Rw) (w : World) (hO : Own w base v M) (hl : M.length ≤ 60) (hb : base ≤ w.heap.size) :
    Calls Try.prog 82 #[v, .int .i64 M.length, .slice (some ⟨w.heap.size, 0, none⟩) 1 1] (w.alloc (.cells (rc x) 89)) fun e w' => ∃ v', e = .returned v' ∧ Own w' base v' (M ++ [x]) ∧ (w.alloc (.cells (rc x) 89)).grownBy w' v.ownBlock := by
  obtain ⟨i0, hi0, hz0, hz1, hz2⟩ := info_parts infoRw
  have HO := hidIt hO
  obtain ⟨a, cap, rfl, hcap, hcm, hR, hna, hsome⟩ := hO.form
  obtain ⟨x0, x1, x2⟩ := x
  generalize hn : M.length = n at *
  have HN := hidIt hn
  have h1 : (n : Int) ≤ (cap : Int) := by omega
  clear hR hsome hO hn
  cases a with
  | none =>
    have e := hna rfl
    subst e
    have e : n = 0 := by omega
    subst e
    go_enter Try.func82, Try.ntmps82
    go_wp2_with (at_builtin; refine wpList_append_own _ rfl _ _ 34 rfl base 89 i0 (.agg #[.int .i64 0, .int .i64 0, .int .i64 0]) 3 24 Try.underlying34 hi0 hz0 hz1 hz2 rfl (by decide) _ _ _ rfl (World.ownsRow.alloc HO.out _) ⟨w.heap.size, 0, none⟩ 1 1 [.int .i64 x0, .int .i64 x1, .int .i64 x2] rfl rfl (fresh w (x0, x1, x2) 89) (rcells_one [(x0, x1, x2)]) ?c3 ?c4 ?c5 ?_)
    case c3 => rw [HN.out]; decide
    case c4 => rw [HN.out]; decide
    case c5 => exact Nat.le_trans hb (by first | exact Nat.le_refl _ | simp)
    intro v' w3 hown hgrow _
    have HO3 := hidIt (Own.more (M := [(x0, x1, x2)]) hown)
    have HG := hidIt hgrow
    clear hown hgrow
    go_wp2_with (fail)
    go_ret
    exact ⟨_, rfl, HO3.out, HG.out⟩
  | some y =>
    obtain ⟨yb, yo, ys⟩ := y
    clear hna
    go_enter Try.func82, Try.ntmps82
    go_wp2_with (at_builtin; refine wpList_append_own _ rfl _ _ 34 rfl base 89 i0 (.agg #[.int .i64 0, .int .i64 0, .int .i64 0]) 3 24 Try.underlying34 hi0 hz0 hz1 hz2 rfl (by decide) _ _ _ rfl (World.ownsRow.alloc HO.out _) ⟨w.heap.size, 0, none⟩ 1 1 [.int .i64 x0, .int .i64 x1, .int .i64 x2] rfl rfl (fresh w (x0, x1, x2) 89) (rcells_one [(x0, x1, x2)]) ?c3 ?c4 ?c5 ?_)
    all_goals try (case c3 => rw [HN.out]; unfold maxLen; omega)
    all_goals try (case c4 => rw [HN.out]; omega)
    all_goals try (case c5 => exact Nat.le_trans hb (by first | exact Nat.le_refl _ | simp))
    all_goals
      intro v' w3 hown hgrow _
      have HO3 := hidIt (Own.more (M := [(x0, x1, x2)]) hown)
      have HG := hidIt hgrow
      clear hown hgrow
      go_wp2_with (fail)
      go_ret
      exact ⟨_, rfl, HO3.out, HG.out⟩
set_option maxRecDepth 100000 in
set_option maxHeartbeats 8000000 in
theorem insert_room (base g c i : Nat) (cur : Array Value) (M : List Rw) (x : Rw) (w : World) (hb : base ≤ g) (hg : w.heap[g]? = some (.cells cur 89 (0, 0))) (hi : i < M.length) (hc : M.length + 1 ≤ c) (hcm : c ≤ maxLen) (hsz : cur.size = c * 3) (htk : cur.toList.take (M.length * 3) = rcells M) (hl : M.length ≤ 60) :
    Calls Try.prog 82 #[.slice (some ⟨g, 0, none⟩) M.length c, .int .i64 i, .slice (some ⟨w.heap.size, 0, none⟩) 1 1] (w.alloc (.cells (rc x) 89)) fun e w' => ∃ v', e = .returned v' ∧ Own w' base v' (M.take i ++ x :: M.drop i) ∧ (w.alloc (.cells (rc x) 89)).grownBy w' (some g) := by
  have hgw : g < w.heap.size := (Array.getElem?_eq_some_iff.1 hg).1
  have hcm' : c ≤ 9223372036854775807 := hcm
  have hg1 : (w.alloc (.cells (rc x) 89)).heap[g]? = some (.cells cur 89 (0, 0)) := by rw [Below.heap_alloc _ _ _ hgw]; exact hg
  have hv1 : (w.alloc (.cells (rc x) 89)).heap[w.heap.size]? = some (.cells (rc x) 89 (0, 0)) := Array.getElem?_push_size ..
  have hS1 : (w.alloc (.cells (rc x) 89)).heap.size = w.heap.size + 1 := by simp
  have hX := fresh w x 89
  have HGR : Hid (∀ W cs, (w.alloc (.cells (rc x) 89)).drew.setRow g cs = W → ∀ cs', (w.alloc (.cells (rc x) 89)).grownBy (W.setRow g cs') (some g)) := hidIt (fun W cs e cs' => by
    subst e
    exact ⟨rfl, rfl, rfl, by simp [World.setRow, World.drew], fun k _ hk => by
      rw [setRow_other _ _ _ _ (fun z => hk (by rw [z])), setRow_other _ _ _ _ (fun z => hk (by rw [z]))]; rfl⟩)
  generalize w.alloc (.cells (rc x) 89) = w1 at hg1 hv1 hX HGR hS1 ⊢
  generalize hn : M.length = n at *
  have hcur : ∀ j, j < n * 3 → cur[j]? = (rcells M)[j]? := fun j hj => by
    rw [← htk, List.getElem?_take, if_pos hj, Array.getElem?_toList]
  have hov := fun lb cb => overlaps_apart w1 w.heap.size g ((i + 1) * 3) lb cb (by omega) cur 89 x hv1 hg1 (by omega)
  have hdl : (rcells (M.drop i)).length = (n - i) * 3 := by rw [rcells_length, List.length_drop, hn]
  have hcp1 : ∀ ty dl dc sl sc, sl.min dl = n - i → (Builtin.copy_ #[34, 34] ty #[.slice (some ⟨g, (i + 1) * 3, none⟩) dl dc, .slice (some ⟨g, i * 3, none⟩) sl sc]).run Try.prog w1.drew = .ok (goInt ((n - i : Nat) : Int)) (w1.drew.setRow g (over cur.toList ((i + 1) * 3) (rcells (M.drop i))).toArray) := fun ty dl dc sl sc hmin =>
    run_copy_rows (w := w1.drew) hg1 ty ((i + 1) * 3) _ _ ⟨g, i * 3, none⟩ _ _ (n - i) _ hmin hdl (fun j u hj => by
      rw [rcells_drop M i (by omega), List.getElem?_drop] at hj
      have hlt : i * 3 + j < n * 3 := by
        rcases Nat.lt_or_ge (i * 3 + j) (n * 3) with h | h
        · exact h
        · rw [List.getElem?_eq_none (by rw [rcells_length, hn]; exact h)] at hj; cases hj
      rw [Go.WideShapes.add_plain, show w1.drew.cell? ⟨g, i * 3 + j, none⟩ = w1.cell? ⟨g, i * 3 + j, none⟩ from rfl, row_cell hg1, hcur _ hlt]
      exact hj) (rcells_one _) (by rw [hsz]; omega)
  obtain ⟨w2, hw2⟩ : ∃ w2, w2 = w1.drew.setRow g (over cur.toList ((i + 1) * 3) (rcells (M.drop i))).toArray := ⟨_, rfl⟩
  rw [← hw2] at hcp1
  have hg2 : w2.heap[g]? = some (.cells (over cur.toList ((i + 1) * 3) (rcells (M.drop i))).toArray 89 (0, 0)) := by
    rw [hw2]
    exact setRow_heap w1.drew g cur _ _ _ hg1
  have hol : (over cur.toList ((i + 1) * 3) (rcells (M.drop i))).length = c * 3 := by rw [over_length _ _ _ (by rw [hdl, Array.length_toList, hsz]; omega), Array.length_toList, hsz]
  have hcp2 : ∀ ty dl dc, (1 : Nat).min dl = 1 → (Builtin.copy_ #[34, 34] ty #[.slice (some ⟨g, i * 3, none⟩) dl dc, .slice (some ⟨w.heap.size, 0, none⟩) 1 1]).run Try.prog w2 = .ok (goInt ((1 : Nat) : Int)) (w2.setRow g (over (over cur.toList ((i + 1) * 3) (rcells (M.drop i))) (i * 3) (rcells [x])).toArray) := fun ty dl dc hmin => by
    have := run_copy_rows hg2 ty (i * 3) dl dc ⟨w.heap.size, 0, none⟩ 1 1 1 (rcells [x]) hmin rfl (fun j u hj => by
      have hx := hX j u hj
      rw [Go.WideShapes.add_plain] at hx ⊢
      rw [hw2, cell_setRow_other _ _ _ _ (by simp; omega)]
      exact hx) (rcells_one _) (by simp only [List.size_toArray, hol]; omega)
    exact this
  have HW : Hid (Own (w2.setRow g (over (over cur.toList ((i + 1) * 3) (rcells (M.drop i))) (i * 3) (rcells [x])).toArray) base (.slice (some ⟨g, 0, none⟩) (n + 1) c) (M.take i ++ x :: M.drop i)) := hidIt (by
    have e : (M.take i ++ x :: M.drop i).length = n + 1 := by simp; omega
    unfold Own
    rw [e]
    refine ⟨by rw [rcells_length, e], .inr ⟨g, c, _, rfl, hb, setRow_heap _ _ _ _ _ _ hg2, hc, hcm, ?_, ?_⟩⟩
    · rw [List.size_toArray, over_length _ _ _ (by rw [hol]; simp [rcells]; omega), hol]
    · rw [← hn]
      refine ins_row (by omega) (fun j hj => ?_) (fun j hj => ?_) (fun j hj => ?_)
      · rw [over_get _ _ _ (by rw [hol]; simp [rcells]; omega), if_neg (by omega), over_get _ _ _ (by rw [hdl, Array.length_toList, hsz]; omega), if_neg (by omega), Array.getElem?_toList, hcur _ (by omega)]
      · rw [over_get _ _ _ (by rw [hol]; simp [rcells]; omega), if_pos ⟨by omega, by simp [rcells]; omega⟩]
        congr 1
        omega
      · rw [over_get _ _ _ (by rw [hol]; simp [rcells]; omega), if_neg (by simp [rcells]; omega), over_get _ _ _ (by rw [hdl, Array.length_toList, hsz]; omega), if_pos ⟨by omega, by rw [hdl]; omega⟩, rcells_drop M i (by omega), List.getElem?_drop]
        congr 1
        omega)
  have HGW := hidIt (HGR.out w2 _ hw2.symm (over (over cur.toList ((i + 1) * 3) (rcells (M.drop i))) (i * 3) (rcells [x])).toArray)
  generalize w2.setRow g (over (over cur.toList ((i + 1) * 3) (rcells (M.drop i))) (i * 3) (rcells [x])).toArray = w3 at hcp2 HW HGW
  clear hcur hdl hol hg2 hw2 HGR htk hsz hX hg1 hv1 hg hS1
  have z1 : ((i : Int) == (n : Int)) = false := by simp; omega
  have z2 : ¬ (c : Int) < (n : Int) + 1 := by omega
  have z3 : IntKind.i64.wrap ((i : Int) + 1) = (i : Int) + 1 := by rw [IntKind.wrap_i64]; omega
  have z4 : (0 : Int) ≤ (i : Int) + 1 := by omega
  have z5 : ((i : Int) + 1).toNat = i + 1 := by omega
  have z6 : (i : Int) + 1 ≤ (n : Int) + 1 := by omega
  have z7 : (i : Int) ≤ (n : Int) + 1 := by omega
  have z8 : (i : Int) ≤ (n : Int) := by omega
  have z9 : ¬ (c = i + 1) := by omega
  have z10 : ¬ (c = i) := by omega
  have z11 : (n : Int) + 1 ≤ (c : Int) := by omega
  go_enter Try.func82, Try.ntmps82
  go_wp2_with (simp only [hov])
  have hq1 := hcp1 3 (n - i) (c - (i + 1)) (n + 1 - i) (c - i) (by simp only [Nat.min_def]; split <;> omega)
  have hq2 := hcp2 3 (n + 1 - i) (c - i) (by simp only [Nat.min_def]; split <;> omega)
  clear hcp1 hcp2
  go_region
  go_wp2_with (fail)
  go_ret
  exact ⟨_, rfl, HW.out, HGW.out⟩
theorem zeros_length (k : Nat) : (Builtin.zeroCells (Value.agg #[.int .i64 0, .int .i64 0, .int .i64 0]).cells k).size = k * 3 := by
  simp [Builtin.zeroCells, Value.cells]
set_option maxRecDepth 100000 in
set_option maxHeartbeats 8000000 in
theorem insert_grow (base g c i : Nat) (cur : Array Value) (M : List Rw) (x : Rw) (w : World) (hb : base ≤ g) (hg : w.heap[g]? = some (.cells cur 89 (0, 0))) (hi : i < M.length) (hc : M.length = c) (hsz : cur.size = c * 3) (htk : cur.toList.take (M.length * 3) = rcells M) (hl : M.length ≤ 60) :
    Calls Try.prog 82 #[.slice (some ⟨g, 0, none⟩) M.length c, .int .i64 i, .slice (some ⟨w.heap.size, 0, none⟩) 1 1] (w.alloc (.cells (rc x) 89)) fun e w' => ∃ v', e = .returned v' ∧ Own w' base v' (M.take i ++ x :: M.drop i) ∧ (w.alloc (.cells (rc x) 89)).grownBy w' (some g) := by
  obtain ⟨i0, hi0, hz0, hz1, hz2⟩ := info_parts infoRw
  have hgw : g < w.heap.size := (Array.getElem?_eq_some_iff.1 hg).1
  have hg1 : (w.alloc (.cells (rc x) 89)).heap[g]? = some (.cells cur 89 (0, 0)) := by rw [Below.heap_alloc _ _ _ hgw]; exact hg
  have hS1 : (w.alloc (.cells (rc x) 89)).heap.size = w.heap.size + 1 := by simp
  have hX := fresh w x 89
  generalize w.alloc (.cells (rc x) 89) = w1 at hg1 hX hS1 ⊢
  generalize hn : M.length = n at *
  subst hc
  have hcur : ∀ j, j < n * 3 → cur[j]? = (rcells M)[j]? := fun j hj => by
    rw [← htk, List.getElem?_take, if_pos hj, Array.getElem?_toList]
  have hdl : (rcells (M.drop i)).length = (n - i) * 3 := by rw [rcells_length, List.length_drop, hn]
  have htl : (rcells (M.take i)).length = i * 3 := by rw [rcells_length, List.length_take, hn, Nat.min_eq_left (by omega)]
  have hik : i + (n + 1 - i) = n + 1 := by omega
  have hold : (Builtin.firstCells i0.size i (.slice (some ⟨g, 0, none⟩) i n)).run Try.prog w1.drew = .ok (rcells (M.take i)).toArray w1.drew := by
    rw [hz1]
    exact run_firstCells_some w1.drew 3 i ⟨g, 0, none⟩ i n (rcells (M.take i)) htl (fun j u hj => by
      have hlt : j < i * 3 := by
        rcases Nat.lt_or_ge j (i * 3) with h | h
        · exact h
        · rw [List.getElem?_eq_none (by rw [htl]; exact h)] at hj; cases hj
      rw [rcells_take M i (by omega), List.getElem?_take, if_pos hlt] at hj
      rw [Go.WideShapes.add_plain, show w1.drew.cell? ⟨g, 0 + j, none⟩ = w1.cell? ⟨g, 0 + j, none⟩ from rfl, Nat.zero_add, row_cell hg1, hcur _ (by omega)]
      exact hj)
  have hap : ∀ ty, (Builtin.append_ #[34, 3] ty #[.slice (some ⟨g, 0, none⟩) i n, .int .i64 ((n + 1 - i : Nat) : Int)]).run Try.prog w1 = .ok (.slice (some ⟨w1.heap.size, 0, none⟩) (n + 1) (grownCap w1 (n + 1) n 89))
      (w1.drew.alloc (.cells ((rcells (M.take i)).toArray ++ Builtin.zeroCells (Value.agg #[.int .i64 0, .int .i64 0, .int .i64 0]).cells (n + 1 - i) ++ Builtin.zeroCells (Value.agg #[.int .i64 0, .int .i64 0, .int .i64 0]).cells (grownCap w1 (n + 1) n 89 - (n + 1))) 89)) := fun ty => by
    have h := Go.Lib.run_append_grow_zeros w1 34 3 ty 89 i0 _ .i64 .i64 Try.underlying34 Try.underlying3 hi0 hz0 (some ⟨g, 0, none⟩) i n (rcells (M.take i)) hold (n + 1 - i) (by omega) (by omega) (by omega) (by omega) (by rw [hz2]; omega) (by rw [hz2, hik]; exact growslice_fits (by omega) (by omega))
    rw [hik] at h
    exact h
  have hGe := grownCap_ge w1 (n + 1) n 89
  have hGm : grownCap w1 (n + 1) n 89 ≤ maxLen := grownCap_le_maxLen w1 (n + 1) n 89 (by unfold maxLen; omega)
  generalize grownCap w1 (n + 1) n 89 = G at hap hGe hGm
  generalize hrow : (rcells (M.take i)).toArray ++ Builtin.zeroCells (Value.agg #[.int .i64 0, .int .i64 0, .int .i64 0]).cells (n + 1 - i) ++ Builtin.zeroCells (Value.agg #[.int .i64 0, .int .i64 0, .int .i64 0]).cells (G - (n + 1)) = row at hap
  have hrs : row.size = G * 3 := by
    rw [← hrow, Array.size_append, Array.size_append, zeros_length, zeros_length, List.size_toArray, htl]
    omega
  have hrl : row.toList.length = G * 3 := by rw [Array.length_toList, hrs]
  have hx4 : (rcells [x]).length = 3 := rfl
  have hrt : ∀ j, j < i * 3 → row.toList[j]? = (rcells M)[j]? := fun j hj => by
    rw [← hrow, Array.toList_append, Array.toList_append, List.append_assoc, List.getElem?_append_left (by rw [htl]; exact hj), rcells_take M i (by omega), List.getElem?_take, if_pos hj]
  have hb1 : base ≤ w1.heap.size := by omega
  have hBel : Below w1.heap.size w1 (w1.drew.alloc (.cells row 89)) := (Below.refl _ w1).drew.alloc (Nat.le_refl _) _
  have hg2 : (w1.drew.alloc (.cells row 89)).heap[w1.heap.size]? = some (.cells row 89 (0, 0)) := Array.getElem?_push_size ..
  generalize w1.drew.alloc (.cells row 89) = w2 at hap hBel hg2
  have hlt2 : w1.heap.size < w2.heap.size := (Array.getElem?_eq_some_iff.1 hg2).1
  have hcp1 : ∀ ty dl dc, (1 : Nat).min dl = 1 → (Builtin.copy_ #[34, 34] ty #[.slice (some ⟨w1.heap.size, i * 3, none⟩) dl dc, .slice (some ⟨w.heap.size, 0, none⟩) 1 1]).run Try.prog w2 = .ok (goInt ((1 : Nat) : Int)) (w2.setRow w1.heap.size (over row.toList (i * 3) (rcells [x])).toArray) := fun ty dl dc hmin =>
    run_copy_rows hg2 ty (i * 3) dl dc ⟨w.heap.size, 0, none⟩ 1 1 1 (rcells [x]) hmin rfl (fun j u hj => by
      have hx := hX j u hj
      rw [Go.WideShapes.add_plain] at hx ⊢
      rw [hBel.cell (by simp; omega)]
      exact hx) (rcells_one _) (by rw [hrs]; omega)
  have hol : (over row.toList (i * 3) (rcells [x])).length = G * 3 := by rw [over_length _ _ _ (by rw [hrl, hx4]; omega), hrl]
  obtain ⟨w3, hw3⟩ : ∃ w3, w3 = w2.setRow w1.heap.size (over row.toList (i * 3) (rcells [x])).toArray := ⟨_, rfl⟩
  rw [← hw3] at hcp1
  have hg3 : w3.heap[w1.heap.size]? = some (.cells (over row.toList (i * 3) (rcells [x])).toArray 89 (0, 0)) := by
    rw [hw3]
    exact setRow_heap w2 _ row _ _ _ hg2
  have hcp2 : ∀ ty dl dc sl sc, sl.min dl = n - i → (Builtin.copy_ #[34, 34] ty #[.slice (some ⟨w1.heap.size, (i + 1) * 3, none⟩) dl dc, .slice (some ⟨g, i * 3, none⟩) sl sc]).run Try.prog w3.drew = .ok (goInt ((n - i : Nat) : Int)) (w3.drew.setRow w1.heap.size (over (over row.toList (i * 3) (rcells [x])) ((i + 1) * 3) (rcells (M.drop i))).toArray) := fun ty dl dc sl sc hmin => by
    have := run_copy_rows (w := w3.drew) hg3 ty ((i + 1) * 3) dl dc ⟨g, i * 3, none⟩ sl sc (n - i) _ hmin hdl (fun j u hj => by
      rw [rcells_drop M i (by omega), List.getElem?_drop] at hj
      have hlt : i * 3 + j < n * 3 := by
        rcases Nat.lt_or_ge (i * 3 + j) (n * 3) with h | h
        · exact h
        · rw [List.getElem?_eq_none (by rw [rcells_length, hn]; exact h)] at hj; cases hj
      rw [Go.WideShapes.add_plain, show w3.drew.cell? ⟨g, i * 3 + j, none⟩ = w3.cell? ⟨g, i * 3 + j, none⟩ from rfl, hw3, cell_setRow_other _ _ _ _ (by simp; omega), hBel.cell (by simp; omega), row_cell hg1, hcur _ hlt]
      exact hj) (rcells_one _) (by simp only [List.size_toArray, hol]; omega)
    exact this
  have HW : Hid (Own (w3.drew.setRow w1.heap.size (over (over row.toList (i * 3) (rcells [x])) ((i + 1) * 3) (rcells (M.drop i))).toArray) base (.slice (some ⟨w1.heap.size, 0, none⟩) (n + 1) G) (M.take i ++ x :: M.drop i)) := hidIt (by
    have e : (M.take i ++ x :: M.drop i).length = n + 1 := by simp; omega
    unfold Own
    rw [e]
    refine ⟨by rw [rcells_length, e], .inr ⟨w1.heap.size, G, _, rfl, hb1, setRow_heap w3.drew _ _ _ _ _ hg3, hGe, hGm, ?_, ?_⟩⟩
    · rw [List.size_toArray, over_length _ _ _ (by rw [hol, hdl]; omega), hol]
    · rw [← hn]
      refine ins_row (by omega) (fun j hj => ?_) (fun j hj => ?_) (fun j hj => ?_)
      · rw [over_get _ _ _ (by rw [hol, hdl]; omega), if_neg (by omega), over_get _ _ _ (by rw [hrl, hx4]; omega), if_neg (by omega), hrt _ hj]
      · rw [over_get _ _ _ (by rw [hol, hdl]; omega), if_neg (by omega), over_get _ _ _ (by rw [hrl, hx4]; omega), if_pos ⟨by omega, by simp [rcells]; omega⟩]
        congr 1
        omega
      · rw [over_get _ _ _ (by rw [hol, hdl]; omega), if_pos ⟨by omega, by rw [hdl]; omega⟩, rcells_drop M i (by omega), List.getElem?_drop]
        congr 1
        omega)
  have HGW : Hid (w1.grownBy (w3.drew.setRow w1.heap.size (over (over row.toList (i * 3) (rcells [x])) ((i + 1) * 3) (rcells (M.drop i))).toArray) (some g)) := hidIt (by
    rw [hw3]
    exact ⟨hBel.os, hBel.tape, hBel.output, by simp [World.setRow, World.drew]; omega, fun k hk _ => by
      rw [setRow_other _ _ _ _ (by omega)]
      show (w2.setRow w1.heap.size _).heap[k]? = _
      rw [setRow_other _ _ _ _ (by omega)]
      exact hBel.block k hk⟩)
  generalize w3.drew.setRow w1.heap.size (over (over row.toList (i * 3) (rcells [x])) ((i + 1) * 3) (rcells (M.drop i))).toArray = w4 at hcp2 HW HGW
  have hG63 : G ≤ 9223372036854775807 := hGm
  clear hcur hdl htl hol hg2 hg3 hw3 htk hsz hX hg1 hg hS1 hold hrow hrs hrt hBel
  have z1 : ((i : Int) == (n : Int)) = false := by simp; omega
  have z2 : (n : Int) < (n : Int) + 1 := by omega
  have z3 : IntKind.i64.wrap ((i : Int) + 1) = (i : Int) + 1 := by rw [IntKind.wrap_i64]; omega
  have z4 : (0 : Int) ≤ (i : Int) + 1 := by omega
  have z5 : ((i : Int) + 1).toNat = i + 1 := by omega
  have z6 : (i : Int) + 1 ≤ (n : Int) + 1 := by omega
  have z7 : (i : Int) ≤ (n : Int) + 1 := by omega
  have z8 : (i : Int) ≤ (n : Int) := by omega
  have z9 : ¬ (G = i + 1) := by omega
  have z10 : ¬ (G = i) := by omega
  have z11 : ¬ (n = i) := by omega
  have z12 : (i : Int) ≤ (n : Int) := by omega
  have z13 : (n : Int) + 1 - (i : Int) = ((n + 1 - i : Nat) : Int) := by omega
  have hq0 := hap 34
  have hq1 := hcp1 3 (n + 1 - i) (G - i) (by simp only [Nat.min_def]; split <;> omega)
  have hq2 := hcp2 3 (n - i) (G - (i + 1)) (n - i) (n - i) (by simp only [Nat.min_def]; split <;> omega)
  rw [← z13] at hq0
  clear hcp1 hcp2 hap z13
  go_enter Try.func82, Try.ntmps82
  go_wp2_with (at_builtin; refine Go.Lib.wpList_append_run _ rfl _ _ _ _ rfl _ _ rfl rfl _ _ hq0 ?_)
  go_region
  go_wp2_with (fail)
  go_ret
  exact ⟨_, rfl, HW.out, HGW.out⟩
/-- **slices.Insert of one Member**, at any place of a row of the call's own. -/
theorem insert_any (base : Nat) (v : Value) (M : List Rw) (i : Nat) (x : Rw) (w : World) (hO : Own w base v M) (hi : i ≤ M.length) (hl : M.length ≤ 60) (hb : base ≤ w.heap.size) :
    Calls Try.prog 82 #[v, .int .i64 i, .slice (some ⟨w.heap.size, 0, none⟩) 1 1] (w.alloc (.cells (rc x) 89)) fun e w' => ∃ v', e = .returned v' ∧ Own w' base v' (M.take i ++ x :: M.drop i) ∧ (w.alloc (.cells (rc x) 89)).grownBy w' v.ownBlock := by
  rcases Nat.lt_or_ge i M.length with h | h
  · rcases hO.2 with ⟨e, h0⟩ | ⟨g, cap, cur, rfl, hbg, hg, hn, hm, hsz, htk⟩
    · omega
    · by_cases hr : M.length + 1 ≤ cap
      · exact insert_room base g cap i cur M x w hbg hg h hr hm hsz htk hl
      · exact insert_grow base g cap i cur M x w hbg hg h (by omega) hsz htk hl
  · obtain rfl : i = M.length := by omega
    rw [List.take_length, List.drop_length]
    exact insert_end base v M x w hO hl hb
end Go.Proofs.Ytllajhieocploaa.Mm
