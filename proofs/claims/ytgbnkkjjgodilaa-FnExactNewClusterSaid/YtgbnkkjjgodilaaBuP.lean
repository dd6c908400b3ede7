/-
  Buckets in plain words: which lists are right, what is left for a Source, what is drawn. No program in sight but for the tuple that a Bucket is.
-/
import Derived.Test.YtgbnkkjjgodilaaBucM
namespace Go.Proofs.Ytgbnkkjjgodilaa.Bu
open Go.ChangeShapes Go.WideShapes Go.ChangeAt Go.RowKit
set_option linter.unusedVariables false
def inB (n lo hi : Int) : Bool := decide (lo ≤ n) && decide (n ≤ hi)
theorem inB_to {n lo hi : Int} (h : inB n lo hi = true) : lo ≤ n ∧ n ≤ hi := by simpa [inB] using h
theorem inB_of {n lo hi : Int} (h : lo ≤ n) (k : n ≤ hi) : inB n lo hi = true := by simp [inB, h, k]
theorem inB_no {n lo hi : Int} (h : n < lo ∨ hi < n) : inB n lo hi = false := by
  cases e : inB n lo hi with
  | false => rfl
  | true => have := inB_to e; omega
/-- One Bucket that is right. -/
def okX (x : Rw) : Bool := inB x.1 0 99 && (inB x.2.1 0 5 && inB x.2.2 0 1000000)
theorem okX_to {x : Rw} (h : okX x = true) : (0 ≤ x.1 ∧ x.1 ≤ 99) ∧ (0 ≤ x.2.1 ∧ x.2.1 ≤ 5) ∧ (0 ≤ x.2.2 ∧ x.2.2 ≤ 1000000) := by
  simp only [okX, Bool.and_eq_true] at h
  exact ⟨inB_to h.1, inB_to h.2.1, inB_to h.2.2⟩
theorem okX_of {a b c : Int} (h1 : 0 ≤ a) (h2 : a ≤ 99) (h3 : 0 ≤ b) (h4 : b ≤ 5) (h5 : 0 ≤ c) (h6 : c ≤ 1000000) : okX (a, b, c) = true := by
  simp only [okX, Bool.and_eq_true]
  exact ⟨inB_of h1 h2, inB_of h3 h4, inB_of h5 h6⟩
abbrev sat (L : List Rw) (i : Nat) : Int := (rat L i).1
def okB (L : List Rw) : Bool := decide (L.length ≤ 20) && (L.all okX && (List.range (L.length - 1)).all (fun i => decide (sat L i < sat L (i + 1))))
theorem okB_len {L : List Rw} (h : okB L = true) : L.length ≤ 20 := by simp only [okB, Bool.and_eq_true, decide_eq_true_eq] at h; exact h.1
theorem okB_at {L : List Rw} (h : okB L = true) {i : Nat} (hi : i < L.length) : okX (rat L i) = true := by
  simp only [okB, Bool.and_eq_true, List.all_eq_true] at h
  exact h.2.1 _ (rat_mem hi)
theorem okB_ris {L : List Rw} (h : okB L = true) (i : Nat) (hi : i + 1 < L.length) : sat L i < sat L (i + 1) := by
  simp only [okB, Bool.and_eq_true, List.all_eq_true] at h
  exact of_decide_eq_true (h.2.2 i (List.mem_range.2 (by omega)))
theorem okB_yes {L : List Rw} (h1 : L.length ≤ 20) (h2 : ∀ i, i < L.length → okX (rat L i) = true) (h3 : ∀ i, i + 1 < L.length → sat L i < sat L (i + 1)) : okB L = true := by
  simp only [okB, Bool.and_eq_true, List.all_eq_true, decide_eq_true_eq]
  refine ⟨h1, fun x hx => ?_, fun i hi => h3 i (by have := List.mem_range.1 hi; omega)⟩
  obtain ⟨i, hi, rfl⟩ := List.mem_iff_getElem.1 hx
  have := h2 i hi
  rwa [rat_at hi] at this
theorem okB_no1 {L : List Rw} (h : ¬ L.length ≤ 20) : okB L = false := by
  cases e : okB L with
  | false => rfl
  | true => exact absurd (okB_len e) h
theorem okB_no2 {L : List Rw} {i : Nat} (hi : i < L.length) (h : okX (rat L i) = false) : okB L = false := by
  cases e : okB L with
  | false => rfl
  | true => have := okB_at e hi; rw [h] at this; cases this
theorem okB_no3 {L : List Rw} {i : Nat} (hi : i + 1 < L.length) (h : ¬ sat L i < sat L (i + 1)) : okB L = false := by
  cases e : okB L with
  | false => rfl
  | true => exact absurd (okB_ris e i hi) h
theorem okB_far {L : List Rw} (h : okB L = true) : ∀ i j, i < j → j < L.length → sat L i < sat L j := by
  have far : ∀ d i, i + d + 1 < L.length → sat L i < sat L (i + d + 1) := by
    intro d
    induction d with
    | zero => intro i hi; exact okB_ris h i hi
    | succ d ih => intro i hi; exact Int.lt_trans (ih i (by omega)) (okB_ris h (i + d + 1) hi)
  intro i j hij hj
  have := far (j - i - 1) i (by omega)
  rwa [show i + (j - i - 1) + 1 = j by omega] at this
/-- The first place of a Source. -/
def bat (L : List Rw) (s : Int) : Option Nat := (List.range L.length).find? (fun i => decide (sat L i = s))
theorem bat_none {L : List Rw} {s : Int} (h : bat L s = none) : ∀ i, i < L.length → sat L i ≠ s := by
  intro i hi
  have := List.find?_eq_none.1 h i (List.mem_range.2 hi)
  simpa using this
theorem bat_some {L : List Rw} {s : Int} {j : Nat} (h : bat L s = some j) : j < L.length ∧ sat L j = s := by
  have h1 := List.find?_some h
  have h2 := List.mem_of_find?_eq_some h
  exact ⟨List.mem_range.1 h2, of_decide_eq_true h1⟩
theorem bat_no {L : List Rw} {s : Int} (h : ∀ i, i < L.length → sat L i ≠ s) : bat L s = none := by
  cases e : bat L s with
  | none => rfl
  | some j => have := bat_some e; exact absurd this.2 (h j this.1)
theorem bat_first {L : List Rw} {s : Int} {j : Nat} (hj : j < L.length) (hs : sat L j = s) (hf : ∀ i, i < j → sat L i ≠ s) : bat L s = some j := by
  unfold bat
  rw [List.find?_range_eq_some]
  exact ⟨decide_eq_true hs, List.mem_range.2 hj, fun i hi => by simpa using hf i hi⟩
/-- In right Buckets a Source has one place. -/
theorem bat_is {L : List Rw} {s : Int} {j : Nat} (h : okB L = true) (hj : j < L.length) (hs : sat L j = s) : bat L s = some j :=
  bat_first hj hs (fun i hi e => by have := okB_far h i j hi hj; rw [e, hs] at this; exact absurd this (Int.lt_irrefl _))
/-- What is left at a time; -1: it is not as told. -/
def leftR (L : List Rw) (s now : Int) : Int :=
  if inB s 0 99 && inB now 0 1000000 then
    match bat L s with
    | none => 5
    | some j => if now < (rat L j).2.2 then -1 else min 5 ((rat L j).2.1 + now - (rat L j).2.2)
  else -1
theorem left_range {L : List Rw} {s now : Int} (h : (inB s 0 99 && inB now 0 1000000) = false) : leftR L s now = -1 := by unfold leftR; rw [h]; rfl
theorem left_new {L : List Rw} {s now : Int} (h : (inB s 0 99 && inB now 0 1000000) = true) (e : bat L s = none) : leftR L s now = 5 := by unfold leftR; rw [h, e]; rfl
theorem left_late {L : List Rw} {s now : Int} {j : Nat} (h : (inB s 0 99 && inB now 0 1000000) = true) (e : bat L s = some j) (g : now < (rat L j).2.2) : leftR L s now = -1 := by unfold leftR; rw [h, e]; simp [g]
theorem left_old {L : List Rw} {s now : Int} {j : Nat} (h : (inB s 0 99 && inB now 0 1000000) = true) (e : bat L s = some j) (g : ¬ now < (rat L j).2.2) : leftR L s now = min 5 ((rat L j).2.1 + now - (rat L j).2.2) := by unfold leftR; rw [h, e]; simp [g]
theorem left_le (L : List Rw) (s now : Int) : leftR L s now ≤ 5 := by
  unfold leftR
  split
  · split
    · omega
    · split
      · omega
      · exact Int.min_le_left _ _
  · omega
/-- How many of the first are below. -/
def plc : List Rw → Int → Nat
  | [], _ => 0
  | x :: r, s => if x.1 < s then plc r s + 1 else 0
theorem plc_le : ∀ (L : List Rw) (s : Int), plc L s ≤ L.length
  | [], _ => Nat.le_refl _
  | x :: r, s => by
    unfold plc
    have := plc_le r s
    split
    · simp; omega
    · simp
theorem rat_cons (x : Rw) (r : List Rw) (i : Nat) : rat (x :: r) (i + 1) = rat r i := rfl
theorem plc_below : ∀ (L : List Rw) (s : Int) (i : Nat), i < plc L s → sat L i < s
  | [], _, i, h => by simp [plc] at h
  | x :: r, s, i, h => by
    unfold plc at h
    split at h
    · rename_i hx
      cases i with
      | zero => exact hx
      | succ i => exact plc_below r s i (by omega)
    · omega
theorem plc_end : ∀ (L : List Rw) (s : Int), plc L s < L.length → ¬ sat L (plc L s) < s
  | [], _, h => by simp [plc] at h
  | x :: r, s, h => by
    by_cases hx : x.1 < s
    · have e : plc (x :: r) s = plc r s + 1 := by simp [plc, hx]
      rw [e] at h ⊢
      exact plc_end r s (by simpa using h)
    · have e : plc (x :: r) s = 0 := by simp [plc, hx]
      rw [e]
      exact hx
theorem plc_is {L : List Rw} {s : Int} {k : Nat} (hk : k ≤ L.length) (h1 : ∀ i, i < k → sat L i < s) (h2 : k < L.length → ¬ sat L k < s) : plc L s = k := by
  have a := plc_le L s
  rcases Nat.lt_trichotomy (plc L s) k with h | h | h
  · exact absurd (h1 _ h) (plc_end L s (by omega))
  · exact h
  · exact absurd (plc_below L s k h) (h2 (by omega))
/-- What is drawn of right Buckets. -/
def drawL (L : List Rw) (s now : Int) : List Rw :=
  match bat L s with
  | some j => L.set j (s, leftR L s now - 1, now)
  | none => L.take (plc L s) ++ [(s, leftR L s now - 1, now)] ++ L.drop (plc L s)
def goes (L : List Rw) (s now : Int) : Bool := decide (1 ≤ leftR L s now) && ((bat L s).isSome || decide (L.length ≠ 20))
def drawnR (L : List Rw) (s now : Int) : List Rw × Bool := if okB L then (if goes L s now then (drawL L s now, true) else (L, false)) else ([], false)
def leftForR (L : List Rw) (s now : Int) : Int := if okB L then leftR L s now else -1
theorem drawn_bad {L : List Rw} {s now : Int} (h : okB L = false) : drawnR L s now = ([], false) := by unfold drawnR; rw [h]; rfl
theorem drawn_no {L : List Rw} {s now : Int} (h : okB L = true) (g : goes L s now = false) : drawnR L s now = (L, false) := by unfold drawnR; rw [h, g]; rfl
theorem drawn_yes {L : List Rw} {s now : Int} (h : okB L = true) (g : goes L s now = true) : drawnR L s now = (drawL L s now, true) := by unfold drawnR; rw [h, g]; rfl
theorem goes_to {L : List Rw} {s now : Int} (h : goes L s now = true) : 1 ≤ leftR L s now ∧ (0 ≤ s ∧ s ≤ 99) ∧ (0 ≤ now ∧ now ≤ 1000000) ∧ (bat L s = none → L.length ≠ 20) := by
  simp only [goes, Bool.and_eq_true, decide_eq_true_eq, Bool.or_eq_true] at h
  obtain ⟨h1, h2⟩ := h
  have hr : (inB s 0 99 && inB now 0 1000000) = true := by
    cases e : (inB s 0 99 && inB now 0 1000000) with
    | true => rfl
    | false => rw [left_range e] at h1; omega
  rw [Bool.and_eq_true] at hr
  refine ⟨h1, inB_to hr.1, inB_to hr.2, fun e => ?_⟩
  rw [e] at h2
  rcases h2 with h2 | h2
  · cases h2
  · exact h2
theorem ins_length {L : List Rw} {k : Nat} {x : Rw} (hk : k ≤ L.length) : (L.take k ++ [x] ++ L.drop k).length = L.length + 1 := by
  simp only [List.length_append, List.length_take, List.length_drop, List.length_cons, List.length_nil]
  omega
theorem ins_at {L : List Rw} {k : Nat} {x : Rw} (hk : k ≤ L.length) (i : Nat) : rat (L.take k ++ [x] ++ L.drop k) i = if i < k then rat L i else if i = k then x else rat L (i - 1) := by
  unfold rat
  rw [List.append_assoc, List.getD_eq_getElem?_getD, List.getElem?_append]
  have hl : (L.take k).length = k := by rw [List.length_take]; omega
  rw [hl]
  by_cases h1 : i < k
  · rw [if_pos h1, if_pos h1, List.getElem?_take, if_pos h1, List.getD_eq_getElem?_getD]
  · rw [if_neg h1, if_neg h1]
    by_cases h2 : i = k
    · subst h2
      simp
    · rw [if_neg h2, List.getD_eq_getElem?_getD]
      obtain ⟨d, hd⟩ : ∃ d, i - k = d + 1 := ⟨i - k - 1, by omega⟩
      rw [hd]
      show (([x] ++ L.drop k)[d + 1]?).getD _ = _
      rw [List.singleton_append, List.getElem?_cons_succ, List.getElem?_drop, show k + d = i - 1 by omega]
/-- What is drawn is right. -/
theorem draw_ok {L : List Rw} {s now : Int} (h : okB L = true) (g : goes L s now = true) : okB (drawL L s now) = true := by
  obtain ⟨h1, hs, hn, hroom⟩ := goes_to g
  have hle := left_le L s now
  have hx : okX (s, leftR L s now - 1, now) = true := okX_of hs.1 hs.2 (by omega) (by omega) hn.1 hn.2
  unfold drawL
  cases e : bat L s with
  | some j =>
    obtain ⟨hj, ej⟩ := bat_some e
    refine okB_yes (by rw [List.length_set]; exact okB_len h) (fun i hi => ?_) (fun i hi => ?_)
    · rw [List.length_set] at hi
      rw [rat_set hj]
      split
      · exact hx
      · exact okB_at h hi
    · rw [List.length_set] at hi
      have hri := okB_ris h i hi
      unfold sat
      rw [rat_set hj, rat_set hj]
      by_cases e1 : j = i
      · subst e1
        rw [if_pos rfl, if_neg (by omega)]
        show s < _
        rw [← ej]
        exact hri
      · rw [if_neg e1]
        by_cases e2 : j = i + 1
        · subst e2
          rw [if_pos rfl]
          show _ < s
          rw [← ej]
          exact hri
        · rw [if_neg e2]
          exact hri
  | none =>
    have hk := plc_le L s
    have h20 := hroom e
    have hlen := okB_len h
    have hne := bat_none e
    refine okB_yes (by rw [ins_length hk]; omega) (fun i hi => ?_) (fun i hi => ?_)
    · rw [ins_length hk] at hi
      rw [ins_at hk]
      split
      · exact okB_at h (by omega)
      · split
        · exact hx
        · exact okB_at h (by omega)
    · rw [ins_length hk] at hi
      unfold sat
      rw [ins_at hk, ins_at hk]
      by_cases a1 : i + 1 < plc L s
      · rw [if_pos (by omega), if_pos a1]
        exact okB_ris h i (by omega)
      · by_cases a2 : i + 1 = plc L s
        · rw [if_pos (by omega), if_neg a1, if_pos a2]
          exact plc_below L s i (by omega)
        · by_cases a3 : i = plc L s
          · rw [if_neg (by omega), if_pos a3, if_neg a1, if_neg a2]
            show s < sat L (i + 1 - 1)
            have := plc_end L s (by omega)
            have := hne (plc L s) (by omega)
            rw [show i + 1 - 1 = plc L s by omega]
            omega
          · rw [if_neg (by omega), if_neg a3, if_neg a1, if_neg a2]
            have := okB_ris h (i - 1) (by omega)
            rw [show i - 1 + 1 = i + 1 - 1 by omega] at this
            exact this
/-- Where the Source stands in what is drawn. -/
theorem draw_bat {L : List Rw} {s now : Int} (h : okB L = true) (g : goes L s now = true) : ∃ j, bat (drawL L s now) s = some j ∧ rat (drawL L s now) j = (s, leftR L s now - 1, now) := by
  have hok := draw_ok h g
  have key : ∀ j, j < (drawL L s now).length → rat (drawL L s now) j = (s, leftR L s now - 1, now) → ∃ j, bat (drawL L s now) s = some j ∧ rat (drawL L s now) j = (s, leftR L s now - 1, now) := fun j hj hr => ⟨j, bat_is hok hj (by show (rat _ j).1 = s; rw [hr]), hr⟩
  cases e : bat L s with
  | some j =>
    obtain ⟨hj, ej⟩ := bat_some e
    have ed : drawL L s now = L.set j (s, leftR L s now - 1, now) := by unfold drawL; rw [e]
    refine key j (by rw [ed, List.length_set]; exact hj) ?_
    rw [ed, rat_set hj, if_pos rfl]
  | none =>
    have hk := plc_le L s
    have ed : drawL L s now = L.take (plc L s) ++ [(s, leftR L s now - 1, now)] ++ L.drop (plc L s) := by unfold drawL; rw [e]
    refine key (plc L s) (by rw [ed, ins_length hk]; omega) ?_
    rw [ed, ins_at hk, if_neg (by omega), if_pos rfl]
theorem draw_left {L : List Rw} {s now : Int} (h : okB L = true) (g : goes L s now = true) : leftR (drawL L s now) s now = leftR L s now - 1 := by
  obtain ⟨h1, hs, hn, _⟩ := goes_to g
  obtain ⟨j, e1, e2⟩ := draw_bat h g
  have hle := left_le L s now
  have hr : (inB s 0 99 && inB now 0 1000000) = true := by rw [inB_of hs.1 hs.2, inB_of hn.1 hn.2]; rfl
  rw [left_old hr e1 (by rw [e2]; exact Int.lt_irrefl _), e2]
  show min 5 (leftR L s now - 1 + now - now) = _
  omega
/-- Another Source has what it had. -/
theorem draw_other {L : List Rw} {s now o : Int} (h : okB L = true) (g : goes L s now = true) (ho : o ≠ s) : leftR (drawL L s now) o now = leftR L o now := by
  have hok := draw_ok h g
  have same : ∀ j, bat L o = some j → ∃ q, bat (drawL L s now) o = some q ∧ rat (drawL L s now) q = rat L j := by
    intro j ej
    obtain ⟨hj, es⟩ := bat_some ej
    have key : ∀ q, q < (drawL L s now).length → rat (drawL L s now) q = rat L j → ∃ q, bat (drawL L s now) o = some q ∧ rat (drawL L s now) q = rat L j := fun q hq hr => ⟨q, bat_is hok hq (by show (rat _ q).1 = o; rw [hr]; exact es), hr⟩
    cases e : bat L s with
    | some i =>
      obtain ⟨hi, ei⟩ := bat_some e
      have hij : i ≠ j := fun x => by subst x; exact ho (es.symm.trans ei)
      have ed : drawL L s now = L.set i (s, leftR L s now - 1, now) := by unfold drawL; rw [e]
      refine key j (by rw [ed, List.length_set]; exact hj) ?_
      rw [ed, rat_set hi, if_neg hij]
    | none =>
      have hk := plc_le L s
      have ed : drawL L s now = L.take (plc L s) ++ [(s, leftR L s now - 1, now)] ++ L.drop (plc L s) := by unfold drawL; rw [e]
      by_cases hp : j < plc L s
      · refine key j (by rw [ed, ins_length hk]; omega) ?_
        rw [ed, ins_at hk, if_pos hp]
      · refine key (j + 1) (by rw [ed, ins_length hk]; omega) ?_
        rw [ed, ins_at hk, if_neg (by omega), if_neg (by omega)]
        rfl
  have gone : bat L o = none → bat (drawL L s now) o = none := by
    intro e0
    have hne := bat_none e0
    refine bat_no (fun i hi => ?_)
    cases e : bat L s with
    | some j =>
      obtain ⟨hj, ej⟩ := bat_some e
      have ed : drawL L s now = L.set j (s, leftR L s now - 1, now) := by unfold drawL; rw [e]
      rw [ed, List.length_set] at hi
      rw [ed]
      unfold sat
      rw [rat_set hj]
      split
      · exact fun x => ho x.symm
      · exact hne i hi
    | none =>
      have hk := plc_le L s
      have ed : drawL L s now = L.take (plc L s) ++ [(s, leftR L s now - 1, now)] ++ L.drop (plc L s) := by unfold drawL; rw [e]
      rw [ed, ins_length hk] at hi
      rw [ed]
      unfold sat
      rw [ins_at hk]
      split
      · exact hne i (by omega)
      · split
        · exact fun x => ho x.symm
        · exact hne (i - 1) (by omega)
  cases hr : (inB o 0 99 && inB now 0 1000000) with
  | false => rw [left_range hr, left_range hr]
  | true =>
    cases e : bat L o with
    | none => rw [left_new hr e, left_new hr (gone e)]
    | some j =>
      obtain ⟨q, e1, e2⟩ := same j e
      by_cases hl : now < (rat L j).2.2
      · rw [left_late hr e hl, left_late hr e1 (by rw [e2]; exact hl)]
      · rw [left_old hr e hl, left_old hr e1 (by rw [e2]; exact hl), e2]
/-- What FnBuckets asks of what is drawn. -/
theorem drawn_asks {L : List Rw} {s now : Int} (h : (drawnR L s now).2 = true) :
    leftForR (drawnR L s now).1 s now = leftForR L s now - 1 ∧ 1 ≤ leftForR L s now ∧ leftForR L s now ≤ 5 ∧ okB (drawnR L s now).1 = true ∧ (0 ≤ s ∧ s ≤ 99) ∧ ∀ o, o ≠ s → leftForR (drawnR L s now).1 o now = leftForR L o now := by
  cases ho : okB L with
  | false => rw [drawn_bad ho] at h; cases h
  | true =>
    cases hg : goes L s now with
    | false => rw [drawn_no ho hg] at h; cases h
    | true =>
      rw [drawn_yes ho hg]
      have hok := draw_ok ho hg
      obtain ⟨h1, hs, _⟩ := goes_to hg
      have hL : ∀ o, leftForR L o now = leftR L o now := fun o => by unfold leftForR; rw [ho]; rfl
      have hX : ∀ o, leftForR (drawL L s now) o now = leftR (drawL L s now) o now := fun o => by unfold leftForR; rw [hok]; rfl
      refine ⟨by rw [hX, hL, draw_left ho hg], by rw [hL]; exact h1, by rw [hL]; exact left_le _ _ _, hok, hs, fun o hne => by rw [hX, hL, draw_other ho hg hne]⟩
theorem drawn_len (L : List Rw) (s now : Int) : (drawnR L s now).1.length ≤ 20 := by
  cases ho : okB L with
  | false => rw [drawn_bad ho]; simp
  | true =>
    cases hg : goes L s now with
    | false => rw [drawn_no ho hg]; exact okB_len ho
    | true => rw [drawn_yes ho hg]; exact okB_len (draw_ok ho hg)
theorem drawn_stays {L : List Rw} {s now : Int} (h : (drawnR L s now).2 = false) : (okB L = false ∧ (drawnR L s now).1 = []) ∨ (drawnR L s now).1 = L := by
  cases ho : okB L with
  | false => exact .inl ⟨rfl, by rw [drawn_bad ho]⟩
  | true =>
    cases hg : goes L s now with
    | false => exact .inr (by rw [drawn_no ho hg])
    | true => rw [drawn_yes ho hg] at h; cases h
/-- What one Source may have been given: nothing yet, or so much that with what is left it is no more than at first and one a tick. -/
def Inv (L : List Rw) (sum t : Int) : Prop := (L = [] ∧ sum = 0) ∨ ∃ l t0, L = [(7, l, t0)] ∧ 0 ≤ l ∧ l ≤ 5 ∧ 0 ≤ t0 ∧ t0 ≤ t ∧ sum + l ≤ 5 + t0
theorem Inv.more {L : List Rw} {sum t t' : Int} (h : Inv L sum t) (ht : t ≤ t') : Inv L sum t' := by
  rcases h with h | ⟨l, t0, e, h1, h2, h3, h4, h5⟩
  · exact .inl h
  · exact .inr ⟨l, t0, e, h1, h2, h3, by omega, h5⟩
theorem Inv.le {L : List Rw} {sum t : Int} (h : Inv L sum t) (h0 : 0 ≤ t) : sum ≤ 5 + t := by
  rcases h with ⟨_, h⟩ | ⟨l, t0, e, h1, h2, h3, h4, h5⟩ <;> omega
theorem Inv.len {L : List Rw} {sum t : Int} (h : Inv L sum t) : L.length ≤ 1 := by
  rcases h with ⟨e, _⟩ | ⟨l, t0, e, _⟩
  · subst e; simp
  · subst e; simp
theorem Inv.ok {L : List Rw} {sum t : Int} (h : Inv L sum t) (h1 : t ≤ 1000000) : okB L = true := by
  rcases h with ⟨e, _⟩ | ⟨l, t0, e, a1, a2, a3, a4, _⟩
  · subst e; rfl
  · subst e
    refine okB_yes (by simp) (fun i hi => ?_) (fun i hi => by simp at hi)
    have : i = 0 := by simpa using hi
    subst this
    exact okX_of (by omega) (by omega) a1 a2 a3 (by omega)
theorem Inv.step {L : List Rw} {sum t : Int} (h : Inv L sum t) (h0 : 0 ≤ t) (h1 : t ≤ 1000000) : Inv (drawnR L 7 t).1 (if (drawnR L 7 t).2 then sum + 1 else sum) t := by
  have hok := h.ok h1
  have hr : (inB 7 0 99 && inB t 0 1000000) = true := by rw [inB_of (n := t) h0 h1]; rfl
  cases hg : goes L 7 t with
  | false => rw [drawn_no hok hg]; exact h
  | true =>
    rw [drawn_yes hok hg]
    obtain ⟨hl, _, _, _⟩ := goes_to hg
    have hle := left_le L 7 t
    rcases h with ⟨e, hs⟩ | ⟨l, t0, e, a1, a2, a3, a4, a5⟩
    · subst e hs
      have eb : bat [] 7 = none := rfl
      have el := left_new hr eb
      refine .inr ⟨leftR [] 7 t - 1, t, ?_, by omega, by omega, h0, Int.le_refl _, ?_⟩
      · unfold drawL
        rw [eb]
        rfl
      · show 0 + 1 + _ ≤ _
        omega
    · subst e
      have eb : bat [(7, l, t0)] 7 = some 0 := bat_is hok (by simp) rfl
      have el := left_old hr eb (show ¬ t < t0 by omega)
      replace el : leftR [(7, l, t0)] 7 t = min 5 (l + t - t0) := el
      refine .inr ⟨leftR [(7, l, t0)] 7 t - 1, t, ?_, by omega, by omega, h0, Int.le_refl _, ?_⟩
      · unfold drawL
        rw [eb]
        rfl
      · show sum + 1 + _ ≤ _
        omega
end Go.Proofs.Ytgbnkkjjgodilaa.Bu
