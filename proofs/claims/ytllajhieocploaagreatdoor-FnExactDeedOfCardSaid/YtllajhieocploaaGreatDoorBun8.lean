/-
  Buckets in plain words: which lists are right, what is left for a Source, what is drawn. No program in sight but for the tuple that a Bucket is.
  BucketsOk and LeftFor of the specification. (Written by wip/mkBuS.py.)
  What the laws do with one Bucket and with a list of them: the measure, the copy, whether two are alike. (Written by wip/mkrow.py.)
  Marks written into a list of Buckets of the call's own, and looked for again. (Written by wip/mkrow.py.)
  SealOf and Holds of the specification.
-/
import Derived.Test.YtllajhieocploaaGreatDoorBun7
import Derived.Test.YtllajhieocploaaGreatDoorBoxM
import Derived.Test.YtllajhieocploaaGreatDoorBun1
import Derived.Handy
import Derived.Test.YtllajhieocploaaGreatDoorBun6
namespace Go.Proofs.YtllajhieocploaaGreatDoor.Bu
open Go.ChangeShapes Go.WideShapes Go.ChangeAt Go.RowKit
set_option linter.unusedVariables false
def inB (n lo hi : Int) : Bool := decide (lo ≤ n) && decide (n ≤ hi)
theorem inB_to {n lo hi : Int} (h : inB n lo hi = true) : lo ≤ n ∧ n ≤ hi := by simpa [inB] using h
theorem inB_of {n lo hi : Int} (h : lo ≤ n) (k : n ≤ hi) : inB n lo hi = true := by simp [inB, h, k]
theorem inB_no {n lo hi : Int} (h : n < lo ∨ hi < n) : inB n lo hi = false := by
  cases e : inB n lo hi with
  | false => rfl
  | true => have := inB_to e; omega
/-- One Bucket that is right. -/
def okX (x : Rw) : Bool := inB x.1 0 99 && (inB x.2.1 0 5 && inB x.2.2 0 1000000)
theorem okX_to {x : Rw} (h : okX x = true) : (0 ≤ x.1 ∧ x.1 ≤ 99) ∧ (0 ≤ x.2.1 ∧ x.2.1 ≤ 5) ∧ (0 ≤ x.2.2 ∧ x.2.2 ≤ 1000000) := by
  simp only [okX, Bool.and_eq_true] at h
  exact ⟨inB_to h.1, inB_to h.2.1, inB_to h.2.2⟩
theorem okX_of {a b c : Int} (h1 : 0 ≤ a) (h2 : a ≤ 99) (h3 : 0 ≤ b) (h4 : b ≤ 5) (h5 : 0 ≤ c) (h6 : c ≤ 1000000) : okX (a, b, c) = true := by
  simp only [okX, Bool.and_eq_true]
  exact ⟨inB_of h1 h2, inB_of h3 h4, inB_of h5 h6⟩
abbrev sat (L : List Rw) (i : Nat) : Int := (rat L i).1
def okB (L : List Rw) : Bool := decide (L.length ≤ 20) && (L.all okX && (List.range (L.length - 1)).all (fun i => decide (sat L i < sat L (i + 1))))
theorem okB_len {L : List Rw} (h : okB L = true) : L.length ≤ 20 := by simp only [okB, Bool.and_eq_true, decide_eq_true_eq] at h; exact h.1
theorem okB_at {L : List Rw} (h : okB L = true) {i : Nat} (hi : i < L.length) : okX (rat L i) = true := by
  simp only [okB, Bool.and_eq_true, List.all_eq_true] at h
  exact h.2.1 _ (rat_mem hi)
theorem okB_ris {L : List Rw} (h : okB L = true) (i : Nat) (hi : i + 1 < L.length) : sat L i < sat L (i + 1) := by
  simp only [okB, Bool.and_eq_true, List.all_eq_true] at h
  exact of_decide_eq_true (h.2.2 i (List.mem_range.2 (by omega)))
theorem okB_yes {L : List Rw} (h1 : L.length ≤ 20) (h2 : ∀ i, i < L.length → okX (rat L i) = true) (h3 : ∀ i, i + 1 < L.length → sat L i < sat L (i + 1)) : okB L = true := by
  simp only [okB, Bool.and_eq_true, List.all_eq_true, decide_eq_true_eq]
  refine ⟨h1, fun x hx => ?_, fun i hi => h3 i (by have := List.mem_range.1 hi; omega)⟩
  obtain ⟨i, hi, rfl⟩ := List.mem_iff_getElem.1 hx
  have := h2 i hi
  rwa [rat_at hi] at this
theorem okB_no1 {L : List Rw} (h : ¬ L.length ≤ 20) : okB L = false := by
  cases e : okB L with
  | false => rfl
  | true => exact absurd (okB_len e) h
theorem okB_no2 {L : List Rw} {i : Nat} (hi : i < L.length) (h : okX (rat L i) = false) : okB L = false := by
  cases e : okB L with
  | false => rfl
  | true => have := okB_at e hi; rw [h] at this; cases this
theorem okB_no3 {L : List Rw} {i : Nat} (hi : i + 1 < L.length) (h : ¬ sat L i < sat L (i + 1)) : okB L = false := by
  cases e : okB L with
  | false => rfl
  | true => exact absurd (okB_ris e i hi) h
theorem okB_far {L : List Rw} (h : okB L = true) : ∀ i j, i < j → j < L.length → sat L i < sat L j := by
  have far : ∀ d i, i + d + 1 < L.length → sat L i < sat L (i + d + 1) := by
    intro d
    induction d with
    | zero => intro i hi; exact okB_ris h i hi
    | succ d ih => intro i hi; exact Int.lt_trans (ih i (by omega)) (okB_ris h (i + d + 1) hi)
  intro i j hij hj
  have := far (j - i - 1) i (by omega)
  rwa [show i + (j - i - 1) + 1 = j by omega] at this
/-- The first place of a Source. -/
def bat (L : List Rw) (s : Int) : Option Nat := (List.range L.length).find? (fun i => decide (sat L i = s))
theorem bat_none {L : List Rw} {s : Int} (h : bat L s = none) : ∀ i, i < L.length → sat L i ≠ s := by
  intro i hi
  have := List.find?_eq_none.1 h i (List.mem_range.2 hi)
  simpa using this
theorem bat_some {L : List Rw} {s : Int} {j : Nat} (h : bat L s = some j) : j < L.length ∧ sat L j = s := by
  have h1 := List.find?_some h
  have h2 := List.mem_of_find?_eq_some h
  exact ⟨List.mem_range.1 h2, of_decide_eq_true h1⟩
theorem bat_no {L : List Rw} {s : Int} (h : ∀ i, i < L.length → sat L i ≠ s) : bat L s = none := by
  cases e : bat L s with
  | none => rfl
  | some j => have := bat_some e; exact absurd this.2 (h j this.1)
theorem bat_first {L : List Rw} {s : Int} {j : Nat} (hj : j < L.length) (hs : sat L j = s) (hf : ∀ i, i < j → sat L i ≠ s) : bat L s = some j := by
  unfold bat
  rw [List.find?_range_eq_some]
  exact ⟨decide_eq_true hs, List.mem_range.2 hj, fun i hi => by simpa using hf i hi⟩
/-- In right Buckets a Source has one place. -/
theorem bat_is {L : List Rw} {s : Int} {j : Nat} (h : okB L = true) (hj : j < L.length) (hs : sat L j = s) : bat L s = some j :=
  bat_first hj hs (fun i hi e => by have := okB_far h i j hi hj; rw [e, hs] at this; exact absurd this (Int.lt_irrefl _))
/-- What is left at a time; -1: it is not as told. -/
def leftR (L : List Rw) (s now : Int) : Int :=
  if inB s 0 99 && inB now 0 1000000 then
    match bat L s with
    | none => 5
    | some j => if now < (rat L j).2.2 then -1 else min 5 ((rat L j).2.1 + now - (rat L j).2.2)
  else -1
theorem left_range {L : List Rw} {s now : Int} (h : (inB s 0 99 && inB now 0 1000000) = false) : leftR L s now = -1 := by unfold leftR; rw [h]; rfl
theorem left_new {L : List Rw} {s now : Int} (h : (inB s 0 99 && inB now 0 1000000) = true) (e : bat L s = none) : leftR L s now = 5 := by unfold leftR; rw [h, e]; rfl
theorem left_late {L : List Rw} {s now : Int} {j : Nat} (h : (inB s 0 99 && inB now 0 1000000) = true) (e : bat L s = some j) (g : now < (rat L j).2.2) : leftR L s now = -1 := by unfold leftR; rw [h, e]; simp [g]
theorem left_old {L : List Rw} {s now : Int} {j : Nat} (h : (inB s 0 99 && inB now 0 1000000) = true) (e : bat L s = some j) (g : ¬ now < (rat L j).2.2) : leftR L s now = min 5 ((rat L j).2.1 + now - (rat L j).2.2) := by unfold leftR; rw [h, e]; simp [g]
theorem left_le (L : List Rw) (s now : Int) : leftR L s now ≤ 5 := by
  unfold leftR
  split
  · split
    · omega
    · split
      · omega
      · exact Int.min_le_left _ _
  · omega
/-- How many of the first are below. -/
def plc : List Rw → Int → Nat
  | [], _ => 0
  | x :: r, s => if x.1 < s then plc r s + 1 else 0
theorem plc_le : ∀ (L : List Rw) (s : Int), plc L s ≤ L.length
  | [], _ => Nat.le_refl _
  | x :: r, s => by
    unfold plc
    have := plc_le r s
    split
    · simp; omega
    · simp
theorem rat_cons (x : Rw) (r : List Rw) (i : Nat) : rat (x :: r) (i + 1) = rat r i := rfl
theorem plc_below : ∀ (L : List Rw) (s : Int) (i : Nat), i < plc L s → sat L i < s
  | [], _, i, h => by simp [plc] at h
  | x :: r, s, i, h => by
    unfold plc at h
    split at h
    · rename_i hx
      cases i with
      | zero => exact hx
      | succ i => exact plc_below r s i (by omega)
    · omega
theorem plc_end : ∀ (L : List Rw) (s : Int), plc L s < L.length → ¬ sat L (plc L s) < s
  | [], _, h => by simp [plc] at h
  | x :: r, s, h => by
    by_cases hx : x.1 < s
    · have e : plc (x :: r) s = plc r s + 1 := by simp [plc, hx]
      rw [e] at h ⊢
      exact plc_end r s (by simpa using h)
    · have e : plc (x :: r) s = 0 := by simp [plc, hx]
      rw [e]
      exact hx
theorem plc_is {L : List Rw} {s : Int} {k : Nat} (hk : k ≤ L.length) (h1 : ∀ i, i < k → sat L i < s) (h2 : k < L.length → ¬ sat L k < s) : plc L s = k := by
  have a := plc_le L s
  rcases Nat.lt_trichotomy (plc L s) k with h | h | h
  · exact absurd (h1 _ h) (plc_end L s (by omega))
  · exact h
  · exact absurd (plc_below L s k h) (h2 (by omega))
/-- What is drawn of right Buckets. -/
def drawL (L : List Rw) (s now : Int) : List Rw :=
  match bat L s with
  | some j => L.set j (s, leftR L s now - 1, now)
  | none => L.take (plc L s) ++ [(s, leftR L s now - 1, now)] ++ L.drop (plc L s)
def goes (L : List Rw) (s now : Int) : Bool := decide (1 ≤ leftR L s now) && ((bat L s).isSome || decide (L.length ≠ 20))
def drawnR (L : List Rw) (s now : Int) : List Rw × Bool := if okB L then (if goes L s now then (drawL L s now, true) else (L, false)) else ([], false)
def leftForR (L : List Rw) (s now : Int) : Int := if okB L then leftR L s now else -1
theorem drawn_bad {L : List Rw} {s now : Int} (h : okB L = false) : drawnR L s now = ([], false) := by unfold drawnR; rw [h]; rfl
theorem drawn_no {L : List Rw} {s now : Int} (h : okB L = true) (g : goes L s now = false) : drawnR L s now = (L, false) := by unfold drawnR; rw [h, g]; rfl
theorem drawn_yes {L : List Rw} {s now : Int} (h : okB L = true) (g : goes L s now = true) : drawnR L s now = (drawL L s now, true) := by unfold drawnR; rw [h, g]; rfl
theorem goes_to {L : List Rw} {s now : Int} (h : goes L s now = true) : 1 ≤ leftR L s now ∧ (0 ≤ s ∧ s ≤ 99) ∧ (0 ≤ now ∧ now ≤ 1000000) ∧ (bat L s = none → L.length ≠ 20) := by
  simp only [goes, Bool.and_eq_true, decide_eq_true_eq, Bool.or_eq_true] at h
  obtain ⟨h1, h2⟩ := h
  have hr : (inB s 0 99 && inB now 0 1000000) = true := by
    cases e : (inB s 0 99 && inB now 0 1000000) with
    | true => rfl
    | false => rw [left_range e] at h1; omega
  rw [Bool.and_eq_true] at hr
  refine ⟨h1, inB_to hr.1, inB_to hr.2, fun e => ?_⟩
  rw [e] at h2
  rcases h2 with h2 | h2
  · cases h2
  · exact h2
theorem ins_length {L : List Rw} {k : Nat} {x : Rw} (hk : k ≤ L.length) : (L.take k ++ [x] ++ L.drop k).length = L.length + 1 := by
  simp only [List.length_append, List.length_take, List.length_drop, List.length_cons, List.length_nil]
  omega
theorem ins_at {L : List Rw} {k : Nat} {x : Rw} (hk : k ≤ L.length) (i : Nat) : rat (L.take k ++ [x] ++ L.drop k) i = if i < k then rat L i else if i = k then x else rat L (i - 1) := by
  unfold rat
  rw [List.append_assoc, List.getD_eq_getElem?_getD, List.getElem?_append]
  have hl : (L.take k).length = k := by rw [List.length_take]; omega
  rw [hl]
  by_cases h1 : i < k
  · rw [if_pos h1, if_pos h1, List.getElem?_take, if_pos h1, List.getD_eq_getElem?_getD]
  · rw [if_neg h1, if_neg h1]
    by_cases h2 : i = k
    · subst h2
      simp
    · rw [if_neg h2, List.getD_eq_getElem?_getD]
      obtain ⟨d, hd⟩ : ∃ d, i - k = d + 1 := ⟨i - k - 1, by omega⟩
      rw [hd]
      show (([x] ++ L.drop k)[d + 1]?).getD _ = _
      rw [List.singleton_append, List.getElem?_cons_succ, List.getElem?_drop, show k + d = i - 1 by omega]
/-- What is drawn is right. -/
theorem draw_ok {L : List Rw} {s now : Int} (h : okB L = true) (g : goes L s now = true) : okB (drawL L s now) = true := by
  obtain ⟨h1, hs, hn, hroom⟩ := goes_to g
  have hle := left_le L s now
  have hx : okX (s, leftR L s now - 1, now) = true := okX_of hs.1 hs.2 (by omega) (by omega) hn.1 hn.2
  unfold drawL
  cases e : bat L s with
  | some j =>
    obtain ⟨hj, ej⟩ := bat_some e
    refine okB_yes (by rw [List.length_set]; exact okB_len h) (fun i hi => ?_) (fun i hi => ?_)
    · rw [List.length_set] at hi
      rw [rat_set hj]
      split
      · exact hx
      · exact okB_at h hi
    · rw [List.length_set] at hi
      have hri := okB_ris h i hi
      unfold sat
      rw [rat_set hj, rat_set hj]
      by_cases e1 : j = i
      · subst e1
        rw [if_pos rfl, if_neg (by omega)]
        show s < _
        rw [← ej]
        exact hri
      · rw [if_neg e1]
        by_cases e2 : j = i + 1
        · subst e2
          rw [if_pos rfl]
          show _ < s
          rw [← ej]
          exact hri
        · rw [if_neg e2]
          exact hri
  | none =>
    have hk := plc_le L s
    have h20 := hroom e
    have hlen := okB_len h
    have hne := bat_none e
    refine okB_yes (by rw [ins_length hk]; omega) (fun i hi => ?_) (fun i hi => ?_)
    · rw [ins_length hk] at hi
      rw [ins_at hk]
      split
      · exact okB_at h (by omega)
      · split
        · exact hx
        · exact okB_at h (by omega)
    · rw [ins_length hk] at hi
      unfold sat
      rw [ins_at hk, ins_at hk]
      by_cases a1 : i + 1 < plc L s
      · rw [if_pos (by omega), if_pos a1]
        exact okB_ris h i (by omega)
      · by_cases a2 : i + 1 = plc L s
        · rw [if_pos (by omega), if_neg a1, if_pos a2]
          exact plc_below L s i (by omega)
        · by_cases a3 : i = plc L s
          · rw [if_neg (by omega), if_pos a3, if_neg a1, if_neg a2]
            show s < sat L (i + 1 - 1)
            have := plc_end L s (by omega)
            have := hne (plc L s) (by omega)
            rw [show i + 1 - 1 = plc L s by omega]
            omega
          · rw [if_neg (by omega), if_neg a3, if_neg a1, if_neg a2]
            have := okB_ris h (i - 1) (by omega)
            rw [show i - 1 + 1 = i + 1 - 1 by omega] at this
            exact this
/-- Where the Source stands in what is drawn. -/
theorem draw_bat {L : List Rw} {s now : Int} (h : okB L = true) (g : goes L s now = true) : ∃ j, bat (drawL L s now) s = some j ∧ rat (drawL L s now) j = (s, leftR L s now - 1, now) := by
  have hok := draw_ok h g
  have key : ∀ j, j < (drawL L s now).length → rat (drawL L s now) j = (s, leftR L s now - 1, now) → ∃ j, bat (drawL L s now) s = some j ∧ rat (drawL L s now) j = (s, leftR L s now - 1, now) := fun j hj hr => ⟨j, bat_is hok hj (by show (rat _ j).1 = s; rw [hr]), hr⟩
  cases e : bat L s with
  | some j =>
    obtain ⟨hj, ej⟩ := bat_some e
    have ed : drawL L s now = L.set j (s, leftR L s now - 1, now) := by unfold drawL; rw [e]
    refine key j (by rw [ed, List.length_set]; exact hj) ?_
    rw [ed, rat_set hj, if_pos rfl]
  | none =>
    have hk := plc_le L s
    have ed : drawL L s now = L.take (plc L s) ++ [(s, leftR L s now - 1, now)] ++ L.drop (plc L s) := by unfold drawL; rw [e]
    refine key (plc L s) (by rw [ed, ins_length hk]; omega) ?_
    rw [ed, ins_at hk, if_neg (by omega), if_pos rfl]
theorem draw_left {L : List Rw} {s now : Int} (h : okB L = true) (g : goes L s now = true) : leftR (drawL L s now) s now = leftR L s now - 1 := by
  obtain ⟨h1, hs, hn, _⟩ := goes_to g
  obtain ⟨j, e1, e2⟩ := draw_bat h g
  have hle := left_le L s now
  have hr : (inB s 0 99 && inB now 0 1000000) = true := by rw [inB_of hs.1 hs.2, inB_of hn.1 hn.2]; rfl
  rw [left_old hr e1 (by rw [e2]; exact Int.lt_irrefl _), e2]
  show min 5 (leftR L s now - 1 + now - now) = _
  omega
/-- Another Source has what it had. -/
theorem draw_other {L : List Rw} {s now o : Int} (h : okB L = true) (g : goes L s now = true) (ho : o ≠ s) : leftR (drawL L s now) o now = leftR L o now := by
  have hok := draw_ok h g
  have same : ∀ j, bat L o = some j → ∃ q, bat (drawL L s now) o = some q ∧ rat (drawL L s now) q = rat L j := by
    intro j ej
    obtain ⟨hj, es⟩ := bat_some ej
    have key : ∀ q, q < (drawL L s now).length → rat (drawL L s now) q = rat L j → ∃ q, bat (drawL L s now) o = some q ∧ rat (drawL L s now) q = rat L j := fun q hq hr => ⟨q, bat_is hok hq (by show (rat _ q).1 = o; rw [hr]; exact es), hr⟩
    cases e : bat L s with
    | some i =>
      obtain ⟨hi, ei⟩ := bat_some e
      have hij : i ≠ j := fun x => by subst x; exact ho (es.symm.trans ei)
      have ed : drawL L s now = L.set i (s, leftR L s now - 1, now) := by unfold drawL; rw [e]
      refine key j (by rw [ed, List.length_set]; exact hj) ?_
      rw [ed, rat_set hi, if_neg hij]
    | none =>
      have hk := plc_le L s
      have ed : drawL L s now = L.take (plc L s) ++ [(s, leftR L s now - 1, now)] ++ L.drop (plc L s) := by unfold drawL; rw [e]
      by_cases hp : j < plc L s
      · refine key j (by rw [ed, ins_length hk]; omega) ?_
        rw [ed, ins_at hk, if_pos hp]
      · refine key (j + 1) (by rw [ed, ins_length hk]; omega) ?_
        rw [ed, ins_at hk, if_neg (by omega), if_neg (by omega)]
        rfl
  have gone : bat L o = none → bat (drawL L s now) o = none := by
    intro e0
    have hne := bat_none e0
    refine bat_no (fun i hi => ?_)
    cases e : bat L s with
    | some j =>
      obtain ⟨hj, ej⟩ := bat_some e
      have ed : drawL L s now = L.set j (s, leftR L s now - 1, now) := by unfold drawL; rw [e]
      rw [ed, List.length_set] at hi
      rw [ed]
      unfold sat
      rw [rat_set hj]
      split
      · exact fun x => ho x.symm
      · exact hne i hi
    | none =>
      have hk := plc_le L s
      have ed : drawL L s now = L.take (plc L s) ++ [(s, leftR L s now - 1, now)] ++ L.drop (plc L s) := by unfold drawL; rw [e]
      rw [ed, ins_length hk] at hi
      rw [ed]
      unfold sat
      rw [ins_at hk]
      split
      · exact hne i (by omega)
      · split
        · exact fun x => ho x.symm
        · exact hne (i - 1) (by omega)
  cases hr : (inB o 0 99 && inB now 0 1000000) with
  | false => rw [left_range hr, left_range hr]
  | true =>
    cases e : bat L o with
    | none => rw [left_new hr e, left_new hr (gone e)]
    | some j =>
      obtain ⟨q, e1, e2⟩ := same j e
      by_cases hl : now < (rat L j).2.2
      · rw [left_late hr e hl, left_late hr e1 (by rw [e2]; exact hl)]
      · rw [left_old hr e hl, left_old hr e1 (by rw [e2]; exact hl), e2]
/-- What FnBuckets asks of what is drawn. -/
theorem drawn_asks {L : List Rw} {s now : Int} (h : (drawnR L s now).2 = true) :
    leftForR (drawnR L s now).1 s now = leftForR L s now - 1 ∧ 1 ≤ leftForR L s now ∧ leftForR L s now ≤ 5 ∧ okB (drawnR L s now).1 = true ∧ (0 ≤ s ∧ s ≤ 99) ∧ ∀ o, o ≠ s → leftForR (drawnR L s now).1 o now = leftForR L o now := by
  cases ho : okB L with
  | false => rw [drawn_bad ho] at h; cases h
  | true =>
    cases hg : goes L s now with
    | false => rw [drawn_no ho hg] at h; cases h
    | true =>
      rw [drawn_yes ho hg]
      have hok := draw_ok ho hg
      obtain ⟨h1, hs, _⟩ := goes_to hg
      have hL : ∀ o, leftForR L o now = leftR L o now := fun o => by unfold leftForR; rw [ho]; rfl
      have hX : ∀ o, leftForR (drawL L s now) o now = leftR (drawL L s now) o now := fun o => by unfold leftForR; rw [hok]; rfl
      refine ⟨by rw [hX, hL, draw_left ho hg], by rw [hL]; exact h1, by rw [hL]; exact left_le _ _ _, hok, hs, fun o hne => by rw [hX, hL, draw_other ho hg hne]⟩
theorem drawn_len (L : List Rw) (s now : Int) : (drawnR L s now).1.length ≤ 20 := by
  cases ho : okB L with
  | false => rw [drawn_bad ho]; simp
  | true =>
    cases hg : goes L s now with
    | false => rw [drawn_no ho hg]; exact okB_len ho
    | true => rw [drawn_yes ho hg]; exact okB_len (draw_ok ho hg)
theorem drawn_stays {L : List Rw} {s now : Int} (h : (drawnR L s now).2 = false) : (okB L = false ∧ (drawnR L s now).1 = []) ∨ (drawnR L s now).1 = L := by
  cases ho : okB L with
  | false => exact .inl ⟨rfl, by rw [drawn_bad ho]⟩
  | true =>
    cases hg : goes L s now with
    | false => exact .inr (by rw [drawn_no ho hg])
    | true => rw [drawn_yes ho hg] at h; cases h
/-- What one Source may have been given: nothing yet, or so much that with what is left it is no more than at first and one a tick. -/
def Inv (L : List Rw) (sum t : Int) : Prop := (L = [] ∧ sum = 0) ∨ ∃ l t0, L = [(7, l, t0)] ∧ 0 ≤ l ∧ l ≤ 5 ∧ 0 ≤ t0 ∧ t0 ≤ t ∧ sum + l ≤ 5 + t0
theorem Inv.more {L : List Rw} {sum t t' : Int} (h : Inv L sum t) (ht : t ≤ t') : Inv L sum t' := by
  rcases h with h | ⟨l, t0, e, h1, h2, h3, h4, h5⟩
  · exact .inl h
  · exact .inr ⟨l, t0, e, h1, h2, h3, by omega, h5⟩
theorem Inv.le {L : List Rw} {sum t : Int} (h : Inv L sum t) (h0 : 0 ≤ t) : sum ≤ 5 + t := by
  rcases h with ⟨_, h⟩ | ⟨l, t0, e, h1, h2, h3, h4, h5⟩ <;> omega
theorem Inv.len {L : List Rw} {sum t : Int} (h : Inv L sum t) : L.length ≤ 1 := by
  rcases h with ⟨e, _⟩ | ⟨l, t0, e, _⟩
  · subst e; simp
  · subst e; simp
theorem Inv.ok {L : List Rw} {sum t : Int} (h : Inv L sum t) (h1 : t ≤ 1000000) : okB L = true := by
  rcases h with ⟨e, _⟩ | ⟨l, t0, e, a1, a2, a3, a4, _⟩
  · subst e; rfl
  · subst e
    refine okB_yes (by simp) (fun i hi => ?_) (fun i hi => by simp at hi)
    have : i = 0 := by simpa using hi
    subst this
    exact okX_of (by omega) (by omega) a1 a2 a3 (by omega)
theorem Inv.step {L : List Rw} {sum t : Int} (h : Inv L sum t) (h0 : 0 ≤ t) (h1 : t ≤ 1000000) : Inv (drawnR L 7 t).1 (if (drawnR L 7 t).2 then sum + 1 else sum) t := by
  have hok := h.ok h1
  have hr : (inB 7 0 99 && inB t 0 1000000) = true := by rw [inB_of (n := t) h0 h1]; rfl
  cases hg : goes L 7 t with
  | false => rw [drawn_no hok hg]; exact h
  | true =>
    rw [drawn_yes hok hg]
    obtain ⟨hl, _, _, _⟩ := goes_to hg
    have hle := left_le L 7 t
    rcases h with ⟨e, hs⟩ | ⟨l, t0, e, a1, a2, a3, a4, a5⟩
    · subst e hs
      have eb : bat [] 7 = none := rfl
      have el := left_new hr eb
      refine .inr ⟨leftR [] 7 t - 1, t, ?_, by omega, by omega, h0, Int.le_refl _, ?_⟩
      · unfold drawL
        rw [eb]
        rfl
      · show 0 + 1 + _ ≤ _
        omega
    · subst e
      have eb : bat [(7, l, t0)] 7 = some 0 := bat_is hok (by simp) rfl
      have el := left_old hr eb (show ¬ t < t0 by omega)
      replace el : leftR [(7, l, t0)] 7 t = min 5 (l + t - t0) := el
      refine .inr ⟨leftR [(7, l, t0)] 7 t - 1, t, ?_, by omega, by omega, h0, Int.le_refl _, ?_⟩
      · unfold drawL
        rw [eb]
        rfl
      · show sum + 1 + _ ≤ _
        omega
end Go.Proofs.YtllajhieocploaaGreatDoor.Bu
namespace Go.Proofs.YtllajhieocploaaGreatDoor.Bu
open Go.ChangeShapes Go.WideShapes Go.ChangeAt Go.RowKit
open Go.Proofs.YtllajhieocploaaGreatDoor.Rc (BelowBy BelowBy.one wp_region_below calls_below calls_same)
set_option linter.unusedVariables false
set_option maxHeartbeats 2000000 in
theorem spec_l1In (n lo hi : Int) (w : World) : Calls Tryz.prog 55 #[.int .i64 n, .int .i64 lo, .int .i64 hi] w fun e w' => e = .returned (.bool (inB n lo hi)) ∧ w' = w := by
  unfold inB
  by_cases h : lo ≤ n
  · have h' : decide (lo ≤ n) = true := decide_eq_true h
    rw [h', Bool.true_and]
    go_enter Tryz.func55, Tryz.ntmps55
    go_wp2
    go_ret
    exact ⟨rfl, rfl⟩
  · have h' : decide (lo ≤ n) = false := decide_eq_false h
    rw [h', Bool.false_and]
    go_enter Tryz.func55, Tryz.ntmps55
    go_wp2
    go_ret
    exact ⟨rfl, rfl⟩
set_option maxHeartbeats 2000000 in
theorem spec_l9Time (n : Int) (w : World) : Calls Tryz.prog 38 #[.int .i64 n] w fun e w' => e = .returned (.bool (inB n 0 1000000)) ∧ w' = w := by
  have C := hidIt (fun W => spec_l1In n 0 1000000 W)
  go_enter Tryz.func38, Tryz.ntmps38
  go_wp2_with (fail)
  refine (C.out _).mono ?_
  rintro e w1 ⟨rfl, rfl⟩
  go_wp2_with (fail)
  go_ret
  exact ⟨rfl, rfl⟩
set_option maxRecDepth 100000 in
set_option maxHeartbeats 4000000 in
theorem spec_BucketsOk (a : Option Addr) (cap : Nat) (L : List Rw) (w : World) (h : Rd w a L) (hl : L.length ≤ 9223372036854775807) :
    Calls Tryz.prog 22 #[.slice a L.length cap] w fun e w' => e = .returned (.bool (okB L)) ∧ Below w.heap.size w w' := by
  have N1 : Hid (¬ L.length ≤ 20 → okB L = false) := hidIt okB_no1
  have N2 : Hid (∀ i, i < L.length → okX (rat L i) = false → okB L = false) := hidIt (fun i hi h => okB_no2 hi h)
  have N3 : Hid (∀ i, i + 1 < L.length → ¬ sat L i < sat L (i + 1) → okB L = false) := hidIt (fun i hi h => okB_no3 hi h)
  have N4 : Hid (L.length ≤ 20 → (∀ i, i < L.length → okX (rat L i) = true) → (∀ i, i + 1 < L.length → sat L i < sat L (i + 1)) → okB L = true) := hidIt okB_yes
  generalize okB L = r at N1 N2 N3 N4 ⊢
  have HR := hidIt h
  clear h
  generalize hn : L.length = m at *
  have HN := hidIt hn
  clear hn
  by_cases h80 : m ≤ 20
  · have h80' : ¬ (20 : Int) < (m : Int) := by omega
    go_enter Tryz.func22, Tryz.ntmps22
    go_wp2_with (fail)
    go_loopw [3] (fun y wx => ∃ i : Nat, y = .int .i64 i ∧ i ≤ m ∧ Hid (∀ j, j < i → okX (rat L j) = true) ∧ Hid (∀ j, j + 1 < i → sat L j < sat L (j + 1)) ∧ Hid (Below w.heap.size w wx)) (fun y _ => (m - intOf y).toNat)
    case atStart => exact ⟨0, rfl, by omega, hidIt (fun j hj => by omega), hidIt (fun j hj => by omega), hidIt (Below.refl _ _)⟩
    case round =>
      obtain ⟨i, rfl, hi, HO, HK, HB⟩ := hrel
      by_cases hin : i < m
      · have hin' : (i : Int) < (m : Int) := by omega
        have HRx := hidIt (HR.out.kept HB.out)
        obtain ⟨b, off, ea, c0, c1, c2⟩ := HRx.out.all (i := i) (by rw [HN.out]; exact hin)
        subst ea
        obtain ⟨ok, hok⟩ : ∃ ok, okX (rat L i) = ok := ⟨_, rfl⟩
        have HOK := hidIt hok
        unfold okX at hok
        have hkey : Hid (sat L i = (rat L i).1) := hidIt rfl
        generalize rat L i = x at c0 c1 c2 hok hkey
        obtain ⟨xi, xt, xs⟩ := x
        simp only at c0 c1 c2 hok hkey
        have C1 := hidIt (fun n lo hi W => spec_l1In n lo hi W)
        have C2 := hidIt (fun n W => spec_l9Time n W)
        obtain ⟨k1, e1⟩ : ∃ k, inB xi 0 99 = k := ⟨_, rfl⟩
        obtain ⟨k2, e2⟩ : ∃ k, inB xt 0 5 = k := ⟨_, rfl⟩
        obtain ⟨k3, e3⟩ : ∃ k, inB xs 0 1000000 = k := ⟨_, rfl⟩
        rw [e1, e2, e3] at hok
        have BX := hidIt (Bo.Box.new wr #[.int .i64 xi, .int .i64 xt, .int .i64 xs] 103)
        have HBz := hidIt (HB.out.alloc HB.out.size (.cells #[.int .i64 xi, .int .i64 xt, .int .i64 xs] 103))
        have HRz := hidIt (HRx.out.alloc (.cells #[.int .i64 xi, .int .i64 xt, .int .i64 xs] 103))
        cases ok with
        | false =>
          have er := N2.out i hin HOK.out
          subst er
          go_wp2_with (fail)
          generalize wr.alloc (.cells #[.int .i64 xi, .int .i64 xt, .int .i64 xs] 103) = wz at BX HBz HRz ⊢
          haveI := BelowBy.one wz
          have g0 := fun p : BelowBy wz => p.cell (BX.out.c 0 rfl)
          have g1 := fun p : BelowBy wz => p.cell (BX.out.c 1 rfl)
          have g2 := fun p : BelowBy wz => p.cell (BX.out.c 2 rfl)
          cases k1 <;> cases k2 <;> cases k3 <;> simp only [Bool.and_true, Bool.and_false, Bool.true_eq_false] at hok
          all_goals
            refine wp_region_below (by kernel_rfl) (by kernel_rfl) ?_
            repeat (go_big_quiet_step (first | (go_at_call 55; refine calls_same (C1.out _ _ _ _)) | (go_at_call 38; refine calls_same (C2.out _ _))))
            refine wpQuiet_nil ?_
            intro _ hw'
            obtain ⟨pq, rfl⟩ := hw'
            have HB1 := hidIt (HBz.out.trans (pq.h.mono HBz.out.size))
            generalize pq.world = w2 at HB1 ⊢
            clear g0 g1 g2
            go_wp2_with (fail)
            go_ret
            exact ⟨rfl, HB1.out⟩
        | true =>
          obtain ⟨rfl, rfl, rfl⟩ : k1 = true ∧ k2 = true ∧ k3 = true := by cases k1 <;> cases k2 <;> cases k3 <;> simp_all
          have HO' : Hid (∀ j, j < i + 1 → okX (rat L j) = true) := hidIt (fun j hj => by
            rcases Nat.lt_succ_iff_lt_or_eq.1 hj with h | h
            · exact HO.out j h
            · subst h; exact HOK.out)
          clear hok
          rcases Nat.eq_zero_or_pos i with hz | hp
          · subst hz
            simp only [Nat.zero_mul, Nat.add_zero] at c0 c1 c2
            go_wp2_with (fail)
            generalize wr.alloc (.cells #[.int .i64 xi, .int .i64 xt, .int .i64 xs] 103) = wz at BX HBz HRz ⊢
            haveI := BelowBy.one wz
            have g0 := fun p : BelowBy wz => p.cell (BX.out.c 0 rfl)
            have g1 := fun p : BelowBy wz => p.cell (BX.out.c 1 rfl)
            have g2 := fun p : BelowBy wz => p.cell (BX.out.c 2 rfl)
            refine wp_region_below (by kernel_rfl) (by kernel_rfl) ?_
            repeat (go_big_quiet_step (first | (go_at_call 55; refine calls_same (C1.out _ _ _ _)) | (go_at_call 38; refine calls_same (C2.out _ _))))
            refine wpQuiet_nil ?_
            intro _ hw'
            obtain ⟨pq, rfl⟩ := hw'
            have HB1 := hidIt (HBz.out.trans (pq.h.mono HBz.out.size))
            generalize pq.world = w2 at HB1 ⊢
            clear g0 g1 g2
            go_wp2_with (fail)
            exact ⟨⟨1, by simp, by omega, HO', hidIt (fun j hj => by omega), HB1⟩, by simp [intOf]; omega⟩
          · obtain ⟨j, rfl⟩ : ∃ j, i = j + 1 := ⟨i - 1, by omega⟩
            have hpos : (0 : Int) < ((j : Int) + 1) := by omega
            have hj8 : (j : Int) ≤ 20 := by omega
            have hj0 : (0 : Int) ≤ (j : Int) := by omega
            obtain ⟨pk, epk⟩ : ∃ pk, (rat L j).1 = pk := ⟨_, rfl⟩
            have hkj : Hid (sat L j = pk) := hidIt epk
            have EPK := hidIt epk
            clear epk
            go_wp2_with (fail)
            generalize wr.alloc (.cells #[.int .i64 xi, .int .i64 xt, .int .i64 xs] 103) = wz at BX HBz HRz ⊢
            haveI := BelowBy.one wz
            have g0 := fun p : BelowBy wz => p.cell (BX.out.c 0 rfl)
            have g1 := fun p : BelowBy wz => p.cell (BX.out.c 1 rfl)
            have g2 := fun p : BelowBy wz => p.cell (BX.out.c 2 rfl)
            obtain ⟨b', off', ea2, q0, _⟩ := HRz.out.all (i := j) (by rw [HN.out]; omega)
            cases ea2
            rw [EPK.out] at q0
            have k0 := fun p : BelowBy wz => p.cell q0
            clear q0
            by_cases hlt : pk < xi
            · have hd : decide (xi ≤ pk) = false := decide_eq_false (by omega)
              have HK' : Hid (∀ q, q + 1 < j + 1 + 1 → sat L q < sat L (q + 1)) := hidIt (fun q hq => by
                rcases Nat.lt_succ_iff_lt_or_eq.1 (show q + 1 < j + 1 + 1 from hq) with h | h
                · exact HK.out q h
                · have : q = j := by omega
                  subst this
                  rw [hkj.out, hkey.out]
                  exact hlt)
              clear hlt
              refine wp_region_below (by kernel_rfl) (by kernel_rfl) ?_
              repeat (go_big_quiet_step (first | (go_at_call 55; refine calls_same (C1.out _ _ _ _)) | (go_at_call 38; refine calls_same (C2.out _ _))))
              refine wpQuiet_nil ?_
              intro _ hw'
              obtain ⟨pq, rfl⟩ := hw'
              have HB1 := hidIt (HBz.out.trans (pq.h.mono HBz.out.size))
              generalize pq.world = w2 at HB1 ⊢
              clear g0 g1 g2 k0
              go_wp2_with (fail)
              exact ⟨⟨j + 1 + 1, by simp, by omega, HO', HK', HB1⟩, by simp [intOf]; omega⟩
            · have er := N3.out j (by omega) (by rw [hkj.out, hkey.out]; omega)
              have hd : decide (xi ≤ pk) = true := decide_eq_true (by omega)
              subst er
              clear hlt
              refine wp_region_below (by kernel_rfl) (by kernel_rfl) ?_
              repeat (go_big_quiet_step (first | (go_at_call 55; refine calls_same (C1.out _ _ _ _)) | (go_at_call 38; refine calls_same (C2.out _ _))))
              refine wpQuiet_nil ?_
              intro _ hw'
              obtain ⟨pq, rfl⟩ := hw'
              have HB1 := hidIt (HBz.out.trans (pq.h.mono HBz.out.size))
              generalize pq.world = w2 at HB1 ⊢
              clear g0 g1 g2 k0
              go_wp2_with (fail)
              go_ret
              exact ⟨rfl, HB1.out⟩
      · have hin' : ¬ (i : Int) < (m : Int) := by omega
        have HI : Hid (i = m) := hidIt (by omega)
        have er := N4.out h80 (fun j hj => HO.out j (by have := HI.out; omega)) (fun j hj => HK.out j (by have := HI.out; omega))
        subst er
        go_wp2_with (fail)
        go_ret
        exact ⟨rfl, HB.out⟩
  · have h80' : (20 : Int) < (m : Int) := by omega
    have er := N1.out h80
    subst er
    go_enter Tryz.func22, Tryz.ntmps22
    go_wp2
    go_ret
    exact ⟨rfl, Below.refl _ _⟩

def bi : Option Nat → Int
  | none => -1
  | some j => j
end Go.Proofs.YtllajhieocploaaGreatDoor.Bu
namespace Go.Proofs.YtllajhieocploaaGreatDoor.Bu
open Go.ChangeShapes Go.WideShapes Go.ChangeAt Go.RowKit
open Go.Proofs.YtllajhieocploaaGreatDoor.Rc (BelowBy BelowBy.one wp_region_below calls_below calls_same)
set_option linter.unusedVariables false
/-- What a measure leaves: no more than there was, and less by how many there are. -/
structure Le2 (r l : Int) (m : Nat) : Prop where
  le : r ≤ l
  sum : 0 ≤ r → r + (m : Int) ≤ l
set_option maxRecDepth 100000 in
set_option maxHeartbeats 4000000 in
theorem to_any (x : Rw) (w : World) : Calls Tryz.prog 61 #[rv x] w fun e w' => e = .returned (rv x) ∧ Below w.heap.size w w' := by
  obtain ⟨x0, x1, x2⟩ := x
  go_enter Tryz.func61, Tryz.ntmps61
  go_wp2
  refine bodyPost_ret (v := rv (x0, x1, x2)) (by simp [results, Tryz.results61, go_sem]) rfl ⟨rfl, ?_⟩
  go_grown
set_option maxRecDepth 100000 in
set_option maxHeartbeats 4000000 in
theorem eq_same (x : Rw) (w : World) : Calls Tryz.prog 72 #[rv x, rv x] w fun e w' => e = .returned (.bool true) ∧ Below w.heap.size w w' := by
  obtain ⟨x0, x1, x2⟩ := x
  go_enter Tryz.func72, Tryz.ntmps72
  go_wp2
  go_ret
  exact ⟨rfl, by go_grown⟩
set_option maxRecDepth 100000 in
set_option maxHeartbeats 4000000 in
theorem szS_any (a : Option Addr) (cap : Nat) (L : List Rw) (l : Int) (w : World) (h : Rd w a L) (hl : L.length ≤ 9223372036854775807) (h0 : 0 ≤ l) (h1 : l ≤ 1048576) :
    Calls Tryz.prog 17 #[.slice a L.length cap, .int .i64 l] w fun e w' => ∃ r : Int, e = .returned (.int .i64 r) ∧ Le2 r l L.length ∧ (0 ≤ r → L.length ≤ 1048576) ∧ Below w.heap.size w w' := by
  generalize hn : L.length = m at *
  clear h hn
  have h2 : -9223372036854775808 ≤ l - (m : Int) := by omega
  have h3 : l - (m : Int) ≤ 9223372036854775807 := by omega
  by_cases hlt : l - (m : Int) < 0
  · go_enter Tryz.func17, Tryz.ntmps17
    go_wp2
    go_ret
    first | exact ⟨-1, rfl, ⟨by omega, fun h => by omega⟩, fun h => by omega, Below.refl _ _⟩ | exact ⟨⟨by omega, fun h => by omega⟩, Below.refl _ _⟩
  · go_enter Tryz.func17, Tryz.ntmps17
    go_wp2
    go_ret
    first | exact ⟨_, rfl, ⟨by omega, fun h => by omega⟩, fun h => by omega, Below.refl _ _⟩ | exact ⟨⟨by omega, fun h => by omega⟩, fun h => by omega, Below.refl _ _⟩
theorem rcells_zero (m : Nat) : rcells (List.replicate m (0, 0, 0)) = (madeCells #[.int .i64 0, .int .i64 0, .int .i64 0] (m * 3)).toList := by
  apply List.ext_getElem?
  intro x
  by_cases hx : x < m * 3
  · have e : x = x / 3 * 3 + x % 3 := by omega
    have h1 := rcells_get (List.replicate m (0, 0, 0)) (x / 3) (x % 3) (by rw [List.length_replicate]; omega) (by omega)
    rw [← e] at h1
    have h2 : rat (List.replicate m (0, 0, 0)) (x / 3) = (0, 0, 0) := by
      rw [rat_at (by rw [List.length_replicate]; omega), List.getElem_replicate]
    rw [h1, h2]
    have h3 : x % 3 = 0 ∨ x % 3 = 1 ∨ x % 3 = 2 := by omega
    rcases h3 with h | h | h <;> simp [madeCells, hx, h, rcell]
  · rw [List.getElem?_eq_none (by rw [rcells_length, List.length_replicate]; omega), List.getElem?_eq_none (by simp [madeCells]; omega)]
set_option maxRecDepth 100000 in
set_option maxHeartbeats 4000000 in
theorem toS_any (a : Option Addr) (cap : Nat) (L : List Rw) (w : World) (h : Rd w a L) (hl : L.length ≤ 1048576) :
    Calls Tryz.prog 27 #[.slice a L.length cap] w fun e w' => ∃ v, e = .returned v ∧ Own w' w.heap.size v L ∧ Below w.heap.size w w' := by
  generalize hn : L.length = m at *
  obtain ⟨i0, hi, hz0, hz1, hz2⟩ := info_parts infoRw
  have HR := hidIt h
  have HN := hidIt hn
  clear h hn
  go_enter Tryz.func27, Tryz.ntmps27
  go_wp2_with (first
    | (at_make; refine wpList_make_full _ rfl _ _ 39 rfl w.heap.size 103 i0 (.agg #[.int .i64 0, .int .i64 0, .int .i64 0]) 3 Tryz.underlying39 hi hz0 hz1 _ _ _ _ m rfl rfl (by omega) (by omega) (by rw [hz2]; omega) (by unfold maxLen; omega) (Nat.le_refl _) ?_)
    | fail)
  intro w1 hown hgrow
  have HO : Hid (Own w1 w.heap.size (.slice (some ⟨w.heap.size, 0, none⟩) m m) (List.replicate m (0, 0, 0))) := by
    refine hidIt ?_
    unfold Own
    rw [List.length_replicate, rcells_zero]
    exact hown
  have HB := hidIt ((Below.refl w.heap.size w).grown hgrow (Nat.le_refl _) (fun k hk => by cases hk))
  clear hown hgrow
  go_wp2_with (fail)
  go_loopw [4] (fun y wx => ∃ (i : Nat) (M : List Rw), y = .int .i64 i ∧ i ≤ m ∧ M.length = m ∧ Hid (∀ j, j < i → rat M j = rat L j) ∧ Hid (Own wx w.heap.size (.slice (some ⟨w.heap.size, 0, none⟩) m m) M) ∧ Hid (Below w.heap.size w wx)) (fun y _ => (m - intOf y).toNat)
  case atStart => exact ⟨0, _, rfl, by omega, by simp, hidIt (fun j hj => by omega), HO, HB⟩
  case round =>
    obtain ⟨i, M, rfl, hin0, hM, hE, HOx, HBx⟩ := hrel
    have HRx := hidIt (HR.out.kept HBx.out)
    have HM := hidIt hM
    clear HO HB hM
    by_cases hin : i < m
    · have hin' : (i : Int) < (m : Int) := by omega
      obtain ⟨b, off, rfl, c0, c1, c2⟩ := HRx.out.all (i := i) (by rw [HN.out]; exact hin)
      generalize hx : rat L i = x at c0 c1 c2
      have HX := hidIt hx
      clear hx
      obtain ⟨x0, x1, x2⟩ := x
      simp only at c0 c1 c2
      have hC := to_any (x0, x1, x2)
      simp only [rv] at hC
      have HC := hidIt hC
      clear hC
      go_wp2_with (fail)
      refine (HC.out _).mono ?_
      rintro e w2 ⟨rfl, hb2⟩
      have HB2 := hidIt (HBx.out.trans (hb2.mono HBx.out.size))
      have HO2 := hidIt (HOx.out.kept hb2)
      have hiM : i < M.length := by rw [HM.out]; exact hin
      have HO3 := hidIt (HO2.out.whole hiM (x0, x1, x2))
      have z0 := HO2.out.at hiM (j := 0) (by omega)
      have z1 := HO2.out.at hiM (j := 1) (by omega)
      have z2 := HO2.out.at hiM (j := 2) (by omega)
      have f0 := HO2.out.free (i * 3)
      have f1 := HO2.out.free (i * 3 + 1)
      have f2 := HO2.out.free (i * 3 + 2)
      simp only [rcell, Nat.add_zero] at z0 z1 z2
      clear hb2 HRx HBx HOx HO2 HC
      have HMi := hidIt hiM
      clear hiM
      go_wp2_with (fail)
      refine ⟨⟨i + 1, _, by simp, by omega, by rw [List.length_set]; exact HM.out, hidIt (fun j hj => ?_), HO3, hidIt (((HB2.out.setCell (by simp) _).setCell (by simp) _).setCell (by simp) _)⟩, by simp [intOf]; omega⟩
      rw [rat_set HMi.out]
      split
      · next e => subst e; exact HX.out.symm
      · exact hE.out j (by omega)
    · have hin' : ¬ (i : Int) < (m : Int) := by omega
      have e : M = L := ext_rat (by rw [HM.out, HN.out]) (fun j hj => hE.out j (by rw [HM.out] at hj; omega))
      subst e
      go_wp2_with (fail)
      go_ret
      exact ⟨_, rfl, HOx.out, HBx.out⟩
set_option maxRecDepth 100000 in
set_option maxHeartbeats 4000000 in
theorem eqS_same (a a' : Option Addr) (cap cap' : Nat) (L : List Rw) (w : World) (h : Rd w a L) (h' : Rd w a' L) (hl : L.length ≤ 9223372036854775807) :
    Calls Tryz.prog 36 #[.slice a L.length cap, .slice a' L.length cap'] w fun e w' => e = .returned (.bool true) ∧ Below w.heap.size w w' := by
  generalize hn : L.length = m at *
  have HA := hidIt h
  have HA' := hidIt h'
  have HN := hidIt hn
  clear h h' hn
  have hmm : ((m : Int) != (m : Int)) = false := by simp
  go_enter Tryz.func36, Tryz.ntmps36
  go_wp2_with (fail)
  go_loopw [5] (fun y wx => ∃ i : Nat, y = .int .i64 i ∧ i ≤ m ∧ Hid (Below w.heap.size w wx)) (fun y _ => (m - intOf y).toNat)
  case atStart => exact ⟨0, rfl, by omega, hidIt (Below.refl _ _)⟩
  case round =>
    obtain ⟨i, rfl, hi, hB⟩ := hrel
    by_cases hin : i < m
    · have hin' : (i : Int) < (m : Int) := by omega
      obtain ⟨b, off, rfl, c0, c1, c2⟩ := (HA.out.kept hB.out).all (i := i) (by rw [HN.out]; exact hin)
      obtain ⟨b', off', rfl, d0, d1, d2⟩ := (HA'.out.kept hB.out).all (i := i) (by rw [HN.out]; exact hin)
      have hC := eq_same (rat L i)
      generalize rat L i = x at c0 c1 c2 d0 d1 d2 hC
      obtain ⟨x0, x1, x2⟩ := x
      simp only [rv] at hC c0 c1 c2 d0 d1 d2
      have HC := hidIt hC
      clear hC
      haveI := BelowBy.one wr
      have g0 := fun p : BelowBy wr => p.cell c0
      have g1 := fun p : BelowBy wr => p.cell c1
      have g2 := fun p : BelowBy wr => p.cell c2
      have k0 := fun p : BelowBy wr => p.cell d0
      have k1 := fun p : BelowBy wr => p.cell d1
      have k2 := fun p : BelowBy wr => p.cell d2
      go_wp2_with (fail)
      refine wp_region_below (by kernel_rfl) (by kernel_rfl) ?_
      repeat (go_big_quiet_step (first | (go_at_call 72; refine calls_below (HC.out _))))
      refine wpQuiet_nil ?_
      intro _ hw'
      obtain ⟨pq, rfl⟩ := hw'
      have hB1 := hidIt (hB.out.trans (pq.h.mono hB.out.size))
      generalize pq.world = w2 at hB1 ⊢
      clear c0 c1 c2 d0 d1 d2 g0 g1 g2 k0 k1 k2
      go_wp2_with (fail)
      exact ⟨⟨i + 1, by simp, by omega, hB1⟩, by simp [intOf]; omega⟩
    · have hin' : ¬ (i : Int) < (m : Int) := by omega
      go_wp2_with (fail)
      go_ret
      exact ⟨rfl, hB.out⟩
end Go.Proofs.YtllajhieocploaaGreatDoor.Bu
namespace Go.Proofs.YtllajhieocploaaGreatDoor.Bu
open Go.ChangeShapes Go.WideShapes Go.ChangeAt Go.RowKit
open Go.Proofs.YtllajhieocploaaGreatDoor.Rc (BelowBy BelowBy.one BelowBy.cell wp_region_below calls_below calls_same)
set_option linter.unusedVariables false
set_option linter.unusedSimpArgs false
/-- The marks of m Buckets from number k on. -/
def markX (k m : Nat) : List Rw := (List.range m).map fun j => (((k + 3 * j : Nat) : Int), ((k + 3 * j + 1 : Nat) : Int), ((k + 3 * j + 2 : Nat) : Int))
theorem markX_length (k m : Nat) : (markX k m).length = m := by simp [markX]
theorem rat_markX (k m j : Nat) (h : j < m) : rat (markX k m) j = (((k + 3 * j : Nat) : Int), ((k + 3 * j + 1 : Nat) : Int), ((k + 3 * j + 2 : Nat) : Int)) := by
  unfold markX
  rw [rat_map _ _ _ h]
theorem set_self {L : List Rw} {i : Nat} : L.set i (rat L i) = L := by
  by_cases h : i < L.length
  · apply ext_rat (by rw [List.length_set])
    intro t ht
    rw [rat_set h]
    split
    · next e => rw [e]
    · rfl
  · rw [List.set_eq_of_length_le (by omega)]
theorem Own.put0 {w : World} {base g m cap i : Nat} {L : List Rw} {y0 y1 y2} (h : Own w base (.slice (some ⟨g, 0, none⟩) m cap) (L.set i (y0, y1, y2))) (hi : i < L.length) (v : Int) : Own (w.setCell ⟨g, i * 3, none⟩ (.int .i64 v)) base (.slice (some ⟨g, 0, none⟩) m cap) (L.set i (v, y1, y2)) := by
  have h1 := h.set (i := i) (j := 0) (v := .int .i64 v) (y := (v, y1, y2)) (by rw [List.length_set]; exact hi) (by omega) (fun k hk => by
    rw [rat_set hi, if_pos rfl]
    match k, hk with
    | 0, _ => rfl
    | 1, _ => rfl
    | 2, _ => rfl)
  rw [List.set_set] at h1
  exact h1
theorem Own.put1 {w : World} {base g m cap i : Nat} {L : List Rw} {y0 y1 y2} (h : Own w base (.slice (some ⟨g, 0, none⟩) m cap) (L.set i (y0, y1, y2))) (hi : i < L.length) (v : Int) : Own (w.setCell ⟨g, i * 3 + 1, none⟩ (.int .i64 v)) base (.slice (some ⟨g, 0, none⟩) m cap) (L.set i (y0, v, y2)) := by
  have h1 := h.set (i := i) (j := 1) (v := .int .i64 v) (y := (y0, v, y2)) (by rw [List.length_set]; exact hi) (by omega) (fun k hk => by
    rw [rat_set hi, if_pos rfl]
    match k, hk with
    | 0, _ => rfl
    | 1, _ => rfl
    | 2, _ => rfl)
  rw [List.set_set] at h1
  exact h1
theorem Own.put2 {w : World} {base g m cap i : Nat} {L : List Rw} {y0 y1 y2} (h : Own w base (.slice (some ⟨g, 0, none⟩) m cap) (L.set i (y0, y1, y2))) (hi : i < L.length) (v : Int) : Own (w.setCell ⟨g, i * 3 + 2, none⟩ (.int .i64 v)) base (.slice (some ⟨g, 0, none⟩) m cap) (L.set i (y0, y1, v)) := by
  have h1 := h.set (i := i) (j := 2) (v := .int .i64 v) (y := (y0, y1, v)) (by rw [List.length_set]; exact hi) (by omega) (fun k hk => by
    rw [rat_set hi, if_pos rfl]
    match k, hk with
    | 0, _ => rfl
    | 1, _ => rfl
    | 2, _ => rfl)
  rw [List.set_set] at h1
  exact h1
set_option maxRecDepth 100000 in
set_option maxHeartbeats 8000000 in
theorem markS_any (base : Nat) (v : Value) (L : List Rw) (k : Nat) (w : World) (h : Own w base v L) (h1 : 1 ≤ k) (h2 : k + 3 * L.length ≤ 1099511627776) :
    Calls Tryz.prog 47 #[v, .int .i64 k] w fun e w' => e = .returned (.int .i64 ((k + 3 * L.length : Nat) : Int)) ∧ Own w' base v (markX k L.length) ∧ Only (ob w v) w w' := by
  obtain ⟨a, cap, rfl, hcap, hcm, hR, hna, hsome⟩ := h.form
  cases a with
  | none =>
    have e := hR.none_nil
    subst e
    have e := hna rfl
    subst e
    clear hsome hna
    go_enter Tryz.func47, Tryz.ntmps47
    go_wp2_with (fail)
    refine wp_loop_rounds 1 ?_
    rw [rounds_succ]
    go_wp2_with (fail)
    go_ret
    exact ⟨by simp, h, Only.refl _ _⟩
  | some x =>
    obtain ⟨g, rfl, hbg, hgl⟩ := hsome x rfl
    have eo : ob w (.slice (some ⟨g, 0, none⟩) L.length cap) = g := rfl
    rw [eo]
    have HO := hidIt h
    generalize hn : L.length = m at *
    have HN := hidIt hn
    clear h hR hna hsome hn eo hcm
    go_enter Tryz.func47, Tryz.ntmps47
    go_wp2_with (fail)
    go_loopw [1, 5] (fun z y wx => ∃ (i : Nat) (M : List Rw), y = .int .i64 i ∧ z = .int .i64 ((k + 3 * i : Nat) : Int) ∧ i ≤ m ∧ M.length = m ∧ Hid (∀ j, j < i → rat M j = (((k + 3 * j : Nat) : Int), ((k + 3 * j + 1 : Nat) : Int), ((k + 3 * j + 2 : Nat) : Int))) ∧ Hid (Own wx base (.slice (some ⟨g, 0, none⟩) m cap) M) ∧ Hid (Only g w wx)) (fun _ y _ => (m - intOf y).toNat)
    case atStart => exact ⟨0, L, rfl, rfl, by omega, HN.out, hidIt (fun j hj => by omega), HO, hidIt (Only.refl _ _)⟩
    case round =>
      obtain ⟨i, M, rfl, rfl, hi, hM, hE, HOx, HY⟩ := hrel
      have HM := hidIt hM
      clear hM HO
      by_cases hin : i < m
      · have hin' : (i : Int) < (m : Int) := by omega
        have HMi : Hid (i < M.length) := hidIt (by rw [HM.out]; exact hin)
        generalize hk : k + 3 * i = q
        have HK := hidIt hk
        clear hk
        have q1 : q + 3 ≤ 1099511627776 := by have := HK.out; omega
        have HEY : Hid (((q : Int), (q : Int) + 1, (q : Int) + 1 + 1) = (((q : Nat) : Int), ((q + 1 : Nat) : Int), ((q + 2 : Nat) : Int))) := hidIt (by rw [show (q : Int) + 1 + 1 = ((q + 2 : Nat) : Int) by omega, show (q : Int) + 1 = ((q + 1 : Nat) : Int) by omega])
        have HO : Hid (Own wr base (.slice (some ⟨g, 0, none⟩) m cap) (M.set i (rat M i))) := hidIt (by rw [set_self]; exact HOx.out)
        clear HOx
        generalize rat M i = r at HO
        obtain ⟨r0, r1, r2⟩ := r
        have z0 := HO.out.at (i := i) (by rw [List.length_set]; exact HMi.out) (j := 0) (by omega)
        have f0 := HO.out.free (i * 3)
        have z1 := HO.out.at (i := i) (by rw [List.length_set]; exact HMi.out) (j := 1) (by omega)
        have f1 := HO.out.free (i * 3 + 1)
        have z2 := HO.out.at (i := i) (by rw [List.length_set]; exact HMi.out) (j := 2) (by omega)
        have f2 := HO.out.free (i * 3 + 2)
        simp only [rcell, Nat.add_zero] at z0 z1 z2
        replace HO := hidIt (((HO.out.put0 HMi.out ((q : Int))).put1 HMi.out ((q : Int) + 1)).put2 HMi.out ((q : Int) + 1 + 1))
        replace HY := hidIt (((HY.out.setCell (i * 3) (.int .i64 ((q : Int)))).setCell (i * 3 + 1) (.int .i64 ((q : Int) + 1))).setCell (i * 3 + 2) (.int .i64 ((q : Int) + 1 + 1)))
        go_wp2_with (fail)
        refine ⟨⟨i + 1, _, by simp, ?_, by omega, by rw [List.length_set]; exact HM.out, hidIt (fun j hj => ?_), HO, HY⟩, by simp [intOf]; omega⟩
        · have := HK.out
          congr 1
          omega
        · rw [rat_set HMi.out]
          split
          · next e =>
            subst e
            rw [HK.out, ← HEY.out]
          · exact hE.out j (by omega)
      · have hin' : ¬ (i : Int) < (m : Int) := by omega
        have HI : Hid (i = m) := hidIt (by omega)
        have e : M = markX k m := ext_rat (by rw [HM.out, markX_length]) (fun j hj => by rw [HM.out] at hj; rw [hE.out j (by have := HI.out; omega), rat_markX _ _ _ hj])
        subst e
        have ei : i = m := HI.out
        subst ei
        generalize hk : k + 3 * i = q
        go_wp2_with (fail)
        go_ret
        exact ⟨rfl, HOx.out, HY.out⟩
end Go.Proofs.YtllajhieocploaaGreatDoor.Bu
namespace Go.Proofs.YtllajhieocploaaGreatDoor.Dd
open Go.ChangeShapes Go.WideShapes Go.ChangeAt Go.RowKit
open Cv Cu Sg
open Go.Proofs.YtllajhieocploaaGreatDoor.Bo (Box Box.new Box.newAt Box.kept Box.alloc Box.put Box.other Box.c Box.drew)
open Go.Proofs.YtllajhieocploaaGreatDoor.Ro (timB secB inB)
open Go.Proofs.YtllajhieocploaaGreatDoor.Ro (spec_l3Secret)
open Go.Proofs.YtllajhieocploaaGreatDoor.Ro (spec_l9Time)
open Go.Proofs.YtllajhieocploaaGreatDoor.Rc (BelowBy wp_region_below calls_below calls_same)
set_option linter.unusedVariables false
/-- The cells of a Seal, and the Seal. -/
abbrev sc (k1 k2 u r1 r2 t : Int) : Array Value := #[.int .i64 k1, .int .i64 k2, .int .i64 u, .int .i64 r1, .int .i64 r2, .int .i64 t]
abbrev sv (k1 k2 u r1 r2 t : Int) : Value := .agg (sc k1 k2 u r1 r2 t)
theorem ret_box {fn : Func} {tm : Array Value} {wf : World} {b : Nat} {c : Array Value} {v : Value} (t : Box wf b c) (h : ∀ w2, Box w2 b c → (results fn tm).run Tryz.prog w2 = .ok v w2) : (results fn tm).run Tryz.prog wf = .ok v wf := h wf t
/-- What is sealed: Until, a blank, the text. -/
def stx (u : Nat) (s : ByteArray) : ByteArray := numS u ++ Sg.blank ++ s
theorem stx_eq (u : Nat) (s : ByteArray) : stx u s = numS u ++ ⟨#[32]⟩ ++ s := rfl
theorem stx_size {u : Nat} {s : ByteArray} (hu : u ≤ 1099511627776) : (stx u s).size ≤ s.size + 22 := by
  have := numS_size u hu
  unfold stx
  rw [ByteArray.size_append, ByteArray.size_append, Sg.blank_size]
  omega
theorem tim_nat {u : Int} (h : timB u = true) : ∃ m : Nat, u = (m : Int) ∧ m ≤ 1000000 := by
  unfold timB inB at h
  simp only [Bool.and_eq_true, decide_eq_true_eq] at h
  exact ⟨u.toNat, by omega, by omega⟩
theorem sec_nat {u : Int} (h : secB u = true) : ∃ m : Nat, u = (m : Int) ∧ 0 < m ∧ m < 2549 := by
  unfold secB inB at h
  simp only [Bool.and_eq_true, decide_eq_true_eq] at h
  exact ⟨u.toNat, by omega, by omega, by omega⟩
set_option maxRecDepth 100000 in
set_option maxHeartbeats 4000000 in
theorem spec_l9Seal_aux (n u : Nat) (K1 K2 R1 R2 T : Int) (s x : ByteArray) (w : World) (hx : x.size ≤ 21) (hs : s.size ≤ 4611686018427370000)
    (cn : ∀ w, Calls Tryz.prog 89 #[.int .i64 u] w fun e w' => e = .returned (.string x) ∧ Below w.heap.size w w')
    (ck : ∀ w, Calls Tryz.prog 106 #[.int .i64 n, .agg #[.int .i64 2791, .int .i64 6375]] w fun e w' => e = .returned (.agg #[.int .i64 K1, .int .i64 K2]) ∧ Below w.heap.size w w')
    (cs : ∀ w, Calls Tryz.prog 108 #[.int .i64 n, .string (x ++ ⟨#[32]⟩ ++ s)] w fun e w' => e = .returned (.agg #[.int .i64 R1, .int .i64 R2, .int .i64 T]) ∧ Below w.heap.size w w') :
    Calls Tryz.prog 75 #[.int .i64 n, .string s, .int .i64 u] w fun e w' => e = .returned (sv K1 K2 u R1 R2 T) ∧ Below w.heap.size w w' := by
  have CK := hidIt ck
  have CN := hidIt cn
  have CS := hidIt cs
  have g0 : (⟨#[32]⟩ : ByteArray).size = 1 := rfl
  have g1 : ¬ 9223372036854775807 < x.size + 1 := by omega
  have g2 : ¬ 9223372036854775807 < x.size + 1 + s.size := by omega
  clear ck cn cs
  have BA := hidIt (Box.new w (sc 0 0 0 0 0 0) 52)
  have HB : Hid (Below w.heap.size w (w.alloc (.cells (sc 0 0 0 0 0 0) 52))) := hidIt ((Below.refl w.heap.size w).alloc (Nat.le_refl _) _)
  go_enter Tryz.func75, Tryz.ntmps75
  go_wp2_with (fail)
  refine (spec_Base _).mono ?_
  rintro e w1 ⟨rfl, k⟩
  replace BA := hidIt (BA.out.kept k)
  replace HB := hidIt (HB.out.trans (k.mono HB.out.size))
  clear k
  go_wp2_with (fail)
  refine (CK.out _).mono ?_
  rintro e w2 ⟨rfl, k⟩
  replace BA := hidIt (BA.out.kept k)
  replace HB := hidIt (HB.out.trans (k.mono HB.out.size))
  clear k
  go_wp2_with (fail)
  refine (CN.out _).mono ?_
  rintro e w3 ⟨rfl, k⟩
  replace BA := hidIt (BA.out.kept k)
  replace HB := hidIt (HB.out.trans (k.mono HB.out.size))
  clear k
  go_wp2_with (fail)
  refine (CS.out _).mono ?_
  rintro e w4 ⟨rfl, k⟩
  replace BA := hidIt (BA.out.kept k)
  replace HB := hidIt (HB.out.trans (k.mono HB.out.size))
  clear k
  have c0 := BA.out.c 0 rfl
  have c1 := BA.out.c 1 rfl
  have c2 := BA.out.c 2 rfl
  have c3 := BA.out.c 3 rfl
  have c4 := BA.out.c 4 rfl
  have c5 := BA.out.c 5 rfl
  have f0 := BA.out.fr 0
  have f1 := BA.out.fr 1
  have f2 := BA.out.fr 2
  have f3 := BA.out.fr 3
  have f4 := BA.out.fr 4
  have f5 := BA.out.fr 5
  go_wp2_with (fail)
  have BZ := (((((BA.out.put (c' := sc K1 0 0 0 0 0) 0 (.int .i64 K1) (by simp) rfl).put (c' := sc K1 K2 0 0 0 0) 1 (.int .i64 K2) (by simp) rfl).put (c' := sc K1 K2 u 0 0 0) 2 (.int .i64 u) (by simp) rfl).put (c' := sc K1 K2 u R1 0 0) 3 (.int .i64 R1) (by simp) rfl).put (c' := sc K1 K2 u R1 R2 0) 4 (.int .i64 R2) (by simp) rfl).put (c' := sc K1 K2 u R1 R2 T) 5 (.int .i64 T) (by simp) rfl
  refine bodyPost_ret (v := sv K1 K2 u R1 R2 T) ?_ rfl ⟨rfl, ?_⟩
  · refine ret_box BZ (fun w9 j => ?_)
    have j0 := j.c 0 rfl
    have j1 := j.c 1 rfl
    have j2 := j.c 2 rfl
    have j3 := j.c 3 rfl
    have j4 := j.c 4 rfl
    have j5 := j.c 5 rfl
    clear BZ c0 c1 c2 c3 c4 c5 f0 f1 f2 f3 f4 f5
    simp [results, Tryz.results75, go_sem, j0, j1, j2, j3, j4, j5]
  · exact ((((((HB.out.setCell (by simp) _).setCell (by simp) _).setCell (by simp) _).setCell (by simp) _).setCell (by simp) _).setCell (by simp) _)
theorem spec_l9Seal (n u : Nat) (s : ByteArray) (w : World) (hn : n < 2549) (hu : u ≤ 1000000) (hs : s.size ≤ 4611686018427370000) :
    Calls Tryz.prog 75 #[.int .i64 n, .string s, .int .i64 u] w fun e w' => e = .returned (sv (ns (2791, 6375) n).1 (ns (2791, 6375) n).2 u (sgR n (stx u s)).1 (sgR n (stx u s)).2 (sgT n (stx u s))) ∧ Below w.heap.size w w' := by
  have cs := fun w => l3Signed_any n (stx u s) w hn (by have := stx_size (u := u) (s := s) (by omega); omega)
  have cn := fun w => l1Int_any u w (by omega)
  have ck := fun w => l2Times_any 2791 6375 n w ok_base (by omega)
  generalize sgR n (stx u s) = R at cs ⊢
  generalize sgT n (stx u s) = T at cs ⊢
  generalize ns (2791, 6375) n = K at ck ⊢
  exact spec_l9Seal_aux n u K.1 K.2 R.1 R.2 T s (numS u) w (numS_size u (by omega)) hs cn ck cs
/-- The Seal of a secret, a time and a text. -/
def sealN (n u : Nat) (s : ByteArray) : Int × Int × Int × Int × Int × Int :=
  (((ns (2791, 6375) n).1 : Int), ((ns (2791, 6375) n).2 : Int), (u : Int), ((sgR n (stx u s)).1 : Int), ((sgR n (stx u s)).2 : Int), (sgT n (stx u s) : Int))
theorem sealN_eq (n u : Nat) (s : ByteArray) : sealN n u s = (((ns (2791, 6375) n).1 : Int), ((ns (2791, 6375) n).2 : Int), (u : Int), ((sgR n (stx u s)).1 : Int), ((sgR n (stx u s)).2 : Int), (sgT n (stx u s) : Int)) := sealN.eq_1 n u s
/-- SealOf's answer. -/
def sealR (n : Int) (s : ByteArray) (u : Int) : (Int × Int × Int × Int × Int × Int) × Bool :=
  if secB n && timB u then (sealN n.toNat u.toNat s, true) else ((0, 0, 0, 0, 0, 0), false)
abbrev svt (q : Int × Int × Int × Int × Int × Int) : Value := sv q.1 q.2.1 q.2.2.1 q.2.2.2.1 q.2.2.2.2.1 q.2.2.2.2.2
theorem sealR_yes {n u : Nat} {s : ByteArray} (h : secB n = true) (h' : timB u = true) : sealR n s u = (sealN n u s, true) := by
  unfold sealR
  rw [h, h', Int.toNat_natCast, Int.toNat_natCast]
  rfl
theorem sealR_no {n u : Int} {s : ByteArray} (h : secB n = false ∨ timB u = false) : sealR n s u = ((0, 0, 0, 0, 0, 0), false) := by
  unfold sealR
  rcases h with h | h
  · rw [h]; rfl
  · rw [h, Bool.and_false]; rfl
end Go.Proofs.YtllajhieocploaaGreatDoor.Dd
