/-
  Buckets in plain words: which lists are right, what is left for a Source, what is drawn. No program in sight but for the tuple that a Bucket is.
  BucketsOk and LeftFor of the specification. (Written by wip/mkBuS.py.)
  What the laws do with one Bucket and with a list of them: the measure, the copy, whether two are alike. (Written by wip/mkrow.py.)
  A list of Entrys as it lies in memory: 5 cells each; a row of the call's own; one that came in. (Written by wip/mkrow.py.)
  EntryOk, Newer and BookOk of the specification.
-/
import Derived.Test.YtceddedlfdgbhaaGreatDoorBun2
import Derived.Test.YtceddedlfdgbhaaGreatDoorBoxM
import Derived.Test.YtceddedlfdgbhaaGreatDoorQuiet
import Derived.Handy
import Derived.Test.YtceddedlfdgbhaaGreatDoorMem
import Derived.Test.YtceddedlfdgbhaaGreatDoorProg
import Derived.Laws.OwnMore
import Derived.Deep.OwnRows
import Derived.Deep.Strs
import Derived.OwnWalk
import Derived.OpenShut
import Derived.Laws.AppendOwn
import Derived.Lib.SmallJoins
import Derived.Deep.RegionHeld3
import Derived.Lib.Strings
namespace Go.Proofs.YtceddedlfdgbhaaGreatDoor.Bu
open Go.ChangeShapes Go.WideShapes Go.ChangeAt Go.RowKit
set_option linter.unusedVariables false
def inB (n lo hi : Int) : Bool := decide (lo ≤ n) && decide (n ≤ hi)
theorem inB_to {n lo hi : Int} (h : inB n lo hi = true) : lo ≤ n ∧ n ≤ hi := by simpa [inB] using h
theorem inB_of {n lo hi : Int} (h : lo ≤ n) (k : n ≤ hi) : inB n lo hi = true := by simp [inB, h, k]
theorem inB_no {n lo hi : Int} (h : n < lo ∨ hi < n) : inB n lo hi = false := by
  cases e : inB n lo hi with
  | false => rfl
  | true => have := inB_to e; omega
/-- One Bucket that is right. -/
def okX (x : Rw) : Bool := inB x.1 0 99 && (inB x.2.1 0 5 && inB x.2.2 0 1000000)
theorem okX_to {x : Rw} (h : okX x = true) : (0 ≤ x.1 ∧ x.1 ≤ 99) ∧ (0 ≤ x.2.1 ∧ x.2.1 ≤ 5) ∧ (0 ≤ x.2.2 ∧ x.2.2 ≤ 1000000) := by
  simp only [okX, Bool.and_eq_true] at h
  exact ⟨inB_to h.1, inB_to h.2.1, inB_to h.2.2⟩
theorem okX_of {a b c : Int} (h1 : 0 ≤ a) (h2 : a ≤ 99) (h3 : 0 ≤ b) (h4 : b ≤ 5) (h5 : 0 ≤ c) (h6 : c ≤ 1000000) : okX (a, b, c) = true := by
  simp only [okX, Bool.and_eq_true]
  exact ⟨inB_of h1 h2, inB_of h3 h4, inB_of h5 h6⟩
abbrev sat (L : List Rw) (i : Nat) : Int := (rat L i).1
def okB (L : List Rw) : Bool := decide (L.length ≤ 20) && (L.all okX && (List.range (L.length - 1)).all (fun i => decide (sat L i < sat L (i + 1))))
theorem okB_len {L : List Rw} (h : okB L = true) : L.length ≤ 20 := by simp only [okB, Bool.and_eq_true, decide_eq_true_eq] at h; exact h.1
theorem okB_at {L : List Rw} (h : okB L = true) {i : Nat} (hi : i < L.length) : okX (rat L i) = true := by
  simp only [okB, Bool.and_eq_true, List.all_eq_true] at h
  exact h.2.1 _ (rat_mem hi)
theorem okB_ris {L : List Rw} (h : okB L = true) (i : Nat) (hi : i + 1 < L.length) : sat L i < sat L (i + 1) := by
  simp only [okB, Bool.and_eq_true, List.all_eq_true] at h
  exact of_decide_eq_true (h.2.2 i (List.mem_range.2 (by omega)))
theorem okB_yes {L : List Rw} (h1 : L.length ≤ 20) (h2 : ∀ i, i < L.length → okX (rat L i) = true) (h3 : ∀ i, i + 1 < L.length → sat L i < sat L (i + 1)) : okB L = true := by
  simp only [okB, Bool.and_eq_true, List.all_eq_true, decide_eq_true_eq]
  refine ⟨h1, fun x hx => ?_, fun i hi => h3 i (by have := List.mem_range.1 hi; omega)⟩
  obtain ⟨i, hi, rfl⟩ := List.mem_iff_getElem.1 hx
  have := h2 i hi
  rwa [rat_at hi] at this
theorem okB_no1 {L : List Rw} (h : ¬ L.length ≤ 20) : okB L = false := by
  cases e : okB L with
  | false => rfl
  | true => exact absurd (okB_len e) h
theorem okB_no2 {L : List Rw} {i : Nat} (hi : i < L.length) (h : okX (rat L i) = false) : okB L = false := by
  cases e : okB L with
  | false => rfl
  | true => have := okB_at e hi; rw [h] at this; cases this
theorem okB_no3 {L : List Rw} {i : Nat} (hi : i + 1 < L.length) (h : ¬ sat L i < sat L (i + 1)) : okB L = false := by
  cases e : okB L with
  | false => rfl
  | true => exact absurd (okB_ris e i hi) h
theorem okB_far {L : List Rw} (h : okB L = true) : ∀ i j, i < j → j < L.length → sat L i < sat L j := by
  have far : ∀ d i, i + d + 1 < L.length → sat L i < sat L (i + d + 1) := by
    intro d
    induction d with
    | zero => intro i hi; exact okB_ris h i hi
    | succ d ih => intro i hi; exact Int.lt_trans (ih i (by omega)) (okB_ris h (i + d + 1) hi)
  intro i j hij hj
  have := far (j - i - 1) i (by omega)
  rwa [show i + (j - i - 1) + 1 = j by omega] at this
/-- The first place of a Source. -/
def bat (L : List Rw) (s : Int) : Option Nat := (List.range L.length).find? (fun i => decide (sat L i = s))
theorem bat_none {L : List Rw} {s : Int} (h : bat L s = none) : ∀ i, i < L.length → sat L i ≠ s := by
  intro i hi
  have := List.find?_eq_none.1 h i (List.mem_range.2 hi)
  simpa using this
theorem bat_some {L : List Rw} {s : Int} {j : Nat} (h : bat L s = some j) : j < L.length ∧ sat L j = s := by
  have h1 := List.find?_some h
  have h2 := List.mem_of_find?_eq_some h
  exact ⟨List.mem_range.1 h2, of_decide_eq_true h1⟩
theorem bat_no {L : List Rw} {s : Int} (h : ∀ i, i < L.length → sat L i ≠ s) : bat L s = none := by
  cases e : bat L s with
  | none => rfl
  | some j => have := bat_some e; exact absurd this.2 (h j this.1)
theorem bat_first {L : List Rw} {s : Int} {j : Nat} (hj : j < L.length) (hs : sat L j = s) (hf : ∀ i, i < j → sat L i ≠ s) : bat L s = some j := by
  unfold bat
  rw [List.find?_range_eq_some]
  exact ⟨decide_eq_true hs, List.mem_range.2 hj, fun i hi => by simpa using hf i hi⟩
/-- In right Buckets a Source has one place. -/
theorem bat_is {L : List Rw} {s : Int} {j : Nat} (h : okB L = true) (hj : j < L.length) (hs : sat L j = s) : bat L s = some j :=
  bat_first hj hs (fun i hi e => by have := okB_far h i j hi hj; rw [e, hs] at this; exact absurd this (Int.lt_irrefl _))
/-- What is left at a time; -1: it is not as told. -/
def leftR (L : List Rw) (s now : Int) : Int :=
  if inB s 0 99 && inB now 0 1000000 then
    match bat L s with
    | none => 5
    | some j => if now < (rat L j).2.2 then -1 else min 5 ((rat L j).2.1 + now - (rat L j).2.2)
  else -1
theorem left_range {L : List Rw} {s now : Int} (h : (inB s 0 99 && inB now 0 1000000) = false) : leftR L s now = -1 := by unfold leftR; rw [h]; rfl
theorem left_new {L : List Rw} {s now : Int} (h : (inB s 0 99 && inB now 0 1000000) = true) (e : bat L s = none) : leftR L s now = 5 := by unfold leftR; rw [h, e]; rfl
theorem left_late {L : List Rw} {s now : Int} {j : Nat} (h : (inB s 0 99 && inB now 0 1000000) = true) (e : bat L s = some j) (g : now < (rat L j).2.2) : leftR L s now = -1 := by unfold leftR; rw [h, e]; simp [g]
theorem left_old {L : List Rw} {s now : Int} {j : Nat} (h : (inB s 0 99 && inB now 0 1000000) = true) (e : bat L s = some j) (g : ¬ now < (rat L j).2.2) : leftR L s now = min 5 ((rat L j).2.1 + now - (rat L j).2.2) := by unfold leftR; rw [h, e]; simp [g]
theorem left_le (L : List Rw) (s now : Int) : leftR L s now ≤ 5 := by
  unfold leftR
  split
  · split
    · omega
    · split
      · omega
      · exact Int.min_le_left _ _
  · omega
/-- How many of the first are below. -/
def plc : List Rw → Int → Nat
  | [], _ => 0
  | x :: r, s => if x.1 < s then plc r s + 1 else 0
theorem plc_le : ∀ (L : List Rw) (s : Int), plc L s ≤ L.length
  | [], _ => Nat.le_refl _
  | x :: r, s => by
    unfold plc
    have := plc_le r s
    split
    · simp; omega
    · simp
theorem rat_cons (x : Rw) (r : List Rw) (i : Nat) : rat (x :: r) (i + 1) = rat r i := rfl
theorem plc_below : ∀ (L : List Rw) (s : Int) (i : Nat), i < plc L s → sat L i < s
  | [], _, i, h => by simp [plc] at h
  | x :: r, s, i, h => by
    unfold plc at h
    split at h
    · rename_i hx
      cases i with
      | zero => exact hx
      | succ i => exact plc_below r s i (by omega)
    · omega
theorem plc_end : ∀ (L : List Rw) (s : Int), plc L s < L.length → ¬ sat L (plc L s) < s
  | [], _, h => by simp [plc] at h
  | x :: r, s, h => by
    by_cases hx : x.1 < s
    · have e : plc (x :: r) s = plc r s + 1 := by simp [plc, hx]
      rw [e] at h ⊢
      exact plc_end r s (by simpa using h)
    · have e : plc (x :: r) s = 0 := by simp [plc, hx]
      rw [e]
      exact hx
theorem plc_is {L : List Rw} {s : Int} {k : Nat} (hk : k ≤ L.length) (h1 : ∀ i, i < k → sat L i < s) (h2 : k < L.length → ¬ sat L k < s) : plc L s = k := by
  have a := plc_le L s
  rcases Nat.lt_trichotomy (plc L s) k with h | h | h
  · exact absurd (h1 _ h) (plc_end L s (by omega))
  · exact h
  · exact absurd (plc_below L s k h) (h2 (by omega))
/-- What is drawn of right Buckets. -/
def drawL (L : List Rw) (s now : Int) : List Rw :=
  match bat L s with
  | some j => L.set j (s, leftR L s now - 1, now)
  | none => L.take (plc L s) ++ [(s, leftR L s now - 1, now)] ++ L.drop (plc L s)
def goes (L : List Rw) (s now : Int) : Bool := decide (1 ≤ leftR L s now) && ((bat L s).isSome || decide (L.length ≠ 20))
def drawnR (L : List Rw) (s now : Int) : List Rw × Bool := if okB L then (if goes L s now then (drawL L s now, true) else (L, false)) else ([], false)
def leftForR (L : List Rw) (s now : Int) : Int := if okB L then leftR L s now else -1
theorem drawn_bad {L : List Rw} {s now : Int} (h : okB L = false) : drawnR L s now = ([], false) := by unfold drawnR; rw [h]; rfl
theorem drawn_no {L : List Rw} {s now : Int} (h : okB L = true) (g : goes L s now = false) : drawnR L s now = (L, false) := by unfold drawnR; rw [h, g]; rfl
theorem drawn_yes {L : List Rw} {s now : Int} (h : okB L = true) (g : goes L s now = true) : drawnR L s now = (drawL L s now, true) := by unfold drawnR; rw [h, g]; rfl
theorem goes_to {L : List Rw} {s now : Int} (h : goes L s now = true) : 1 ≤ leftR L s now ∧ (0 ≤ s ∧ s ≤ 99) ∧ (0 ≤ now ∧ now ≤ 1000000) ∧ (bat L s = none → L.length ≠ 20) := by
  simp only [goes, Bool.and_eq_true, decide_eq_true_eq, Bool.or_eq_true] at h
  obtain ⟨h1, h2⟩ := h
  have hr : (inB s 0 99 && inB now 0 1000000) = true := by
    cases e : (inB s 0 99 && inB now 0 1000000) with
    | true => rfl
    | false => rw [left_range e] at h1; omega
  rw [Bool.and_eq_true] at hr
  refine ⟨h1, inB_to hr.1, inB_to hr.2, fun e => ?_⟩
  rw [e] at h2
  rcases h2 with h2 | h2
  · cases h2
  · exact h2
theorem ins_length {L : List Rw} {k : Nat} {x : Rw} (hk : k ≤ L.length) : (L.take k ++ [x] ++ L.drop k).length = L.length + 1 := by
  simp only [List.length_append, List.length_take, List.length_drop, List.length_cons, List.length_nil]
  omega
theorem ins_at {L : List Rw} {k : Nat} {x : Rw} (hk : k ≤ L.length) (i : Nat) : rat (L.take k ++ [x] ++ L.drop k) i = if i < k then rat L i else if i = k then x else rat L (i - 1) := by
  unfold rat
  rw [List.append_assoc, List.getD_eq_getElem?_getD, List.getElem?_append]
  have hl : (L.take k).length = k := by rw [List.length_take]; omega
  rw [hl]
  by_cases h1 : i < k
  · rw [if_pos h1, if_pos h1, List.getElem?_take, if_pos h1, List.getD_eq_getElem?_getD]
  · rw [if_neg h1, if_neg h1]
    by_cases h2 : i = k
    · subst h2
      simp
    · rw [if_neg h2, List.getD_eq_getElem?_getD]
      obtain ⟨d, hd⟩ : ∃ d, i - k = d + 1 := ⟨i - k - 1, by omega⟩
      rw [hd]
      show (([x] ++ L.drop k)[d + 1]?).getD _ = _
      rw [List.singleton_append, List.getElem?_cons_succ, List.getElem?_drop, show k + d = i - 1 by omega]
/-- What is drawn is right. -/
theorem draw_ok {L : List Rw} {s now : Int} (h : okB L = true) (g : goes L s now = true) : okB (drawL L s now) = true := by
  obtain ⟨h1, hs, hn, hroom⟩ := goes_to g
  have hle := left_le L s now
  have hx : okX (s, leftR L s now - 1, now) = true := okX_of hs.1 hs.2 (by omega) (by omega) hn.1 hn.2
  unfold drawL
  cases e : bat L s with
  | some j =>
    obtain ⟨hj, ej⟩ := bat_some e
    refine okB_yes (by rw [List.length_set]; exact okB_len h) (fun i hi => ?_) (fun i hi => ?_)
    · rw [List.length_set] at hi
      rw [rat_set hj]
      split
      · exact hx
      · exact okB_at h hi
    · rw [List.length_set] at hi
      have hri := okB_ris h i hi
      unfold sat
      rw [rat_set hj, rat_set hj]
      by_cases e1 : j = i
      · subst e1
        rw [if_pos rfl, if_neg (by omega)]
        show s < _
        rw [← ej]
        exact hri
      · rw [if_neg e1]
        by_cases e2 : j = i + 1
        · subst e2
          rw [if_pos rfl]
          show _ < s
          rw [← ej]
          exact hri
        · rw [if_neg e2]
          exact hri
  | none =>
    have hk := plc_le L s
    have h20 := hroom e
    have hlen := okB_len h
    have hne := bat_none e
    refine okB_yes (by rw [ins_length hk]; omega) (fun i hi => ?_) (fun i hi => ?_)
    · rw [ins_length hk] at hi
      rw [ins_at hk]
      split
      · exact okB_at h (by omega)
      · split
        · exact hx
        · exact okB_at h (by omega)
    · rw [ins_length hk] at hi
      unfold sat
      rw [ins_at hk, ins_at hk]
      by_cases a1 : i + 1 < plc L s
      · rw [if_pos (by omega), if_pos a1]
        exact okB_ris h i (by omega)
      · by_cases a2 : i + 1 = plc L s
        · rw [if_pos (by omega), if_neg a1, if_pos a2]
          exact plc_below L s i (by omega)
        · by_cases a3 : i = plc L s
          · rw [if_neg (by omega), if_pos a3, if_neg a1, if_neg a2]
            show s < sat L (i + 1 - 1)
            have := plc_end L s (by omega)
            have := hne (plc L s) (by omega)
            rw [show i + 1 - 1 = plc L s by omega]
            omega
          · rw [if_neg (by omega), if_neg a3, if_neg a1, if_neg a2]
            have := okB_ris h (i - 1) (by omega)
            rw [show i - 1 + 1 = i + 1 - 1 by omega] at this
            exact this
/-- Where the Source stands in what is drawn. -/
theorem draw_bat {L : List Rw} {s now : Int} (h : okB L = true) (g : goes L s now = true) : ∃ j, bat (drawL L s now) s = some j ∧ rat (drawL L s now) j = (s, leftR L s now - 1, now) := by
  have hok := draw_ok h g
  have key : ∀ j, j < (drawL L s now).length → rat (drawL L s now) j = (s, leftR L s now - 1, now) → ∃ j, bat (drawL L s now) s = some j ∧ rat (drawL L s now) j = (s, leftR L s now - 1, now) := fun j hj hr => ⟨j, bat_is hok hj (by show (rat _ j).1 = s; rw [hr]), hr⟩
  cases e : bat L s with
  | some j =>
    obtain ⟨hj, ej⟩ := bat_some e
    have ed : drawL L s now = L.set j (s, leftR L s now - 1, now) := by unfold drawL; rw [e]
    refine key j (by rw [ed, List.length_set]; exact hj) ?_
    rw [ed, rat_set hj, if_pos rfl]
  | none =>
    have hk := plc_le L s
    have ed : drawL L s now = L.take (plc L s) ++ [(s, leftR L s now - 1, now)] ++ L.drop (plc L s) := by unfold drawL; rw [e]
    refine key (plc L s) (by rw [ed, ins_length hk]; omega) ?_
    rw [ed, ins_at hk, if_neg (by omega), if_pos rfl]
theorem draw_left {L : List Rw} {s now : Int} (h : okB L = true) (g : goes L s now = true) : leftR (drawL L s now) s now = leftR L s now - 1 := by
  obtain ⟨h1, hs, hn, _⟩ := goes_to g
  obtain ⟨j, e1, e2⟩ := draw_bat h g
  have hle := left_le L s now
  have hr : (inB s 0 99 && inB now 0 1000000) = true := by rw [inB_of hs.1 hs.2, inB_of hn.1 hn.2]; rfl
  rw [left_old hr e1 (by rw [e2]; exact Int.lt_irrefl _), e2]
  show min 5 (leftR L s now - 1 + now - now) = _
  omega
/-- Another Source has what it had. -/
theorem draw_other {L : List Rw} {s now o : Int} (h : okB L = true) (g : goes L s now = true) (ho : o ≠ s) : leftR (drawL L s now) o now = leftR L o now := by
  have hok := draw_ok h g
  have same : ∀ j, bat L o = some j → ∃ q, bat (drawL L s now) o = some q ∧ rat (drawL L s now) q = rat L j := by
    intro j ej
    obtain ⟨hj, es⟩ := bat_some ej
    have key : ∀ q, q < (drawL L s now).length → rat (drawL L s now) q = rat L j → ∃ q, bat (drawL L s now) o = some q ∧ rat (drawL L s now) q = rat L j := fun q hq hr => ⟨q, bat_is hok hq (by show (rat _ q).1 = o; rw [hr]; exact es), hr⟩
    cases e : bat L s with
    | some i =>
      obtain ⟨hi, ei⟩ := bat_some e
      have hij : i ≠ j := fun x => by subst x; exact ho (es.symm.trans ei)
      have ed : drawL L s now = L.set i (s, leftR L s now - 1, now) := by unfold drawL; rw [e]
      refine key j (by rw [ed, List.length_set]; exact hj) ?_
      rw [ed, rat_set hi, if_neg hij]
    | none =>
      have hk := plc_le L s
      have ed : drawL L s now = L.take (plc L s) ++ [(s, leftR L s now - 1, now)] ++ L.drop (plc L s) := by unfold drawL; rw [e]
      by_cases hp : j < plc L s
      · refine key j (by rw [ed, ins_length hk]; omega) ?_
        rw [ed, ins_at hk, if_pos hp]
      · refine key (j + 1) (by rw [ed, ins_length hk]; omega) ?_
        rw [ed, ins_at hk, if_neg (by omega), if_neg (by omega)]
        rfl
  have gone : bat L o = none → bat (drawL L s now) o = none := by
    intro e0
    have hne := bat_none e0
    refine bat_no (fun i hi => ?_)
    cases e : bat L s with
    | some j =>
      obtain ⟨hj, ej⟩ := bat_some e
      have ed : drawL L s now = L.set j (s, leftR L s now - 1, now) := by unfold drawL; rw [e]
      rw [ed, List.length_set] at hi
      rw [ed]
      unfold sat
      rw [rat_set hj]
      split
      · exact fun x => ho x.symm
      · exact hne i hi
    | none =>
      have hk := plc_le L s
      have ed : drawL L s now = L.take (plc L s) ++ [(s, leftR L s now - 1, now)] ++ L.drop (plc L s) := by unfold drawL; rw [e]
      rw [ed, ins_length hk] at hi
      rw [ed]
      unfold sat
      rw [ins_at hk]
      split
      · exact hne i (by omega)
      · split
        · exact fun x => ho x.symm
        · exact hne (i - 1) (by omega)
  cases hr : (inB o 0 99 && inB now 0 1000000) with
  | false => rw [left_range hr, left_range hr]
  | true =>
    cases e : bat L o with
    | none => rw [left_new hr e, left_new hr (gone e)]
    | some j =>
      obtain ⟨q, e1, e2⟩ := same j e
      by_cases hl : now < (rat L j).2.2
      · rw [left_late hr e hl, left_late hr e1 (by rw [e2]; exact hl)]
      · rw [left_old hr e hl, left_old hr e1 (by rw [e2]; exact hl), e2]
/-- What FnBuckets asks of what is drawn. -/
theorem drawn_asks {L : List Rw} {s now : Int} (h : (drawnR L s now).2 = true) :
    leftForR (drawnR L s now).1 s now = leftForR L s now - 1 ∧ 1 ≤ leftForR L s now ∧ leftForR L s now ≤ 5 ∧ okB (drawnR L s now).1 = true ∧ (0 ≤ s ∧ s ≤ 99) ∧ ∀ o, o ≠ s → leftForR (drawnR L s now).1 o now = leftForR L o now := by
  cases ho : okB L with
  | false => rw [drawn_bad ho] at h; cases h
  | true =>
    cases hg : goes L s now with
    | false => rw [drawn_no ho hg] at h; cases h
    | true =>
      rw [drawn_yes ho hg]
      have hok := draw_ok ho hg
      obtain ⟨h1, hs, _⟩ := goes_to hg
      have hL : ∀ o, leftForR L o now = leftR L o now := fun o => by unfold leftForR; rw [ho]; rfl
      have hX : ∀ o, leftForR (drawL L s now) o now = leftR (drawL L s now) o now := fun o => by unfold leftForR; rw [hok]; rfl
      refine ⟨by rw [hX, hL, draw_left ho hg], by rw [hL]; exact h1, by rw [hL]; exact left_le _ _ _, hok, hs, fun o hne => by rw [hX, hL, draw_other ho hg hne]⟩
theorem drawn_len (L : List Rw) (s now : Int) : (drawnR L s now).1.length ≤ 20 := by
  cases ho : okB L with
  | false => rw [drawn_bad ho]; simp
  | true =>
    cases hg : goes L s now with
    | false => rw [drawn_no ho hg]; exact okB_len ho
    | true => rw [drawn_yes ho hg]; exact okB_len (draw_ok ho hg)
theorem drawn_stays {L : List Rw} {s now : Int} (h : (drawnR L s now).2 = false) : (okB L = false ∧ (drawnR L s now).1 = []) ∨ (drawnR L s now).1 = L := by
  cases ho : okB L with
  | false => exact .inl ⟨rfl, by rw [drawn_bad ho]⟩
  | true =>
    cases hg : goes L s now with
    | false => exact .inr (by rw [drawn_no ho hg])
    | true => rw [drawn_yes ho hg] at h; cases h
/-- What one Source may have been given: nothing yet, or so much that with what is left it is no more than at first and one a tick. -/
def Inv (L : List Rw) (sum t : Int) : Prop := (L = [] ∧ sum = 0) ∨ ∃ l t0, L = [(7, l, t0)] ∧ 0 ≤ l ∧ l ≤ 5 ∧ 0 ≤ t0 ∧ t0 ≤ t ∧ sum + l ≤ 5 + t0
theorem Inv.more {L : List Rw} {sum t t' : Int} (h : Inv L sum t) (ht : t ≤ t') : Inv L sum t' := by
  rcases h with h | ⟨l, t0, e, h1, h2, h3, h4, h5⟩
  · exact .inl h
  · exact .inr ⟨l, t0, e, h1, h2, h3, by omega, h5⟩
theorem Inv.le {L : List Rw} {sum t : Int} (h : Inv L sum t) (h0 : 0 ≤ t) : sum ≤ 5 + t := by
  rcases h with ⟨_, h⟩ | ⟨l, t0, e, h1, h2, h3, h4, h5⟩ <;> omega
theorem Inv.len {L : List Rw} {sum t : Int} (h : Inv L sum t) : L.length ≤ 1 := by
  rcases h with ⟨e, _⟩ | ⟨l, t0, e, _⟩
  · subst e; simp
  · subst e; simp
theorem Inv.ok {L : List Rw} {sum t : Int} (h : Inv L sum t) (h1 : t ≤ 1000000) : okB L = true := by
  rcases h with ⟨e, _⟩ | ⟨l, t0, e, a1, a2, a3, a4, _⟩
  · subst e; rfl
  · subst e
    refine okB_yes (by simp) (fun i hi => ?_) (fun i hi => by simp at hi)
    have : i = 0 := by simpa using hi
    subst this
    exact okX_of (by omega) (by omega) a1 a2 a3 (by omega)
theorem Inv.step {L : List Rw} {sum t : Int} (h : Inv L sum t) (h0 : 0 ≤ t) (h1 : t ≤ 1000000) : Inv (drawnR L 7 t).1 (if (drawnR L 7 t).2 then sum + 1 else sum) t := by
  have hok := h.ok h1
  have hr : (inB 7 0 99 && inB t 0 1000000) = true := by rw [inB_of (n := t) h0 h1]; rfl
  cases hg : goes L 7 t with
  | false => rw [drawn_no hok hg]; exact h
  | true =>
    rw [drawn_yes hok hg]
    obtain ⟨hl, _, _, _⟩ := goes_to hg
    have hle := left_le L 7 t
    rcases h with ⟨e, hs⟩ | ⟨l, t0, e, a1, a2, a3, a4, a5⟩
    · subst e hs
      have eb : bat [] 7 = none := rfl
      have el := left_new hr eb
      refine .inr ⟨leftR [] 7 t - 1, t, ?_, by omega, by omega, h0, Int.le_refl _, ?_⟩
      · unfold drawL
        rw [eb]
        rfl
      · show 0 + 1 + _ ≤ _
        omega
    · subst e
      have eb : bat [(7, l, t0)] 7 = some 0 := bat_is hok (by simp) rfl
      have el := left_old hr eb (show ¬ t < t0 by omega)
      replace el : leftR [(7, l, t0)] 7 t = min 5 (l + t - t0) := el
      refine .inr ⟨leftR [(7, l, t0)] 7 t - 1, t, ?_, by omega, by omega, h0, Int.le_refl _, ?_⟩
      · unfold drawL
        rw [eb]
        rfl
      · show sum + 1 + _ ≤ _
        omega
end Go.Proofs.YtceddedlfdgbhaaGreatDoor.Bu
namespace Go.Proofs.YtceddedlfdgbhaaGreatDoor.Bu
open Go.ChangeShapes Go.WideShapes Go.ChangeAt Go.RowKit
open Go.Proofs.YtceddedlfdgbhaaGreatDoor.Rc (BelowBy BelowBy.one wp_region_below calls_below calls_same)
set_option linter.unusedVariables false
set_option maxHeartbeats 2000000 in
theorem spec_l1In (n lo hi : Int) (w : World) : Calls Tryz.prog 32 #[.int .i64 n, .int .i64 lo, .int .i64 hi] w fun e w' => e = .returned (.bool (inB n lo hi)) ∧ w' = w := by
  unfold inB
  by_cases h : lo ≤ n
  · have h' : decide (lo ≤ n) = true := decide_eq_true h
    rw [h', Bool.true_and]
    go_enter Tryz.func32, Tryz.ntmps32
    go_wp2
    go_ret
    exact ⟨rfl, rfl⟩
  · have h' : decide (lo ≤ n) = false := decide_eq_false h
    rw [h', Bool.false_and]
    go_enter Tryz.func32, Tryz.ntmps32
    go_wp2
    go_ret
    exact ⟨rfl, rfl⟩
set_option maxHeartbeats 2000000 in
theorem spec_l9Time (n : Int) (w : World) : Calls Tryz.prog 19 #[.int .i64 n] w fun e w' => e = .returned (.bool (inB n 0 1000000)) ∧ w' = w := by
  have C := hidIt (fun W => spec_l1In n 0 1000000 W)
  go_enter Tryz.func19, Tryz.ntmps19
  go_wp2_with (fail)
  refine (C.out _).mono ?_
  rintro e w1 ⟨rfl, rfl⟩
  go_wp2_with (fail)
  go_ret
  exact ⟨rfl, rfl⟩
set_option maxRecDepth 100000 in
set_option maxHeartbeats 4000000 in
theorem spec_BucketsOk (a : Option Addr) (cap : Nat) (L : List Rw) (w : World) (h : Rd w a L) (hl : L.length ≤ 9223372036854775807) :
    Calls Tryz.prog 36 #[.slice a L.length cap] w fun e w' => e = .returned (.bool (okB L)) ∧ Below w.heap.size w w' := by
  have N1 : Hid (¬ L.length ≤ 20 → okB L = false) := hidIt okB_no1
  have N2 : Hid (∀ i, i < L.length → okX (rat L i) = false → okB L = false) := hidIt (fun i hi h => okB_no2 hi h)
  have N3 : Hid (∀ i, i + 1 < L.length → ¬ sat L i < sat L (i + 1) → okB L = false) := hidIt (fun i hi h => okB_no3 hi h)
  have N4 : Hid (L.length ≤ 20 → (∀ i, i < L.length → okX (rat L i) = true) → (∀ i, i + 1 < L.length → sat L i < sat L (i + 1)) → okB L = true) := hidIt okB_yes
  generalize okB L = r at N1 N2 N3 N4 ⊢
  have HR := hidIt h
  clear h
  generalize hn : L.length = m at *
  have HN := hidIt hn
  clear hn
  by_cases h80 : m ≤ 20
  · have h80' : ¬ (20 : Int) < (m : Int) := by omega
    go_enter Tryz.func36, Tryz.ntmps36
    go_wp2_with (fail)
    go_loopw [3] (fun y wx => ∃ i : Nat, y = .int .i64 i ∧ i ≤ m ∧ Hid (∀ j, j < i → okX (rat L j) = true) ∧ Hid (∀ j, j + 1 < i → sat L j < sat L (j + 1)) ∧ Hid (Below w.heap.size w wx)) (fun y _ => (m - intOf y).toNat)
    case atStart => exact ⟨0, rfl, by omega, hidIt (fun j hj => by omega), hidIt (fun j hj => by omega), hidIt (Below.refl _ _)⟩
    case round =>
      obtain ⟨i, rfl, hi, HO, HK, HB⟩ := hrel
      by_cases hin : i < m
      · have hin' : (i : Int) < (m : Int) := by omega
        have HRx := hidIt (HR.out.kept HB.out)
        obtain ⟨b, off, ea, c0, c1, c2⟩ := HRx.out.all (i := i) (by rw [HN.out]; exact hin)
        subst ea
        obtain ⟨ok, hok⟩ : ∃ ok, okX (rat L i) = ok := ⟨_, rfl⟩
        have HOK := hidIt hok
        unfold okX at hok
        have hkey : Hid (sat L i = (rat L i).1) := hidIt rfl
        generalize rat L i = x at c0 c1 c2 hok hkey
        obtain ⟨xi, xt, xs⟩ := x
        simp only at c0 c1 c2 hok hkey
        have C1 := hidIt (fun n lo hi W => spec_l1In n lo hi W)
        have C2 := hidIt (fun n W => spec_l9Time n W)
        obtain ⟨k1, e1⟩ : ∃ k, inB xi 0 99 = k := ⟨_, rfl⟩
        obtain ⟨k2, e2⟩ : ∃ k, inB xt 0 5 = k := ⟨_, rfl⟩
        obtain ⟨k3, e3⟩ : ∃ k, inB xs 0 1000000 = k := ⟨_, rfl⟩
        rw [e1, e2, e3] at hok
        have BX := hidIt (Bo.Box.new wr #[.int .i64 xi, .int .i64 xt, .int .i64 xs] 104)
        have HBz := hidIt (HB.out.alloc HB.out.size (.cells #[.int .i64 xi, .int .i64 xt, .int .i64 xs] 104))
        have HRz := hidIt (HRx.out.alloc (.cells #[.int .i64 xi, .int .i64 xt, .int .i64 xs] 104))
        cases ok with
        | false =>
          have er := N2.out i hin HOK.out
          subst er
          go_wp2_with (fail)
          generalize wr.alloc (.cells #[.int .i64 xi, .int .i64 xt, .int .i64 xs] 104) = wz at BX HBz HRz ⊢
          haveI := BelowBy.one wz
          have g0 := fun p : BelowBy wz => p.cell (BX.out.c 0 rfl)
          have g1 := fun p : BelowBy wz => p.cell (BX.out.c 1 rfl)
          have g2 := fun p : BelowBy wz => p.cell (BX.out.c 2 rfl)
          cases k1 <;> cases k2 <;> cases k3 <;> simp only [Bool.and_true, Bool.and_false, Bool.true_eq_false] at hok
          all_goals
            refine wp_region_below (by kernel_rfl) (by kernel_rfl) ?_
            repeat (go_big_quiet_step (first | (go_at_call 32; refine calls_same (C1.out _ _ _ _)) | (go_at_call 19; refine calls_same (C2.out _ _))))
            refine wpQuiet_nil ?_
            intro _ hw'
            obtain ⟨pq, rfl⟩ := hw'
            have HB1 := hidIt (HBz.out.trans (pq.h.mono HBz.out.size))
            generalize pq.world = w2 at HB1 ⊢
            clear g0 g1 g2
            go_wp2_with (fail)
            go_ret
            exact ⟨rfl, HB1.out⟩
        | true =>
          obtain ⟨rfl, rfl, rfl⟩ : k1 = true ∧ k2 = true ∧ k3 = true := by cases k1 <;> cases k2 <;> cases k3 <;> simp_all
          have HO' : Hid (∀ j, j < i + 1 → okX (rat L j) = true) := hidIt (fun j hj => by
            rcases Nat.lt_succ_iff_lt_or_eq.1 hj with h | h
            · exact HO.out j h
            · subst h; exact HOK.out)
          clear hok
          rcases Nat.eq_zero_or_pos i with hz | hp
          · subst hz
            simp only [Nat.zero_mul, Nat.add_zero] at c0 c1 c2
            go_wp2_with (fail)
            generalize wr.alloc (.cells #[.int .i64 xi, .int .i64 xt, .int .i64 xs] 104) = wz at BX HBz HRz ⊢
            haveI := BelowBy.one wz
            have g0 := fun p : BelowBy wz => p.cell (BX.out.c 0 rfl)
            have g1 := fun p : BelowBy wz => p.cell (BX.out.c 1 rfl)
            have g2 := fun p : BelowBy wz => p.cell (BX.out.c 2 rfl)
            refine wp_region_below (by kernel_rfl) (by kernel_rfl) ?_
            repeat (go_big_quiet_step (first | (go_at_call 32; refine calls_same (C1.out _ _ _ _)) | (go_at_call 19; refine calls_same (C2.out _ _))))
            refine wpQuiet_nil ?_
            intro _ hw'
            obtain ⟨pq, rfl⟩ := hw'
            have HB1 := hidIt (HBz.out.trans (pq.h.mono HBz.out.size))
            generalize pq.world = w2 at HB1 ⊢
            clear g0 g1 g2
            go_wp2_with (fail)
            exact ⟨⟨1, by simp, by omega, HO', hidIt (fun j hj => by omega), HB1⟩, by simp [intOf]; omega⟩
          · obtain ⟨j, rfl⟩ : ∃ j, i = j + 1 := ⟨i - 1, by omega⟩
            have hpos : (0 : Int) < ((j : Int) + 1) := by omega
            have hj8 : (j : Int) ≤ 20 := by omega
            have hj0 : (0 : Int) ≤ (j : Int) := by omega
            obtain ⟨pk, epk⟩ : ∃ pk, (rat L j).1 = pk := ⟨_, rfl⟩
            have hkj : Hid (sat L j = pk) := hidIt epk
            have EPK := hidIt epk
            clear epk
            go_wp2_with (fail)
            generalize wr.alloc (.cells #[.int .i64 xi, .int .i64 xt, .int .i64 xs] 104) = wz at BX HBz HRz ⊢
            haveI := BelowBy.one wz
            have g0 := fun p : BelowBy wz => p.cell (BX.out.c 0 rfl)
            have g1 := fun p : BelowBy wz => p.cell (BX.out.c 1 rfl)
            have g2 := fun p : BelowBy wz => p.cell (BX.out.c 2 rfl)
            obtain ⟨b', off', ea2, q0, _⟩ := HRz.out.all (i := j) (by rw [HN.out]; omega)
            cases ea2
            rw [EPK.out] at q0
            have k0 := fun p : BelowBy wz => p.cell q0
            clear q0
            by_cases hlt : pk < xi
            · have hd : decide (xi ≤ pk) = false := decide_eq_false (by omega)
              have HK' : Hid (∀ q, q + 1 < j + 1 + 1 → sat L q < sat L (q + 1)) := hidIt (fun q hq => by
                rcases Nat.lt_succ_iff_lt_or_eq.1 (show q + 1 < j + 1 + 1 from hq) with h | h
                · exact HK.out q h
                · have : q = j := by omega
                  subst this
                  rw [hkj.out, hkey.out]
                  exact hlt)
              clear hlt
              refine wp_region_below (by kernel_rfl) (by kernel_rfl) ?_
              repeat (go_big_quiet_step (first | (go_at_call 32; refine calls_same (C1.out _ _ _ _)) | (go_at_call 19; refine calls_same (C2.out _ _))))
              refine wpQuiet_nil ?_
              intro _ hw'
              obtain ⟨pq, rfl⟩ := hw'
              have HB1 := hidIt (HBz.out.trans (pq.h.mono HBz.out.size))
              generalize pq.world = w2 at HB1 ⊢
              clear g0 g1 g2 k0
              go_wp2_with (fail)
              exact ⟨⟨j + 1 + 1, by simp, by omega, HO', HK', HB1⟩, by simp [intOf]; omega⟩
            · have er := N3.out j (by omega) (by rw [hkj.out, hkey.out]; omega)
              have hd : decide (xi ≤ pk) = true := decide_eq_true (by omega)
              subst er
              clear hlt
              refine wp_region_below (by kernel_rfl) (by kernel_rfl) ?_
              repeat (go_big_quiet_step (first | (go_at_call 32; refine calls_same (C1.out _ _ _ _)) | (go_at_call 19; refine calls_same (C2.out _ _))))
              refine wpQuiet_nil ?_
              intro _ hw'
              obtain ⟨pq, rfl⟩ := hw'
              have HB1 := hidIt (HBz.out.trans (pq.h.mono HBz.out.size))
              generalize pq.world = w2 at HB1 ⊢
              clear g0 g1 g2 k0
              go_wp2_with (fail)
              go_ret
              exact ⟨rfl, HB1.out⟩
      · have hin' : ¬ (i : Int) < (m : Int) := by omega
        have HI : Hid (i = m) := hidIt (by omega)
        have er := N4.out h80 (fun j hj => HO.out j (by have := HI.out; omega)) (fun j hj => HK.out j (by have := HI.out; omega))
        subst er
        go_wp2_with (fail)
        go_ret
        exact ⟨rfl, HB.out⟩
  · have h80' : (20 : Int) < (m : Int) := by omega
    have er := N1.out h80
    subst er
    go_enter Tryz.func36, Tryz.ntmps36
    go_wp2
    go_ret
    exact ⟨rfl, Below.refl _ _⟩

def bi : Option Nat → Int
  | none => -1
  | some j => j
end Go.Proofs.YtceddedlfdgbhaaGreatDoor.Bu
namespace Go.Proofs.YtceddedlfdgbhaaGreatDoor.Bu
open Go.ChangeShapes Go.WideShapes Go.ChangeAt Go.RowKit
open Go.Proofs.YtceddedlfdgbhaaGreatDoor.Rc (BelowBy BelowBy.one wp_region_below calls_below calls_same)
set_option linter.unusedVariables false
/-- What a measure leaves: no more than there was, and less by how many there are. -/
structure Le2 (r l : Int) (m : Nat) : Prop where
  le : r ≤ l
  sum : 0 ≤ r → r + (m : Int) ≤ l
set_option maxRecDepth 100000 in
set_option maxHeartbeats 4000000 in
theorem to_any (x : Rw) (w : World) : Calls Tryz.prog 62 #[rv x] w fun e w' => e = .returned (rv x) ∧ Below w.heap.size w w' := by
  obtain ⟨x0, x1, x2⟩ := x
  go_enter Tryz.func62, Tryz.ntmps62
  go_wp2
  refine bodyPost_ret (v := rv (x0, x1, x2)) (by simp [results, Tryz.results62, go_sem]) rfl ⟨rfl, ?_⟩
  go_grown
set_option maxRecDepth 100000 in
set_option maxHeartbeats 4000000 in
theorem eq_same (x : Rw) (w : World) : Calls Tryz.prog 72 #[rv x, rv x] w fun e w' => e = .returned (.bool true) ∧ Below w.heap.size w w' := by
  obtain ⟨x0, x1, x2⟩ := x
  go_enter Tryz.func72, Tryz.ntmps72
  go_wp2
  go_ret
  exact ⟨rfl, by go_grown⟩
set_option maxRecDepth 100000 in
set_option maxHeartbeats 4000000 in
theorem szS_any (a : Option Addr) (cap : Nat) (L : List Rw) (l : Int) (w : World) (h : Rd w a L) (hl : L.length ≤ 9223372036854775807) (h0 : 0 ≤ l) (h1 : l ≤ 1048576) :
    Calls Tryz.prog 30 #[.slice a L.length cap, .int .i64 l] w fun e w' => ∃ r : Int, e = .returned (.int .i64 r) ∧ Le2 r l L.length ∧ (0 ≤ r → L.length ≤ 1048576) ∧ Below w.heap.size w w' := by
  generalize hn : L.length = m at *
  clear h hn
  have h2 : -9223372036854775808 ≤ l - (m : Int) := by omega
  have h3 : l - (m : Int) ≤ 9223372036854775807 := by omega
  by_cases hlt : l - (m : Int) < 0
  · go_enter Tryz.func30, Tryz.ntmps30
    go_wp2
    go_ret
    first | exact ⟨-1, rfl, ⟨by omega, fun h => by omega⟩, fun h => by omega, Below.refl _ _⟩ | exact ⟨⟨by omega, fun h => by omega⟩, Below.refl _ _⟩
  · go_enter Tryz.func30, Tryz.ntmps30
    go_wp2
    go_ret
    first | exact ⟨_, rfl, ⟨by omega, fun h => by omega⟩, fun h => by omega, Below.refl _ _⟩ | exact ⟨⟨by omega, fun h => by omega⟩, fun h => by omega, Below.refl _ _⟩
theorem rcells_zero (m : Nat) : rcells (List.replicate m (0, 0, 0)) = (madeCells #[.int .i64 0, .int .i64 0, .int .i64 0] (m * 3)).toList := by
  apply List.ext_getElem?
  intro x
  by_cases hx : x < m * 3
  · have e : x = x / 3 * 3 + x % 3 := by omega
    have h1 := rcells_get (List.replicate m (0, 0, 0)) (x / 3) (x % 3) (by rw [List.length_replicate]; omega) (by omega)
    rw [← e] at h1
    have h2 : rat (List.replicate m (0, 0, 0)) (x / 3) = (0, 0, 0) := by
      rw [rat_at (by rw [List.length_replicate]; omega), List.getElem_replicate]
    rw [h1, h2]
    have h3 : x % 3 = 0 ∨ x % 3 = 1 ∨ x % 3 = 2 := by omega
    rcases h3 with h | h | h <;> simp [madeCells, hx, h, rcell]
  · rw [List.getElem?_eq_none (by rw [rcells_length, List.length_replicate]; omega), List.getElem?_eq_none (by simp [madeCells]; omega)]
set_option maxRecDepth 100000 in
set_option maxHeartbeats 4000000 in
theorem toS_any (a : Option Addr) (cap : Nat) (L : List Rw) (w : World) (h : Rd w a L) (hl : L.length ≤ 1048576) :
    Calls Tryz.prog 43 #[.slice a L.length cap] w fun e w' => ∃ v, e = .returned v ∧ Own w' w.heap.size v L ∧ Below w.heap.size w w' := by
  generalize hn : L.length = m at *
  obtain ⟨i0, hi, hz0, hz1, hz2⟩ := info_parts infoRw
  have HR := hidIt h
  have HN := hidIt hn
  clear h hn
  go_enter Tryz.func43, Tryz.ntmps43
  go_wp2_with (first
    | (at_make; refine wpList_make_full _ rfl _ _ 43 rfl w.heap.size 104 i0 (.agg #[.int .i64 0, .int .i64 0, .int .i64 0]) 3 Tryz.underlying43 hi hz0 hz1 _ _ _ _ m rfl rfl (by omega) (by omega) (by rw [hz2]; omega) (by unfold maxLen; omega) (Nat.le_refl _) ?_)
    | fail)
  intro w1 hown hgrow
  have HO : Hid (Own w1 w.heap.size (.slice (some ⟨w.heap.size, 0, none⟩) m m) (List.replicate m (0, 0, 0))) := by
    refine hidIt ?_
    unfold Own
    rw [List.length_replicate, rcells_zero]
    exact hown
  have HB := hidIt ((Below.refl w.heap.size w).grown hgrow (Nat.le_refl _) (fun k hk => by cases hk))
  clear hown hgrow
  go_wp2_with (fail)
  go_loopw [4] (fun y wx => ∃ (i : Nat) (M : List Rw), y = .int .i64 i ∧ i ≤ m ∧ M.length = m ∧ Hid (∀ j, j < i → rat M j = rat L j) ∧ Hid (Own wx w.heap.size (.slice (some ⟨w.heap.size, 0, none⟩) m m) M) ∧ Hid (Below w.heap.size w wx)) (fun y _ => (m - intOf y).toNat)
  case atStart => exact ⟨0, _, rfl, by omega, by simp, hidIt (fun j hj => by omega), HO, HB⟩
  case round =>
    obtain ⟨i, M, rfl, hin0, hM, hE, HOx, HBx⟩ := hrel
    have HRx := hidIt (HR.out.kept HBx.out)
    have HM := hidIt hM
    clear HO HB hM
    by_cases hin : i < m
    · have hin' : (i : Int) < (m : Int) := by omega
      obtain ⟨b, off, rfl, c0, c1, c2⟩ := HRx.out.all (i := i) (by rw [HN.out]; exact hin)
      generalize hx : rat L i = x at c0 c1 c2
      have HX := hidIt hx
      clear hx
      obtain ⟨x0, x1, x2⟩ := x
      simp only at c0 c1 c2
      have hC := to_any (x0, x1, x2)
      simp only [rv] at hC
      have HC := hidIt hC
      clear hC
      go_wp2_with (fail)
      refine (HC.out _).mono ?_
      rintro e w2 ⟨rfl, hb2⟩
      have HB2 := hidIt (HBx.out.trans (hb2.mono HBx.out.size))
      have HO2 := hidIt (HOx.out.kept hb2)
      have hiM : i < M.length := by rw [HM.out]; exact hin
      have HO3 := hidIt (HO2.out.whole hiM (x0, x1, x2))
      have z0 := HO2.out.at hiM (j := 0) (by omega)
      have z1 := HO2.out.at hiM (j := 1) (by omega)
      have z2 := HO2.out.at hiM (j := 2) (by omega)
      have f0 := HO2.out.free (i * 3)
      have f1 := HO2.out.free (i * 3 + 1)
      have f2 := HO2.out.free (i * 3 + 2)
      simp only [rcell, Nat.add_zero] at z0 z1 z2
      clear hb2 HRx HBx HOx HO2 HC
      have HMi := hidIt hiM
      clear hiM
      go_wp2_with (fail)
      refine ⟨⟨i + 1, _, by simp, by omega, by rw [List.length_set]; exact HM.out, hidIt (fun j hj => ?_), HO3, hidIt (((HB2.out.setCell (by simp) _).setCell (by simp) _).setCell (by simp) _)⟩, by simp [intOf]; omega⟩
      rw [rat_set HMi.out]
      split
      · next e => subst e; exact HX.out.symm
      · exact hE.out j (by omega)
    · have hin' : ¬ (i : Int) < (m : Int) := by omega
      have e : M = L := ext_rat (by rw [HM.out, HN.out]) (fun j hj => hE.out j (by rw [HM.out] at hj; omega))
      subst e
      go_wp2_with (fail)
      go_ret
      exact ⟨_, rfl, HOx.out, HBx.out⟩
set_option maxRecDepth 100000 in
set_option maxHeartbeats 4000000 in
theorem eqS_same (a a' : Option Addr) (cap cap' : Nat) (L : List Rw) (w : World) (h : Rd w a L) (h' : Rd w a' L) (hl : L.length ≤ 9223372036854775807) :
    Calls Tryz.prog 50 #[.slice a L.length cap, .slice a' L.length cap'] w fun e w' => e = .returned (.bool true) ∧ Below w.heap.size w w' := by
  generalize hn : L.length = m at *
  have HA := hidIt h
  have HA' := hidIt h'
  have HN := hidIt hn
  clear h h' hn
  have hmm : ((m : Int) != (m : Int)) = false := by simp
  go_enter Tryz.func50, Tryz.ntmps50
  go_wp2_with (fail)
  go_loopw [5] (fun y wx => ∃ i : Nat, y = .int .i64 i ∧ i ≤ m ∧ Hid (Below w.heap.size w wx)) (fun y _ => (m - intOf y).toNat)
  case atStart => exact ⟨0, rfl, by omega, hidIt (Below.refl _ _)⟩
  case round =>
    obtain ⟨i, rfl, hi, hB⟩ := hrel
    by_cases hin : i < m
    · have hin' : (i : Int) < (m : Int) := by omega
      obtain ⟨b, off, rfl, c0, c1, c2⟩ := (HA.out.kept hB.out).all (i := i) (by rw [HN.out]; exact hin)
      obtain ⟨b', off', rfl, d0, d1, d2⟩ := (HA'.out.kept hB.out).all (i := i) (by rw [HN.out]; exact hin)
      have hC := eq_same (rat L i)
      generalize rat L i = x at c0 c1 c2 d0 d1 d2 hC
      obtain ⟨x0, x1, x2⟩ := x
      simp only [rv] at hC c0 c1 c2 d0 d1 d2
      have HC := hidIt hC
      clear hC
      haveI := BelowBy.one wr
      have g0 := fun p : BelowBy wr => p.cell c0
      have g1 := fun p : BelowBy wr => p.cell c1
      have g2 := fun p : BelowBy wr => p.cell c2
      have k0 := fun p : BelowBy wr => p.cell d0
      have k1 := fun p : BelowBy wr => p.cell d1
      have k2 := fun p : BelowBy wr => p.cell d2
      go_wp2_with (fail)
      refine wp_region_below (by kernel_rfl) (by kernel_rfl) ?_
      repeat (go_big_quiet_step (first | (go_at_call 72; refine calls_below (HC.out _))))
      refine wpQuiet_nil ?_
      intro _ hw'
      obtain ⟨pq, rfl⟩ := hw'
      have hB1 := hidIt (hB.out.trans (pq.h.mono hB.out.size))
      generalize pq.world = w2 at hB1 ⊢
      clear c0 c1 c2 d0 d1 d2 g0 g1 g2 k0 k1 k2
      go_wp2_with (fail)
      exact ⟨⟨i + 1, by simp, by omega, hB1⟩, by simp [intOf]; omega⟩
    · have hin' : ¬ (i : Int) < (m : Int) := by omega
      go_wp2_with (fail)
      go_ret
      exact ⟨rfl, hB.out⟩
end Go.Proofs.YtceddedlfdgbhaaGreatDoor.Bu
namespace Go.Proofs.YtceddedlfdgbhaaGreatDoor.En
open Go.ChangeShapes Go.WideShapes Go.ChangeAt Go.RowKit
set_option linter.unusedVariables false
theorem hidIt {p : Prop} (h : p) : Hid p := h
abbrev Rw := ByteArray × ByteArray × Int × Int × Bool
/-- One as a value. -/
abbrev rv (x : Rw) : Value := .agg #[.string x.1, .string x.2.1, .int .i64 x.2.2.1, .int .i64 x.2.2.2.1, .bool x.2.2.2.2]
abbrev rc (x : Rw) : Array Value := #[.string x.1, .string x.2.1, .int .i64 x.2.2.1, .int .i64 x.2.2.2.1, .bool x.2.2.2.2]
def rat (L : List Rw) (i : Nat) : Rw := L.getD i (ByteArray.empty, ByteArray.empty, 0, 0, false)
theorem rat_at {L : List Rw} {i : Nat} (h : i < L.length) : rat L i = L[i] := by
  unfold rat
  rw [List.getD_eq_getElem?_getD, List.getElem?_eq_getElem h]
  rfl
theorem rat_getElem? {L : List Rw} {i : Nat} (h : i < L.length) : L[i]? = some (rat L i) := by rw [rat_at h, List.getElem?_eq_getElem h]
theorem rat_mem {L : List Rw} {i : Nat} (h : i < L.length) : rat L i ∈ L := by rw [rat_at h]; exact List.getElem_mem h
theorem rat_set {L : List Rw} {i j : Nat} {x : Rw} (h : i < L.length) : rat (L.set i x) j = if i = j then x else rat L j := by
  unfold rat
  rw [List.getD_eq_getElem?_getD, List.getD_eq_getElem?_getD, List.getElem?_set]
  by_cases e : i = j
  · subst e; simp [h]
  · simp [e]
theorem rat_take {L : List Rw} {k i : Nat} (h : i < k) : rat (L.take k) i = rat L i := by
  unfold rat
  rw [List.getD_eq_getElem?_getD, List.getD_eq_getElem?_getD, List.getElem?_take, if_pos h]
theorem take_rat {L : List Rw} {i : Nat} (h : i < L.length) : L.take (i + 1) = L.take i ++ [rat L i] := by
  rw [List.take_add_one, rat_getElem? h]
  rfl
theorem ext_rat {L M : List Rw} (h : L.length = M.length) (e : ∀ i, i < L.length → rat L i = rat M i) : L = M := by
  apply List.ext_getElem?
  intro i
  by_cases hi : i < L.length
  · rw [rat_getElem? hi, rat_getElem? (by omega), e i hi]
  · rw [List.getElem?_eq_none (by omega), List.getElem?_eq_none (by omega)]
def rcell (x : Rw) : Nat → Value
  | 0 => .string x.1
  | 1 => .string x.2.1
  | 2 => .int .i64 x.2.2.1
  | 3 => .int .i64 x.2.2.2.1
  | _ => .bool x.2.2.2.2
def rcells : List Rw → List Value
  | [] => []
  | x :: r => .string x.1 :: .string x.2.1 :: .int .i64 x.2.2.1 :: .int .i64 x.2.2.2.1 :: .bool x.2.2.2.2 :: rcells r
theorem rcells_cons (x : Rw) (r : List Rw) : rcells (x :: r) = .string x.1 :: .string x.2.1 :: .int .i64 x.2.2.1 :: .int .i64 x.2.2.2.1 :: .bool x.2.2.2.2 :: rcells r := rfl
theorem rcells_length (L : List Rw) : (rcells L).length = L.length * 5 := by
  induction L with
  | nil => rfl
  | cons x r ih => simp only [rcells_cons, List.length_cons, ih]; omega
theorem rcells_append (L M : List Rw) : rcells (L ++ M) = rcells L ++ rcells M := by
  induction L with
  | nil => rfl
  | cons x r ih => rw [List.cons_append, rcells_cons, rcells_cons, ih]; rfl
theorem rcells_one (L : List Rw) : ∀ u ∈ rcells L, u.oneCell' = true := by
  induction L with
  | nil => intro u hu; cases hu
  | cons x r ih =>
    intro u hu
    rw [rcells_cons] at hu
    simp only [List.mem_cons] at hu
    rcases hu with rfl | rfl | rfl | rfl | rfl | hu
    · rfl
    · rfl
    · rfl
    · rfl
    · rfl
    · exact ih u hu
theorem rcells_get (L : List Rw) : ∀ i j, i < L.length → j < 5 → (rcells L)[i * 5 + j]? = some (rcell (rat L i) j) := by
  induction L with
  | nil => intro i j hi; simp at hi
  | cons x r ih =>
    intro i j hi hj
    cases i with
    | zero =>
      match j, hj with
      | 0, _ => rfl
      | 1, _ => rfl
      | 2, _ => rfl
      | 3, _ => rfl
      | 4, _ => rfl
    | succ k =>
      rw [rcells_cons, show (k + 1) * 5 + j = k * 5 + j + 1 + 1 + 1 + 1 + 1 by omega, List.getElem?_cons_succ, List.getElem?_cons_succ, List.getElem?_cons_succ, List.getElem?_cons_succ, List.getElem?_cons_succ, ih k j (by simp at hi; omega) hj]
      rfl
theorem rcells_set (L : List Rw) : ∀ i j (v : Value) (y : Rw), i < L.length → j < 5 → (∀ k, k < 5 → rcell y k = if k = j then v else rcell (rat L i) k) → (rcells L).set (i * 5 + j) v = rcells (L.set i y) := by
  induction L with
  | nil => intro i j v y hi; simp at hi
  | cons x r ih =>
    intro i j v y hi hj h
    cases i with
    | zero =>
      have e0 := h 0 (by omega)
      have e1 := h 1 (by omega)
      have e2 := h 2 (by omega)
      have e3 := h 3 (by omega)
      have e4 := h 4 (by omega)
      rw [List.set_cons_zero, rcells_cons y r, show (.string y.1 : Value) = rcell y 0 from rfl, show (.string y.2.1 : Value) = rcell y 1 from rfl, show (.int .i64 y.2.2.1 : Value) = rcell y 2 from rfl, show (.int .i64 y.2.2.2.1 : Value) = rcell y 3 from rfl, show (.bool y.2.2.2.2 : Value) = rcell y 4 from rfl, e0, e1, e2, e3, e4]
      match j, hj with
      | 0, _ => rfl
      | 1, _ => rfl
      | 2, _ => rfl
      | 3, _ => rfl
      | 4, _ => rfl
    | succ k =>
      rw [rcells_cons, show (k + 1) * 5 + j = k * 5 + j + 1 + 1 + 1 + 1 + 1 by omega, List.set_cons_succ, List.set_cons_succ, List.set_cons_succ, List.set_cons_succ, List.set_cons_succ, ih k j v y (by simp at hi; omega) hj (fun n hn => h n hn)]
      rfl
theorem rcells_swap_len (L : List Rw) (i j : Nat) (x y : Rw) : ((L.set i x).set j y).length = L.length := by rw [List.length_set, List.length_set]
/-- A slice at address a reads as the list L. -/
structure Rd (w : World) (a : Option Addr) (L : List Rw) : Prop where
  cell : ∀ i, i < L.length → ∃ b off, a = some ⟨b, off, none⟩ ∧ ∀ j, j < 5 → w.cell? ⟨b, off + (i * 5 + j), none⟩ = some (rcell (rat L i) j)
theorem Rd.all {w : World} {a : Option Addr} {L : List Rw} (h : Rd w a L) {i : Nat} (hi : i < L.length) : ∃ b off, a = some ⟨b, off, none⟩ ∧ w.cell? ⟨b, off + i * 5, none⟩ = some (.string (rat L i).1) ∧ w.cell? ⟨b, off + i * 5 + 1, none⟩ = some (.string (rat L i).2.1) ∧ w.cell? ⟨b, off + i * 5 + 2, none⟩ = some (.int .i64 (rat L i).2.2.1) ∧ w.cell? ⟨b, off + i * 5 + 3, none⟩ = some (.int .i64 (rat L i).2.2.2.1) ∧ w.cell? ⟨b, off + i * 5 + 4, none⟩ = some (.bool (rat L i).2.2.2.2) := by
  obtain ⟨b, off, e, c⟩ := h.cell i hi
  exact ⟨b, off, e, c 0 (by omega), by rw [Nat.add_assoc]; exact c 1 (by omega), by rw [Nat.add_assoc]; exact c 2 (by omega), by rw [Nat.add_assoc]; exact c 3 (by omega), by rw [Nat.add_assoc]; exact c 4 (by omega)⟩
theorem cell_block {w : World} {b o : Nat} {v : Value} (h : w.cell? ⟨b, o, none⟩ = some v) : b < w.heap.size := World.block_lt_of_cell? w ⟨b, o, none⟩ h
theorem Rd.kept {w w' : World} {a : Option Addr} {L : List Rw} (h : Rd w a L) (k : Below w.heap.size w w') : Rd w' a L :=
  ⟨fun i hi => by
    obtain ⟨b, off, e, c⟩ := h.cell i hi
    exact ⟨b, off, e, fun j hj => by rw [k.cell (by simpa using cell_block (c j hj))]; exact c j hj⟩⟩
theorem Rd.alloc {w : World} {a : Option Addr} {L : List Rw} (h : Rd w a L) (o : Obj) : Rd (w.alloc o) a L := h.kept ((Below.refl _ _).alloc (Nat.le_refl _) o)
theorem Rd.drew {w : World} {a : Option Addr} {L : List Rw} (h : Rd w a L) : Rd w.drew a L := ⟨h.cell⟩
theorem Rd.take {w : World} {a : Option Addr} {L : List Rw} (h : Rd w a L) (k : Nat) : Rd w a (L.take k) :=
  ⟨fun i hi => by
    rw [List.length_take] at hi
    rw [rat_take (by omega)]
    exact h.cell i (by omega)⟩
theorem Rd.nil (w : World) (a : Option Addr) : Rd w a [] := ⟨fun i hi => by simp at hi⟩
theorem Rd.none_nil {w : World} {L : List Rw} (h : Rd w none L) : L = [] := by
  cases L with
  | nil => rfl
  | cons x r => obtain ⟨b, off, e, _⟩ := h.cell 0 (by simp); cases e
/-- The slice v owns the list L in a row of the call's own. -/
def Own (w : World) (base : Nat) (v : Value) (L : List Rw) : Prop := w.ownsRow base 100 5 v L.length (rcells L)
theorem Own.form {w : World} {base : Nat} {v : Value} {L : List Rw} (h : Own w base v L) : ∃ a cap, v = .slice a L.length cap ∧ L.length ≤ cap ∧ cap ≤ maxLen ∧ Rd w a L ∧ (a = none → cap = 0) ∧ (∀ x, a = some x → ∃ g, x = ⟨g, 0, none⟩ ∧ base ≤ g ∧ g < w.heap.size) := by
  have h' := h
  rcases h.2 with ⟨rfl, h0⟩ | ⟨g, cap, cur, rfl, hb, hg, hn, hm, rest⟩
  · exact ⟨none, 0, by rw [h0], by omega, by decide, ⟨fun i hi => by omega⟩, fun _ => rfl, fun x hx => by cases hx⟩
  · refine ⟨some ⟨g, 0, none⟩, cap, rfl, hn, hm, ⟨fun i hi => ⟨g, 0, rfl, fun j hj => ?_⟩⟩, (fun e => by cases e), fun x hx => ⟨g, by cases hx; rfl, hb, (Array.getElem?_eq_some_iff.1 hg).1⟩⟩
    rw [Nat.zero_add, World.ownsRow.cellAt h' _ (by omega), rcells_get _ _ _ hi hj]
theorem Own.formN {w : World} {base m : Nat} {v : Value} {L : List Rw} (h : Own w base v L) (hn : L.length = m) : ∃ a cap, v = .slice a m cap ∧ m ≤ cap ∧ cap ≤ maxLen ∧ Rd w a L := by
  subst hn
  obtain ⟨a, cap, e, h1, h2, r, _⟩ := h.form
  exact ⟨a, cap, e, h1, h2, r⟩
theorem Own.kept {w w' : World} {base : Nat} {v : Value} {L : List Rw} (h : Own w base v L) (k : Below w.heap.size w w') : Own w' base v L :=
  World.ownsRow.kept (row := none) h ⟨k.os, k.tape, k.output, k.size, fun i hi _ => k.block i hi⟩ (by cases v.ownBlock <;> simp)
theorem Own.alloc {w : World} {base : Nat} {v : Value} {L : List Rw} (h : Own w base v L) (o : Obj) : Own (w.alloc o) base v L := World.ownsRow.alloc h o
theorem Own.drew {w : World} {base : Nat} {v : Value} {L : List Rw} (h : Own w base v L) : Own w.drew base v L := h
theorem Own.only {w w' : World} {base c : Nat} {v : Value} {L : List Rw} (h : Own w base v L) (k : Only c w w') (hc : c < base ∨ ∀ g, v.ownBlock = some g → g ≠ c) : Own w' base v L := by
  refine World.ownsRow.kept h (row := some c) ⟨k.os, k.tape, k.output, k.size, fun i hi hne => k.block i hi (fun e => hne (by rw [e]))⟩ ?_
  cases hv : v.ownBlock with
  | none => exact .inl rfl
  | some g =>
    refine .inr (fun e => ?_)
    cases e
    rcases hc with hc | hc
    · have := (World.ownsRow.lt h _ hv).1; omega
    · exact hc _ hv rfl
theorem Own.mono {w : World} {base b' : Nat} {v : Value} {L : List Rw} (h : Own w base v L) (hb : b' ≤ base) : Own w b' v L := by
  refine ⟨h.1, ?_⟩
  rcases h.2 with h0 | ⟨g, cap, cur, e, hb', r⟩
  · exact .inl h0
  · exact .inr ⟨g, cap, cur, e, by omega, r⟩
theorem Own.new (w : World) : Own (w.alloc (.cells #[] 100)) w.heap.size (.slice (some ⟨w.heap.size, 0, none⟩) 0 0) [] :=
  World.ownsRow_made w #[] 0 (Nat.le_refl _) (by decide) rfl
theorem Own.ofNil (w : World) (base : Nat) : Own w base (.slice none 0 0) [] := World.ownsRow_nil _ _ _ _
theorem Own.one (w : World) (x : Rw) {k : Nat} (h : w.heap.size = k) : Own (w.alloc (.cells (rc x) 100)) k (.slice (some ⟨k, 0, none⟩) 1 1) [x] := by
  subst h
  exact ⟨rfl, .inr ⟨w.heap.size, 1, _, rfl, Nat.le_refl _, heap_alloc_new w _, Nat.le_refl _, by decide, rfl, rfl⟩⟩
theorem Own.more {w : World} {base : Nat} {v : Value} {L M : List Rw} (h : w.ownsRow base 100 5 v (L.length + M.length) (rcells L ++ rcells M)) : Own w base v (L ++ M) := by
  unfold Own
  rw [List.length_append, rcells_append]
  exact h
theorem Own.free {w : World} {base g m cap : Nat} {L : List Rw} (h : Own w base (.slice (some ⟨g, 0, none⟩) m cap) L) (j : Nat) : w.frozen? ⟨g, j, none⟩ = false := by
  obtain ⟨a, c', e, _⟩ := h.form
  cases e
  exact World.ownsRow.frozenAt h j
theorem Own.at {w : World} {base g m cap i j : Nat} {L : List Rw} (h : Own w base (.slice (some ⟨g, 0, none⟩) m cap) L) (hi : i < L.length) (hj : j < 5) : w.cell? ⟨g, i * 5 + j, none⟩ = some (rcell (rat L i) j) := by
  obtain ⟨a', c', e1, _, _, r, _⟩ := h.form
  cases e1
  obtain ⟨b', o', e2, k⟩ := r.cell i hi
  cases e2
  simpa using k j hj
/-- A store into one cell of number i. -/
theorem Own.set {w : World} {base g m cap i j : Nat} {L : List Rw} {v : Value} {y : Rw} (h : Own w base (.slice (some ⟨g, 0, none⟩) m cap) L) (hi : i < L.length) (hj : j < 5) (hy : ∀ k, k < 5 → rcell y k = if k = j then v else rcell (rat L i) k) :
    Own (w.setCell ⟨g, i * 5 + j, none⟩ v) base (.slice (some ⟨g, 0, none⟩) m cap) (L.set i y) := by
  obtain ⟨a, c', e, _⟩ := h.form
  cases e
  have := (World.ownsRow.stored h (i * 5 + j) v).1
  rw [rcells_set L i j v y hi hj hy] at this
  unfold Own
  rw [List.length_set]
  exact this
theorem grown_below {w w' : World} {base Bb : Nat} {v : Value} {L : List Rw} (h : Own w base v L) (g : w.grownBy w' v.ownBlock) (hB : Bb ≤ base) (hs : Bb ≤ w.heap.size) : Below Bb w w' :=
  ⟨g.os, g.tape, g.output, g.size, fun k hk => g.block k (by omega) (fun e => by have := (World.ownsRow.lt h k e.symm).1; omega)⟩
/-- All cells of number i stored, one after the other. -/
theorem Own.whole {w : World} {base g m cap i : Nat} {L : List Rw} (h : Own w base (.slice (some ⟨g, 0, none⟩) m cap) L) (hi : i < L.length) (y : Rw) :
    Own ((((((w.setCell ⟨g, i * 5, none⟩ (.string y.1)).setCell ⟨g, i * 5 + 1, none⟩ (.string y.2.1)).setCell ⟨g, i * 5 + 2, none⟩ (.int .i64 y.2.2.1)).setCell ⟨g, i * 5 + 3, none⟩ (.int .i64 y.2.2.2.1)).setCell ⟨g, i * 5 + 4, none⟩ (.bool y.2.2.2.2))) base (.slice (some ⟨g, 0, none⟩) m cap) (L.set i y) := by
  obtain ⟨y0, y1, y2, y3, y4⟩ := y
  have h1 := h.set (i := i) (j := 0) (v := .string y0) (y := (y0, (rat L i).2.1, (rat L i).2.2.1, (rat L i).2.2.2.1, (rat L i).2.2.2.2)) hi (by omega) (fun k hk => by
    match k, hk with
    | 0, _ => rfl
    | 1, _ => rfl
    | 2, _ => rfl
    | 3, _ => rfl
    | 4, _ => rfl)
  have h2 := h1.set (i := i) (j := 1) (v := .string y1) (y := (y0, y1, (rat L i).2.2.1, (rat L i).2.2.2.1, (rat L i).2.2.2.2)) (by rw [List.length_set]; exact hi) (by omega) (fun k hk => by
    rw [rat_set hi, if_pos rfl]
    match k, hk with
    | 0, _ => rfl
    | 1, _ => rfl
    | 2, _ => rfl
    | 3, _ => rfl
    | 4, _ => rfl)
  rw [List.set_set] at h2
  have h3 := h2.set (i := i) (j := 2) (v := .int .i64 y2) (y := (y0, y1, y2, (rat L i).2.2.2.1, (rat L i).2.2.2.2)) (by rw [List.length_set]; exact hi) (by omega) (fun k hk => by
    rw [rat_set hi, if_pos rfl]
    match k, hk with
    | 0, _ => rfl
    | 1, _ => rfl
    | 2, _ => rfl
    | 3, _ => rfl
    | 4, _ => rfl)
  rw [List.set_set] at h3
  have h4 := h3.set (i := i) (j := 3) (v := .int .i64 y3) (y := (y0, y1, y2, y3, (rat L i).2.2.2.2)) (by rw [List.length_set]; exact hi) (by omega) (fun k hk => by
    rw [rat_set hi, if_pos rfl]
    match k, hk with
    | 0, _ => rfl
    | 1, _ => rfl
    | 2, _ => rfl
    | 3, _ => rfl
    | 4, _ => rfl)
  rw [List.set_set] at h4
  have h5 := h4.set (i := i) (j := 4) (v := .bool y4) (y := (y0, y1, y2, y3, y4)) (by rw [List.length_set]; exact hi) (by omega) (fun k hk => by
    rw [rat_set hi, if_pos rfl]
    match k, hk with
    | 0, _ => rfl
    | 1, _ => rfl
    | 2, _ => rfl
    | 3, _ => rfl
    | 4, _ => rfl)
  rw [List.set_set] at h5
  exact h5
theorem infoRw : (Tryz.prog.info? 100).map (fun i => (i.zero, i.size, i.bytes)) = some (some (.agg #[.string ByteArray.empty, .string ByteArray.empty, .int .i64 0, .int .i64 0, .bool false]), 5, 56) := by kernel_rfl
theorem row_cell {w : World} {g : Nat} {cur : Array Value} {T : TypeId} {f : Nat × Nat} (hg : w.heap[g]? = some (.cells cur T f)) (j : Nat) : w.cell? ⟨g, j, none⟩ = cur[j]? := by simp [World.cell?, hg]
theorem rcells_split (M : List Rw) (k : Nat) (hk : k ≤ M.length) : rcells M = rcells (M.take k) ++ rcells (M.drop k) ∧ (rcells (M.take k)).length = k * 5 := by
  refine ⟨by rw [← rcells_append, List.take_append_drop], ?_⟩
  rw [rcells_length, List.length_take, Nat.min_eq_left hk]
theorem rcells_take (M : List Rw) (k : Nat) (hk : k ≤ M.length) : rcells (M.take k) = (rcells M).take (k * 5) := by
  obtain ⟨e, l⟩ := rcells_split M k hk
  rw [e, ← l, List.take_left]
theorem rcells_drop (M : List Rw) (k : Nat) (hk : k ≤ M.length) : rcells (M.drop k) = (rcells M).drop (k * 5) := by
  obtain ⟨e, l⟩ := rcells_split M k hk
  rw [e, ← l, List.drop_left]
/-- A row of one's own, looked into. -/
theorem own_row {w : World} {base g m cap : Nat} {M : List Rw} (h : Own w base (.slice (some ⟨g, 0, none⟩) m cap) M) : ∃ cur, base ≤ g ∧ w.heap[g]? = some (.cells cur 100 (0, 0)) ∧ M.length ≤ cap ∧ cap ≤ maxLen ∧ cur.size = cap * 5 ∧ cur.toList.take (M.length * 5) = rcells M ∧ M.length = m := by
  obtain ⟨a', c', e, _⟩ := h.form
  have em : M.length = m := by cases e; rfl
  rcases h.2 with ⟨e', _⟩ | ⟨g', cap', cur, e', hb, hg, hn, hm, hs, ht⟩
  · cases e'
  · cases e'
    exact ⟨cur, hb, hg, hn, hm, hs, ht, rfl⟩
/-- A piece of a row is read. -/
theorem Own.piece {w : World} {base g m cap : Nat} {M : List Rw} (h : Own w base (.slice (some ⟨g, 0, none⟩) m cap) M) (k : Nat) (hk : k ≤ M.length) : ∀ j u, (rcells (M.drop k))[j]? = some u → w.cell? ((⟨g, k * 5, none⟩ : Addr).add j) = some u := by
  intro j u hj
  obtain ⟨cur, _, hg, _, _, hsz, htk, _⟩ := own_row h
  rw [rcells_drop M k hk, List.getElem?_drop, ← htk, List.getElem?_take] at hj
  rw [Go.WideShapes.add_plain, row_cell hg]
  split at hj
  · rw [← Array.getElem?_toList]; exact hj
  · cases hj
theorem Own.front {w : World} {base g m cap : Nat} {M : List Rw} (h : Own w base (.slice (some ⟨g, 0, none⟩) m cap) M) (k : Nat) (hk : k ≤ M.length) : ∀ j u, (rcells (M.take k))[j]? = some u → w.cell? ((⟨g, 0, none⟩ : Addr).add j) = some u := by
  intro j u hj
  obtain ⟨cur, _, hg, _, _, hsz, htk, _⟩ := own_row h
  rw [rcells_take M k hk, List.getElem?_take] at hj
  rw [Go.WideShapes.add_plain, row_cell hg, Nat.zero_add]
  split at hj
  · rw [← htk, List.getElem?_take] at hj
    split at hj
    · rw [← Array.getElem?_toList]; exact hj
    · cases hj
  · cases hj
theorem Own.some_form {w : World} {base : Nat} {v : Value} {M : List Rw} (h : Own w base v M) (hv : v ≠ .slice none 0 0) : ∃ g cap, v = .slice (some ⟨g, 0, none⟩) M.length cap ∧ M.length ≤ cap ∧ cap ≤ 9223372036854775807 ∧ base ≤ g ∧ g < w.heap.size := by
  obtain ⟨a, cap, rfl, hc, hm, hR, hna, hs⟩ := h.form
  cases a with
  | none =>
    have e := hna rfl
    subst e
    have : M.length = 0 := by omega
    rw [this] at hv
    exact absurd rfl hv
  | some x =>
    obtain ⟨g, rfl, h1, h2⟩ := hs x rfl
    exact ⟨g, cap, rfl, hc, hm, h1, h2⟩
/-- What is read is there to be appended. -/
theorem Rd.cells {w : World} {b off : Nat} {L : List Rw} (h : Rd w (some ⟨b, off, none⟩) L) : ∀ j u, (rcells L)[j]? = some u → w.cell? ((⟨b, off, none⟩ : Addr).add j) = some u := by
  intro j u hj
  have hlt : j < L.length * 5 := by rw [← rcells_length]; exact (List.getElem?_eq_some_iff.1 hj).1
  obtain ⟨b', o', e, c⟩ := h.cell (j / 5) (by omega)
  cases e
  have hc := c (j % 5) (by omega)
  have hg := rcells_get L (j / 5) (j % 5) (by omega) (by omega)
  rw [show j / 5 * 5 + j % 5 = j by omega] at hc hg
  rw [hg] at hj
  rw [Go.WideShapes.add_plain, hc]
  exact hj
/-- An append onto a row of one's own, as one step of a region that draws its order; what is not nil stays so. -/
theorem step_append {ops : Array Oper} {o : Oper} {a : Act} {w : World} {K : Act → World → Prop} {Q : Exit → Act → World → Prop} {E : Prop}
    (hg : o.guard = none) (s x : Operand) (hop : o.op = Op.call { callee := Callee.builtin Builtin.append, args := #[s, x], argTypes := #[37, 37] })
    (base : Nat) (v : Value) (M N : List Rw) (hs : a.eval s = v) (hown : Own w base v M) (ad : Addr) (m c : Nat) (hm : N.length = m) (hx : a.eval x = .slice (some ad) m c) (hc : ∀ j u, (rcells N)[j]? = some u → w.cell? (ad.add j) = some u)
    (hl : M.length + m ≤ 1000) (hb : base ≤ w.heap.size)
    (hK : ∀ v' w', Own w' base v' (M ++ N) → w.grownBy w' v.ownBlock → (v' = .slice none 0 0 ↔ v = .slice none 0 0 ∧ m = 0) → K (a.put o.dst v') w') :
    if Region.wanted o (yielded ops a.tmps) = true then Oper.wp Tryz.prog o a w K Q else E := by
  have hw : Region.wanted o (yielded ops a.tmps) = true := by simp [Region.wanted, hg]
  obtain ⟨i0, hi0, hz0, hz1, hz2⟩ := info_parts infoRw
  rw [if_pos hw]
  obtain ⟨v', w', hrun, r1, r2, r3⟩ := run_append_own (P := Tryz.prog) w base 37 o.type 100 i0 (.agg #[.string ByteArray.empty, .string ByteArray.empty, .int .i64 0, .int .i64 0, .bool false]) 5 56 Tryz.underlying37 hi0 hz0 hz1 hz2 rfl (by decide) v M.length (rcells M) hown ad m c (rcells N) (by rw [rcells_length, hm]) hc (rcells_one _) (by unfold maxLen; omega) (by omega) hb
  unfold Oper.wp
  simp [execOp, hop, resolve, invoke, builtin, hs, hx, hrun, Result.andThen]
  exact hK v' w' (Own.more (by rw [hm]; exact r1)) r2 r3
/-- An append of nil onto a row of one's own, as one step of a region that draws its order. -/
theorem step_append_none {ops : Array Oper} {o : Oper} {a : Act} {w : World} {K : Act → World → Prop} {Q : Exit → Act → World → Prop} {E : Prop}
    (hg : o.guard = none) (s x : Operand) (hop : o.op = Op.call { callee := Callee.builtin Builtin.append, args := #[s, x], argTypes := #[37, 37] })
    (base : Nat) (v : Value) (M : List Rw) (hs : a.eval s = v) (hown : Own w base v M) (hx : a.eval x = .slice none 0 0)
    (hK : K (a.put o.dst v) w) : if Region.wanted o (yielded ops a.tmps) = true then Oper.wp Tryz.prog o a w K Q else E := by
  have hw : Region.wanted o (yielded ops a.tmps) = true := by simp [Region.wanted, hg]
  obtain ⟨i0, hi0, hz0, hz1, hz2⟩ := info_parts infoRw
  rw [if_pos hw]
  have hrun := run_append_owned_none (P := Tryz.prog) (w := w) base 37 o.type 100 i0 5 Tryz.underlying37 hi0 v M.length (rcells M) hown
  unfold Oper.wp
  simp [execOp, hop, resolve, invoke, builtin, hs, hx, hrun, Result.andThen]
  exact hK
theorem grown_cell1 {w w' : World} {r : Option Nat} (k : w.grownBy w' r) {b o : Nat} {v : Value} (h : w.cell? ⟨b, o, none⟩ = some v) (hr : some b ≠ r) : w'.cell? ⟨b, o, none⟩ = some v := by
  rw [World.cell?_of_block (w := w) (k.block b (cell_block h) hr)]
  exact h
/-- The block that a slice owns; of none, one that is not there. -/
def ob (w : World) (v : Value) : Nat := v.ownBlock.getD w.heap.size
theorem Own.lo {w w' : World} {b b' : Nat} {u v : Value} {M L : List Rw} (hu : Own w b u M) (hv : Own w b' v L) (Y : Only (ob w v) w w') (hlt : ∀ g, u.ownBlock = some g → g < b') : Own w' b u M := by
  refine hu.only Y (.inr fun g hg => ?_)
  have h1 := hlt g hg
  have h2 := (World.ownsRow.lt hu g hg).2
  unfold ob
  cases hvb : v.ownBlock with
  | none => simp; omega
  | some x => have := (World.ownsRow.lt hv x hvb).1; simp; omega
theorem Own.hi {w w' : World} {b b' : Nat} {u v : Value} {M L : List Rw} (hu : Own w b u M) (hv : Own w b' v L) (Y : Only (ob w v) w w') (hlt : ∀ g, v.ownBlock = some g → g < b) : Own w' b u M := by
  refine hu.only Y (.inr fun g hg => ?_)
  have h2 := World.ownsRow.lt hu g hg
  unfold ob
  cases hvb : v.ownBlock with
  | none => simp; omega
  | some x => have := hlt x hvb; simp; omega
theorem Own.blk {w : World} {b : Nat} {v : Value} {L : List Rw} (hv : Own w b v L) {X : Nat} (hX : w.heap.size ≤ X) : ∀ g, v.ownBlock = some g → g < X := fun g hg => by
  have := (World.ownsRow.lt hv g hg).2; omega
theorem ob_below {W w w' : World} {b B : Nat} {v : Value} {L : List Rw} (k : Below B W w) (hv : Own w b v L) (Y : Only (ob w v) w w') (hb : B ≤ b) (hs : B ≤ w.heap.size) : Below B W w' := by
  refine k.trans (Y.below ?_ hs)
  unfold ob
  cases hvb : v.ownBlock with
  | none => simpa using hs
  | some x => have := (World.ownsRow.lt hv x hvb).1; simp; omega
theorem rat_map (m : Nat) (f : Nat → Rw) (i : Nat) (hi : i < m) : rat ((List.range m).map f) i = f i := by
  unfold rat
  rw [List.getD_eq_getElem?_getD, List.getElem?_map, List.getElem?_range hi]
  rfl
theorem fresh (w : World) (x : Rw) (T : TypeId) : ∀ j u, (rcells [x])[j]? = some u → (w.alloc (.cells (rc x) T)).cell? ((⟨w.heap.size, 0, none⟩ : Addr).add j) = some u := by
  intro j u hj
  match j, hj with
  | 0, hj => simp [rcells] at hj; subst hj; simp [Addr.add]
  | 1, hj => simp [rcells] at hj; subst hj; simp [Addr.add]
  | 2, hj => simp [rcells] at hj; subst hj; simp [Addr.add]
  | 3, hj => simp [rcells] at hj; subst hj; simp [Addr.add]
  | 4, hj => simp [rcells] at hj; subst hj; simp [Addr.add]
  | j + 5, hj => simp [rcells] at hj
/-- The slice at a, of capacity cap, that came in reads as L; its texts are no longer than a text may be. -/
structure In (w : World) (a : Option Addr) (cap : Nat) (L : List Rw) : Prop where
  rd : Rd w a L
  na : a = none → cap = 0
  le : L.length ≤ cap
  cap : cap ≤ 9223372036854775807
  short : ∀ i, i < L.length → (rat L i).1.size ≤ 9223372036854775807 ∧ (rat L i).2.1.size ≤ 9223372036854775807
/-- The cell of a slice, looked into. -/
theorem open_cells {H : Type} {P : Program} {enc : TypeId × Value → H} {w : World} {base : Nat} {spare : Nat → Bool} {held : Bool} {v : Value} {fuel : Nat} {z : DataW H × List MemPlace} {t e : TypeId} {f0 f1 f2 f3 f4 : Field}
    (ht : P.underlying t = some (.slice e)) (he : P.underlying e = some (.struct #[f0, f1, f2, f3, f4])) (ce : P.cellsOf e = 5) (o0 : f0.offset = 0) (o1 : f1.offset = 1) (o2 : f2.offset = 2) (o3 : f3.offset = 3) (o4 : f4.offset = 4)
    (c0 : P.cellsOf f0.type = 1) (c1 : P.cellsOf f1.type = 1) (c2 : P.cellsOf f2.type = 1) (c3 : P.cellsOf f3.type = 1) (c4 : P.cellsOf f4.type = 1)
    (t0 : P.underlying f0.type = some .string) (t1 : P.underlying f1.type = some .string) (t2 : P.underlying f2.type = some (.int .i64)) (t3 : P.underlying f3.type = some (.int .i64)) (t4 : P.underlying f4.type = some .bool)
    (hf : DataW.trod enc P w base spare held fuel t [v] = some z) : ∃ (a : Option Addr) (cap : Nat) (L : List Rw), v = .slice a L.length cap ∧ In w a cap L := by
  rcases Go.Deep.open_slice ht hf with ⟨hcs, _⟩ | ⟨x, len, cap, m, n, D, Pl, hcs, _, hl, hc, hm, _, hx⟩
  · simp at hcs
    subst hcs
    exact ⟨none, 0, [], rfl, Rd.nil _ _, fun _ => rfl, Nat.zero_le _, by decide, fun i hi => by simp at hi⟩
  · simp at hcs
    subst hcs
    have hlm : len ≤ m := by rw [hm]; split <;> omega
    have each : ∀ i, i < len → ∃ y : Rw, (∀ j, j < 5 → w.cell? (x.add (i * 5 + j)) = some (rcell y j)) ∧ y.1.size ≤ maxLen ∧ y.2.1.size ≤ maxLen := by
      intro i hi
      obtain ⟨cs', h1, h2⟩ := hx i (by omega)
      rw [ce] at h1
      obtain ⟨_, hlen, hcell⟩ := World.cells?_some h1
      obtain ⟨xs, k, hk, hxy, _, hxl, hf'⟩ := DataW.trod_struct he h2
      match xs, hxl, cs', hlen with
      | [y0, y1, y2, y3, y4], _, [v0, v1, v2, v3, v4], _ =>
        have g0 := hf' 0 f0 rfl
        have g1 := hf' 1 f1 rfl
        have g2 := hf' 2 f2 rfl
        have g3 := hf' 3 f3 rfl
        have g4 := hf' 4 f4 rfl
        simp [o0, o1, o2, o3, o4, c0, c1, c2, c3, c4] at g0 g1 g2 g3 g4
        obtain ⟨q0, eq0, _, hs0⟩ := DataW.trod_string t0 g0
        obtain ⟨q1, eq1, _, hs1⟩ := DataW.trod_string t1 g1
        obtain ⟨q2, eq2, _, _⟩ := DataW.trod_int t2 g2
        obtain ⟨q3, eq3, _, _⟩ := DataW.trod_int t3 g3
        obtain ⟨q4, eq4, _, _⟩ := DataW.trod_bool t4 g4
        simp at eq0 eq1 eq2 eq3 eq4
        subst eq0 eq1 eq2 eq3 eq4
        refine ⟨(q0, q1, q2, q3, q4), fun j hj => ?_, hs0, hs1⟩
        have e := hcell j hj
        rw [Go.Deep.add_add] at e
        rw [e]
        match j, hj with
        | 0, _ => rfl
        | 1, _ => rfl
        | 2, _ => rfl
        | 3, _ => rfl
        | 4, _ => rfl
    haveI : Inhabited Rw := ⟨(ByteArray.empty, ByteArray.empty, 0, 0, false)⟩
    obtain ⟨f, hf'⟩ := Go.Deep.choose_lt each
    refine ⟨some x, cap, (List.range len).map f, by simp, ⟨fun i hi => ?_⟩, (fun e => by cases e), by simpa using hl, hc, fun i hi => ?_⟩
    · have hi' : i < len := by simpa using hi
      have z0 := (hf' 0 (by omega)).1 0 (by omega)
      obtain ⟨b, off, spot⟩ := x
      have hspot : spot = none := by simpa [Addr.add] using World.cell?_spot z0
      subst hspot
      refine ⟨b, off, rfl, fun j hj => ?_⟩
      rw [rat_map _ _ _ hi', ← Go.WideShapes.add_plain]
      exact (hf' i hi').1 j hj
    · have hi' : i < len := by simpa using hi
      rw [rat_map _ _ _ hi']
      exact (hf' i hi').2
theorem open_rows {H : Type} {P : Program} {enc : TypeId × Value → H} {w : World} {r : Reach} {b0 base : Nat} {spare : Nat → Bool} {held : Bool} {v : Value} {d : DataW H} {p : List MemPlace} {t e : TypeId} {f0 f1 f2 f3 f4 : Field}
    (ht : P.underlying t = some (.slice e)) (he : P.underlying e = some (.struct #[f0, f1, f2, f3, f4])) (ce : P.cellsOf e = 5) (o0 : f0.offset = 0) (o1 : f1.offset = 1) (o2 : f2.offset = 2) (o3 : f3.offset = 3) (o4 : f4.offset = 4)
    (c0 : P.cellsOf f0.type = 1) (c1 : P.cellsOf f1.type = 1) (c2 : P.cellsOf f2.type = 1) (c3 : P.cellsOf f3.type = 1) (c4 : P.cellsOf f4.type = 1)
    (t0 : P.underlying f0.type = some .string) (t1 : P.underlying f1.type = some .string) (t2 : P.underlying f2.type = some (.int .i64)) (t3 : P.underlying f3.type = some (.int .i64)) (t4 : P.underlying f4.type = some .bool)
    (hv : Value.okWide P w r b0 t v) (h : DataW.Trod enc P w base spare held t v d p) : ∃ (a : Option Addr) (cap : Nat) (L : List Rw), v = .slice a L.length cap ∧ In w a cap L := by
  obtain ⟨a, len, cap, rfl⟩ := okWide_slice ht hv
  obtain ⟨fuel, hf⟩ := h
  have hf' : DataW.trod enc P w base spare held fuel t [.slice a len cap] = some (d, p) := by simpa [Value.cells] using hf
  exact open_cells ht he ce o0 o1 o2 o3 o4 c0 c1 c2 c3 c4 t0 t1 t2 t3 t4 hf'
theorem arrayN {cs : Array Value} (h : cs.size = 5) : ∃ a0 a1 a2 a3 a4, cs = #[a0, a1, a2, a3, a4] := by
  obtain ⟨l⟩ := cs
  match l, h with
  | [a0, a1, a2, a3, a4], _ => exact ⟨a0, a1, a2, a3, a4, rfl⟩
/-- One that came in by value. -/
theorem open_one {H : Type} {P : Program} {enc : TypeId × Value → H} {w : World} {r : Reach} {b0 base : Nat} {spare : Nat → Bool} {held : Bool} {v : Value} {d : DataW H} {p : List MemPlace} {e : TypeId} {f0 f1 f2 f3 f4 : Field}
    (he : P.underlying e = some (.struct #[f0, f1, f2, f3, f4])) (ce : P.cellsOf e = 5) (o0 : f0.offset = 0) (o1 : f1.offset = 1) (o2 : f2.offset = 2) (o3 : f3.offset = 3) (o4 : f4.offset = 4)
    (c0 : P.cellsOf f0.type = 1) (c1 : P.cellsOf f1.type = 1) (c2 : P.cellsOf f2.type = 1) (c3 : P.cellsOf f3.type = 1) (c4 : P.cellsOf f4.type = 1)
    (t0 : P.underlying f0.type = some .string) (t1 : P.underlying f1.type = some .string) (t2 : P.underlying f2.type = some (.int .i64)) (t3 : P.underlying f3.type = some (.int .i64)) (t4 : P.underlying f4.type = some .bool)
    (hv : Value.okWide P w r b0 e v) (h : DataW.Trod enc P w base spare held e v d p) : ∃ y : Rw, v = rv y ∧ y.1.size ≤ 9223372036854775807 ∧ y.2.1.size ≤ 9223372036854775807 := by
  obtain ⟨cs, rfl, hsz⟩ := okWide_struct he hv
  obtain ⟨v0, v1, v2, v3, v4, rfl⟩ := arrayN (hsz.trans ce)
  obtain ⟨fuel, hf⟩ := h
  obtain ⟨xs, k, hk, hxy, _, hxl, hf'⟩ := DataW.trod_struct he hf
  match xs, hxl with
  | [y0, y1, y2, y3, y4], _ =>
    have g0 := hf' 0 f0 rfl
    have g1 := hf' 1 f1 rfl
    have g2 := hf' 2 f2 rfl
    have g3 := hf' 3 f3 rfl
    have g4 := hf' 4 f4 rfl
    simp [o0, o1, o2, o3, o4, c0, c1, c2, c3, c4, Value.cells] at g0 g1 g2 g3 g4
    obtain ⟨q0, eq0, _, hs0⟩ := DataW.trod_string t0 g0
    obtain ⟨q1, eq1, _, hs1⟩ := DataW.trod_string t1 g1
    obtain ⟨q2, eq2, _, _⟩ := DataW.trod_int t2 g2
    obtain ⟨q3, eq3, _, _⟩ := DataW.trod_int t3 g3
    obtain ⟨q4, eq4, _, _⟩ := DataW.trod_bool t4 g4
    simp at eq0 eq1 eq2 eq3 eq4
    subst eq0 eq1 eq2 eq3 eq4
    exact ⟨(q0, q1, q2, q3, q4), rfl, hs0, hs1⟩
end Go.Proofs.YtceddedlfdgbhaaGreatDoor.En
namespace Go.Proofs.YtceddedlfdgbhaaGreatDoor.En
open Go.ChangeShapes Go.WideShapes Go.ChangeAt Go.RowKit
open Go.Proofs.YtceddedlfdgbhaaGreatDoor.Rc (BelowBy BelowBy.one wp_region_below calls_below calls_same)
open Go.Proofs.YtceddedlfdgbhaaGreatDoor.Bk (Bytes okE newB okBk look Ris)
set_option linter.unusedVariables false
abbrev bs (s : ByteArray) : Bytes := s.data.toList
theorem bs_length (s : ByteArray) : (bs s).length = s.size := by cases s; simp [ByteArray.size]
theorem bs_inj {a b : ByteArray} (h : bs a = bs b) : a = b := by
  cases a
  cases b
  simp [bs] at h
  rw [h]
def toE (x : Rw) : Bk.En := ⟨bs x.1, bs x.2.1, x.2.2.1, x.2.2.2.1, x.2.2.2.2⟩
theorem toE_inj {x y : Rw} (h : toE x = toE y) : x = y := by
  obtain ⟨a, b, c, d, e⟩ := x
  obtain ⟨a', b', c', d', e'⟩ := y
  simp only [toE, Bk.En.mk.injEq] at h
  obtain ⟨h1, h2, rfl, rfl, rfl⟩ := h
  rw [bs_inj h1, bs_inj h2]
abbrev toB (L : List Rw) : List Bk.En := L.map toE
theorem toB_inj {L M : List Rw} (h : toB L = toB M) : L = M := by
  induction L generalizing M with
  | nil => cases M with
    | nil => rfl
    | cons y M => cases h
  | cons x L ih => cases M with
    | nil => cases h
    | cons y M =>
      simp only [toB, List.map_cons, List.cons.injEq] at h
      rw [toE_inj h.1, ih h.2]
def inB (n lo hi : Int) : Bool := decide (lo ≤ n) && decide (n ≤ hi)
theorem less_eq : ∀ x y : Bytes, Op.bytesLess x y = decide (x < y)
  | [], [] => by simp [Op.bytesLess]
  | _ :: _, [] => by simp [Op.bytesLess]
  | [], _ :: _ => by simp [Op.bytesLess]
  | a :: x, b :: y => by
    rw [Op.bytesLess, less_eq x y]
    by_cases h : a = b
    · subst h; simp
    · simp [List.cons_lt_cons_iff, h]
theorem less_of (a b : ByteArray) : Op.bytesLess a.toList b.toList = decide (bs a < bs b) := by rw [less_eq, Go.Lib.toList_data, Go.Lib.toList_data]
theorem eq_of (a b : ByteArray) : (a.toList == b.toList) = decide (bs a = bs b) := by rw [Go.Lib.toList_data, Go.Lib.toList_data, Bool.eq_iff_iff]; simp
theorem okE_eq (x : Rw) : okE (toE x) = (inB (x.1.size : Int) 1 40 && (decide (x.2.1.size ≤ 40) && ((!x.2.2.2.2 || decide (x.2.1.size = 0)) && (inB x.2.2.1 1 1000000 && inB x.2.2.2.1 0 7)))) := by
  obtain ⟨a, b, c, d, e⟩ := x
  have h1 : decide (1 ≤ (a.size : Int)) = decide (1 ≤ a.size) := decide_eq_decide.2 (by omega)
  have h2 : decide ((a.size : Int) ≤ 40) = decide (a.size ≤ 40) := decide_eq_decide.2 (by omega)
  simp only [okE, toE, inB, bs_length, h1, h2, Bool.and_assoc]
  rfl
theorem gt_bytes (x y : Bytes) : (!Op.bytesLess x y && !(x == y)) = Op.bytesLess y x := by
  rw [less_eq, less_eq]
  by_cases h : y < x
  · rw [decide_eq_true h, decide_eq_false (fun k => List.lt_irrefl _ (List.lt_trans h k))]
    have : x ≠ y := fun e => by subst e; exact List.lt_irrefl _ h
    simp [this]
  · rw [decide_eq_false h]
    by_cases k : x < y
    · simp [k]
    · have : x = y := Bk.lt_total k h
      subst this
      simp
theorem le_bytes (x y : Bytes) : (Op.bytesLess x y || (x == y)) = !Op.bytesLess y x := by
  rw [← gt_bytes x y]
  cases Op.bytesLess x y <;> cases x == y <;> rfl
theorem str_gtr (t : TypeId) (a b : ByteArray) : binOp .gtr t (.string a) (.string b) = pure (.bool (Op.bytesLess b.toList a.toList)) := by
  rw [← gt_bytes]
  simp [binOp, Op.stringOp]
theorem str_leq (t : TypeId) (a b : ByteArray) : binOp .leq t (.string a) (.string b) = pure (.bool (!Op.bytesLess b.toList a.toList)) := by
  rw [← le_bytes]
  simp [binOp, Op.stringOp]
attribute [local go_sem] str_gtr str_leq
set_option maxHeartbeats 2000000 in
theorem spec_l1In (n lo hi : Int) (w : World) : Calls Tryz.prog 32 #[.int .i64 n, .int .i64 lo, .int .i64 hi] w fun e w' => e = .returned (.bool (inB n lo hi)) ∧ w' = w := by
  unfold inB
  by_cases h : lo ≤ n
  · have h' : decide (lo ≤ n) = true := decide_eq_true h
    rw [h', Bool.true_and]
    go_enter Tryz.func32, Tryz.ntmps32
    go_wp2
    go_ret
    exact ⟨rfl, rfl⟩
  · have h' : decide (lo ≤ n) = false := decide_eq_false h
    rw [h', Bool.false_and]
    go_enter Tryz.func32, Tryz.ntmps32
    go_wp2
    go_ret
    exact ⟨rfl, rfl⟩
set_option maxRecDepth 100000 in
set_option maxHeartbeats 4000000 in
theorem spec_EntryOk (x : Rw) (w : World) (hs : x.1.size ≤ 9223372036854775807) (hu : x.2.1.size ≤ 9223372036854775807) : Calls Tryz.prog 55 #[rv x] w fun e w' => e = .returned (.bool (okE (toE x))) ∧ Below w.heap.size w w' := by
  rw [okE_eq]
  obtain ⟨a, b, c, d, e⟩ := x
  simp only at hs hu ⊢
  have CK := hidIt (fun W => spec_l1In (a.size : Int) 1 40 W)
  have CT := hidIt (fun W => spec_l1In c 1 1000000 W)
  have CN := hidIt (fun W => spec_l1In d 0 7 W)
  generalize inB (a.size : Int) 1 40 = k1 at CK ⊢
  generalize inB c 1 1000000 = k4 at CT ⊢
  generalize inB d 0 7 = k5 at CN ⊢
  have z1 : -9223372036854775808 ≤ (a.size : Int) := by omega
  have z2 : (a.size : Int) ≤ 9223372036854775807 := by omega
  cases k1 with
  | false =>
    go_enter Tryz.func55, Tryz.ntmps55
    go_wp2_with (fail)
    refine (CK.out _).mono ?_
    rintro e w1 ⟨rfl, rfl⟩
    go_wp2_with (fail)
    go_ret
    exact ⟨rfl, by go_grown⟩
  | true =>
    by_cases hb : b.size ≤ 40
    · have hb' : (b.size : Int) ≤ 40 := by omega
      rw [decide_eq_true hb]
      by_cases he : e = false ∨ b.size = 0
      · have er : (!e || decide (b.size = 0)) = true := by rcases he with h | h <;> simp [h]
        rw [er]
        simp only [Bool.true_and]
        rcases he with h | h
        · subst h
          cases k4 with
          | false =>
            go_enter Tryz.func55, Tryz.ntmps55
            go_wp2_with (fail)
            refine (CK.out _).mono ?_
            rintro e w1 ⟨rfl, rfl⟩
            go_wp2_with (fail)
            refine (CT.out _).mono ?_
            rintro e w1 ⟨rfl, rfl⟩
            go_wp2_with (fail)
            go_ret
            exact ⟨rfl, by go_grown⟩
          | true =>
            go_enter Tryz.func55, Tryz.ntmps55
            go_wp2_with (fail)
            refine (CK.out _).mono ?_
            rintro e w1 ⟨rfl, rfl⟩
            go_wp2_with (fail)
            refine (CT.out _).mono ?_
            rintro e w1 ⟨rfl, rfl⟩
            go_wp2_with (fail)
            refine (CN.out _).mono ?_
            rintro e w1 ⟨rfl, rfl⟩
            go_wp2_with (fail)
            go_ret
            exact ⟨rfl, by go_grown⟩
        · obtain rfl : b = ByteArray.empty := by
            apply bs_inj
            have := bs_length b
            rw [h] at this
            rw [List.length_eq_zero_iff.1 this]
            rfl
          clear h hb hb' hu
          cases e with
          | false =>
            cases k4 with
            | false =>
              go_enter Tryz.func55, Tryz.ntmps55
              go_wp2_with (fail)
              refine (CK.out _).mono ?_
              rintro e w1 ⟨rfl, rfl⟩
              go_wp2_with (fail)
              refine (CT.out _).mono ?_
              rintro e w1 ⟨rfl, rfl⟩
              go_wp2_with (fail)
              go_ret
              exact ⟨rfl, by go_grown⟩
            | true =>
              go_enter Tryz.func55, Tryz.ntmps55
              go_wp2_with (fail)
              refine (CK.out _).mono ?_
              rintro e w1 ⟨rfl, rfl⟩
              go_wp2_with (fail)
              refine (CT.out _).mono ?_
              rintro e w1 ⟨rfl, rfl⟩
              go_wp2_with (fail)
              refine (CN.out _).mono ?_
              rintro e w1 ⟨rfl, rfl⟩
              go_wp2_with (fail)
              go_ret
              exact ⟨rfl, by go_grown⟩
          | true =>
            cases k4 with
            | false =>
              go_enter Tryz.func55, Tryz.ntmps55
              go_wp2_with (fail)
              refine (CK.out _).mono ?_
              rintro e w1 ⟨rfl, rfl⟩
              go_wp2_with (fail)
              refine (CT.out _).mono ?_
              rintro e w1 ⟨rfl, rfl⟩
              go_wp2_with (fail)
              go_ret
              exact ⟨rfl, by go_grown⟩
            | true =>
              go_enter Tryz.func55, Tryz.ntmps55
              go_wp2_with (fail)
              refine (CK.out _).mono ?_
              rintro e w1 ⟨rfl, rfl⟩
              go_wp2_with (fail)
              refine (CT.out _).mono ?_
              rintro e w1 ⟨rfl, rfl⟩
              go_wp2_with (fail)
              refine (CN.out _).mono ?_
              rintro e w1 ⟨rfl, rfl⟩
              go_wp2_with (fail)
              go_ret
              exact ⟨rfl, by go_grown⟩
      · have h1 : e = true := by cases e <;> simp_all
        have h2 : ¬ b.size = 0 := fun h => he (.inr h)
        subst h1
        have hbl : (b.toList == []) = false := by
          have := bs_length b
          rw [Go.Lib.toList_data]
          cases hb' : b.data.toList with
          | nil => simp [bs, hb'] at this; omega
          | cons x r => rfl
        have er : (!true || decide (b.size = 0)) = false := by simp [h2]
        rw [er]
        clear he er
        go_enter Tryz.func55, Tryz.ntmps55
        go_wp2_with (fail)
        refine (CK.out _).mono ?_
        rintro e w1 ⟨rfl, rfl⟩
        go_wp2_with (fail)
        go_ret
        exact ⟨rfl, by go_grown⟩
    · have hb' : ¬ (b.size : Int) ≤ 40 := by omega
      rw [decide_eq_false hb]
      go_enter Tryz.func55, Tryz.ntmps55
      go_wp2_with (fail)
      refine (CK.out _).mono ?_
      rintro e w1 ⟨rfl, rfl⟩
      go_wp2_with (fail)
      go_ret
      exact ⟨rfl, by go_grown⟩
set_option maxRecDepth 100000 in
set_option maxHeartbeats 4000000 in
theorem spec_Newer (x y : Rw) (w : World) : Calls Tryz.prog 77 #[rv x, rv y] w fun e w' => e = .returned (.bool (newB (toE x) (toE y))) ∧ Below w.heap.size w w' := by
  obtain ⟨k, v, t, n, g⟩ := x
  obtain ⟨k', v', t', n', g'⟩ := y
  by_cases h1 : t = t'
  · by_cases h2 : n = n'
    · by_cases h3 : g = g'
      · have er : newB (toE (k, v, t, n, g)) (toE (k', v', t', n', g')) = Op.bytesLess v'.toList v.toList := (Bk.newB_4 h1 h2 h3).trans (less_of v' v).symm
        rw [er]
        subst h1 h2 h3
        have e1 : (t != t) = false := by simp
        have e2 : (n != n) = false := by simp
        have e3 : (g == g) = true := by cases g <;> rfl
        clear er
        go_enter Tryz.func77, Tryz.ntmps77
        go_wp2
        go_ret
        exact ⟨rfl, by go_grown⟩
      · have er : newB (toE (k, v, t, n, g)) (toE (k', v', t', n', g')) = g := Bk.newB_3 h1 h2 h3
        rw [er]
        subst h1 h2
        have e1 : (t != t) = false := by simp
        have e2 : (n != n) = false := by simp
        have e3 : (g == g') = false := by cases g <;> cases g' <;> simp_all
        clear h3 er
        go_enter Tryz.func77, Tryz.ntmps77
        go_wp2
        go_ret
        exact ⟨rfl, by go_grown⟩
    · have er : newB (toE (k, v, t, n, g)) (toE (k', v', t', n', g')) = decide (n' < n) := Bk.newB_2 h1 h2
      rw [er]
      subst h1
      have e1 : (t != t) = false := by simp
      have e2 : (n != n') = true := by simpa using h2
      clear h2 er
      go_enter Tryz.func77, Tryz.ntmps77
      go_wp2
      go_ret
      exact ⟨rfl, by go_grown⟩
  · have er : newB (toE (k, v, t, n, g)) (toE (k', v', t', n', g')) = decide (t' < t) := Bk.newB_1 h1
    rw [er]
    have e1 : (t != t') = true := by simpa using h1
    clear h1 er
    go_enter Tryz.func77, Tryz.ntmps77
    go_wp2
    go_ret
    exact ⟨rfl, by go_grown⟩
end Go.Proofs.YtceddedlfdgbhaaGreatDoor.En
