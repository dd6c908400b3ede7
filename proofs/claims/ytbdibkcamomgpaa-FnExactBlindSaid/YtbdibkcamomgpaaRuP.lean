/-
  Rules in plain words: which lists are right, which Rule says of a key, what they are shown as. No program in sight but for the tuple that a Rule is.
-/
import Derived.Test.YtbdibkcamomgpaaRulM
import Derived.Lib.Strings
namespace Go.Proofs.Ytbdibkcamomgpaa.Ru
open Go.ChangeShapes Go.WideShapes Go.ChangeAt Go.RowKit
set_option linter.unusedVariables false
abbrev Bytes := List UInt8
abbrev bs (s : ByteArray) : Bytes := s.data.toList
theorem bs_length (s : ByteArray) : (bs s).length = s.size := by cases s; simp [ByteArray.size]
theorem bs_inj {a b : ByteArray} (h : bs a = bs b) : a = b := by
  cases a
  cases b
  simp [bs] at h
  rw [h]
theorem bs_at {s : ByteArray} {i : Nat} (hi : i < s.size) : (bs s)[i]'(by rw [bs_length]; exact hi) = s[i] := rfl
theorem lt_total {a b : Bytes} (h : ¬ a < b) (k : ¬ b < a) : a = b := List.le_antisymm k h
theorem less_eq : ∀ x y : Bytes, Op.bytesLess x y = decide (x < y)
  | [], [] => by simp [Op.bytesLess]
  | _ :: _, [] => by simp [Op.bytesLess]
  | [], _ :: _ => by simp [Op.bytesLess]
  | a :: x, b :: y => by
    rw [Op.bytesLess, less_eq x y]
    by_cases h : a = b
    · subst h; simp
    · simp [List.cons_lt_cons_iff, h]
theorem less_of (a b : ByteArray) : Op.bytesLess a.toList b.toList = decide (bs a < bs b) := by rw [less_eq, Go.Lib.toList_data, Go.Lib.toList_data]
theorem eq_of (a b : ByteArray) : (a.toList == b.toList) = decide (bs a = bs b) := by rw [Go.Lib.toList_data, Go.Lib.toList_data, Bool.eq_iff_iff]; simp
theorem gt_bytes (x y : Bytes) : (!Op.bytesLess x y && !(x == y)) = Op.bytesLess y x := by
  rw [less_eq, less_eq]
  by_cases h : y < x
  · rw [decide_eq_true h, decide_eq_false (fun k => List.lt_irrefl _ (List.lt_trans h k))]
    have : x ≠ y := fun e => by subst e; exact List.lt_irrefl _ h
    simp [this]
  · rw [decide_eq_false h]
    by_cases k : x < y
    · simp [k]
    · have : x = y := lt_total k h
      subst this
      simp
theorem le_bytes (x y : Bytes) : (Op.bytesLess x y || (x == y)) = !Op.bytesLess y x := by
  rw [← gt_bytes x y]
  cases Op.bytesLess x y <;> cases x == y <;> rfl
theorem str_gtr (t : TypeId) (a b : ByteArray) : binOp .gtr t (.string a) (.string b) = pure (.bool (Op.bytesLess b.toList a.toList)) := by
  rw [← gt_bytes]
  simp [binOp, Op.stringOp]
theorem str_leq (t : TypeId) (a b : ByteArray) : binOp .leq t (.string a) (.string b) = pure (.bool (!Op.bytesLess b.toList a.toList)) := by
  rw [← le_bytes]
  simp [binOp, Op.stringOp]
/-- A byte of a Prefix. -/
def byteP (b : UInt8) : Bool := decide (33 ≤ b.toNat) && decide (b.toNat ≤ 126)
theorem byteP_yes {b : UInt8} (h : 33 ≤ b.toNat) (k : b.toNat ≤ 126) : byteP b = true := by simp [byteP, h, k]
theorem byteP_no {b : UInt8} (h : b.toNat < 33 ∨ 126 < b.toNat) : byteP b = false := by
  unfold byteP
  rcases h with h | h
  · rw [decide_eq_false (by omega), Bool.false_and]
  · rw [decide_eq_false (p := b.toNat ≤ 126) (by omega), Bool.and_false]
theorem byteP_to {b : UInt8} (h : byteP b = true) : 33 ≤ b.toNat ∧ b.toNat ≤ 126 := by simpa [byteP] using h
def okP (s : ByteArray) : Bool := decide (s.size ≤ 40) && (bs s).all byteP
theorem okP_yes {s : ByteArray} (h : s.size ≤ 40) (k : ∀ j, (hj : j < s.size) → byteP s[j] = true) : okP s = true := by
  unfold okP
  rw [decide_eq_true h, Bool.true_and, List.all_eq_true]
  intro c hc
  obtain ⟨j, hj, rfl⟩ := List.mem_iff_getElem.1 hc
  exact k j (by simpa using hj)
theorem okP_no1 {s : ByteArray} (h : ¬ s.size ≤ 40) : okP s = false := by unfold okP; rw [decide_eq_false h, Bool.false_and]
theorem okP_no2 {s : ByteArray} {i : Nat} (hi : i < s.size) (h : byteP s[i] = false) : okP s = false := by
  have : (bs s).all byteP = false := by
    rw [List.all_eq_false]
    exact ⟨s[i], by show s[i] ∈ s.data.toList; rw [Array.mem_toList_iff]; exact Array.getElem_mem hi, by rw [h]; simp⟩
  unfold okP
  rw [this, Bool.and_false]
theorem okP_len {s : ByteArray} (h : okP s = true) : s.size ≤ 40 := by simp [okP] at h; exact h.1
theorem okP_all {s : ByteArray} (h : okP s = true) : ∀ b ∈ bs s, byteP b = true := by
  unfold okP at h
  rw [Bool.and_eq_true, List.all_eq_true] at h
  exact h.2
abbrev kat (L : List Rw) (i : Nat) : Bytes := bs (rat L i).1
def okR (L : List Rw) : Bool := decide (L.length ≤ 12) && (L.all (fun x => okP x.1) && (List.range (L.length - 1)).all (fun i => decide (kat L i < kat L (i + 1))))
theorem okR_len {L : List Rw} (h : okR L = true) : L.length ≤ 12 := by simp only [okR, Bool.and_eq_true, decide_eq_true_eq] at h; exact h.1
theorem okR_all {L : List Rw} (h : okR L = true) : ∀ x ∈ L, okP x.1 = true := by
  simp only [okR, Bool.and_eq_true, List.all_eq_true] at h
  exact h.2.1
theorem okR_at {L : List Rw} (h : okR L = true) {i : Nat} (hi : i < L.length) : okP (rat L i).1 = true := okR_all h _ (rat_mem hi)
theorem okR_ris {L : List Rw} (h : okR L = true) (i : Nat) (hi : i + 1 < L.length) : kat L i < kat L (i + 1) := by
  simp only [okR, Bool.and_eq_true, List.all_eq_true] at h
  exact of_decide_eq_true (h.2.2 i (List.mem_range.2 (by omega)))
theorem okR_yes {L : List Rw} (h1 : L.length ≤ 12) (h2 : ∀ i, i < L.length → okP (rat L i).1 = true) (h3 : ∀ i, i + 1 < L.length → kat L i < kat L (i + 1)) : okR L = true := by
  simp only [okR, Bool.and_eq_true, List.all_eq_true, decide_eq_true_eq]
  refine ⟨h1, fun x hx => ?_, fun i hi => h3 i (by have := List.mem_range.1 hi; omega)⟩
  obtain ⟨i, hi, rfl⟩ := List.mem_iff_getElem.1 hx
  have := h2 i hi
  rwa [rat_at hi] at this
theorem okR_no1 {L : List Rw} (h : ¬ L.length ≤ 12) : okR L = false := by
  cases e : okR L with
  | false => rfl
  | true => exact absurd (okR_len e) h
theorem okR_no2 {L : List Rw} {i : Nat} (hi : i < L.length) (h : okP (rat L i).1 = false) : okR L = false := by
  cases e : okR L with
  | false => rfl
  | true => have := okR_at e hi; rw [h] at this; cases this
theorem okR_no3 {L : List Rw} {i : Nat} (hi : i + 1 < L.length) (h : ¬ kat L i < kat L (i + 1)) : okR L = false := by
  cases e : okR L with
  | false => rfl
  | true => exact absurd (okR_ris e i hi) h
theorem okR_far {L : List Rw} (h : okR L = true) : ∀ i j, i < j → j < L.length → kat L i < kat L j := by
  have far : ∀ d i, i + d + 1 < L.length → kat L i < kat L (i + d + 1) := by
    intro d
    induction d with
    | zero => intro i hi; exact okR_ris h i hi
    | succ d ih => intro i hi; exact List.lt_trans (ih i (by omega)) (okR_ris h (i + d + 1) hi)
  intro i j hij hj
  have := far (j - i - 1) i (by omega)
  rwa [show i + (j - i - 1) + 1 = j by omega] at this
/-- A key begins with a Prefix. -/
def fit (p k : Bytes) : Bool := decide (k.take p.length = p)
theorem fit_len {p k : Bytes} (h : fit p k = true) : p.length ≤ k.length := by
  have := congrArg List.length (of_decide_eq_true h)
  rw [List.length_take] at this
  omega
theorem fit_no {p k : Bytes} (h : ¬ p.length ≤ k.length) : fit p k = false := by
  cases e : fit p k with
  | false => rfl
  | true => exact absurd (fit_len e) h
/-- Of the first so many: the place of the longest that fits, the first of its length. -/
def bestAt (L : List Rw) (k : Bytes) : Nat → Option Nat
  | 0 => none
  | n + 1 => match bestAt L k n with
    | none => if fit (kat L n) k then some n else none
    | some j => if fit (kat L n) k && decide ((kat L j).length < (kat L n).length) then some n else some j
theorem best_spec (L : List Rw) (k : Bytes) : ∀ n, match bestAt L k n with
    | none => ∀ i, i < n → fit (kat L i) k = false
    | some j => j < n ∧ fit (kat L j) k = true ∧ ∀ i, i < n → fit (kat L i) k = true → (kat L i).length ≤ (kat L j).length := by
  intro n
  induction n with
  | zero => intro i hi; omega
  | succ n ih =>
    unfold bestAt
    cases e : bestAt L k n with
    | none =>
      rw [e] at ih
      simp only at ih ⊢
      by_cases hf : fit (kat L n) k = true
      · rw [if_pos hf]
        refine ⟨by omega, hf, fun i hi hi' => ?_⟩
        rcases Nat.lt_succ_iff_lt_or_eq.1 hi with h | h
        · rw [ih i h] at hi'; cases hi'
        · rw [h]; omega
      · rw [if_neg hf]
        intro i hi
        rcases Nat.lt_succ_iff_lt_or_eq.1 hi with h | h
        · exact ih i h
        · rw [h]; simpa using hf
    | some j =>
      rw [e] at ih
      simp only at ih ⊢
      by_cases hf : (fit (kat L n) k && decide ((kat L j).length < (kat L n).length)) = true
      · rw [if_pos hf]
        rw [Bool.and_eq_true, decide_eq_true_eq] at hf
        refine ⟨by omega, hf.1, fun i hi hi' => ?_⟩
        rcases Nat.lt_succ_iff_lt_or_eq.1 hi with h | h
        · have := ih.2.2 i h hi'; omega
        · rw [h]; omega
      · rw [if_neg hf]
        refine ⟨by omega, ih.2.1, fun i hi hi' => ?_⟩
        rcases Nat.lt_succ_iff_lt_or_eq.1 hi with h | h
        · exact ih.2.2 i h hi'
        · rw [h] at hi' ⊢
          rw [Bool.and_eq_true, decide_eq_true_eq] at hf
          have : ¬ (kat L j).length < (kat L n).length := fun g => hf ⟨hi', g⟩
          omega
theorem best_none {L : List Rw} {k : Bytes} {n : Nat} (h : bestAt L k n = none) : ∀ i, i < n → fit (kat L i) k = false := by
  have := best_spec L k n
  rw [h] at this
  exact this
theorem best_some {L : List Rw} {k : Bytes} {n j : Nat} (h : bestAt L k n = some j) : j < n ∧ fit (kat L j) k = true ∧ ∀ i, i < n → fit (kat L i) k = true → (kat L i).length ≤ (kat L j).length := by
  have := best_spec L k n
  rw [h] at this
  exact this
theorem best_skip {L : List Rw} {k : Bytes} {n : Nat} (h : fit (kat L n) k = false) : bestAt L k (n + 1) = bestAt L k n := by
  rw [bestAt]
  cases e : bestAt L k n <;> simp [h]
theorem best_first {L : List Rw} {k : Bytes} {n : Nat} (h : fit (kat L n) k = true) (e : bestAt L k n = none) : bestAt L k (n + 1) = some n := by
  rw [bestAt, e]
  simp [h]
theorem best_more {L : List Rw} {k : Bytes} {n j : Nat} (h : fit (kat L n) k = true) (e : bestAt L k n = some j) (g : (kat L j).length < (kat L n).length) : bestAt L k (n + 1) = some n := by
  rw [bestAt, e]
  simp only [h, Bool.true_and]
  rw [decide_eq_true g, if_pos rfl]
theorem best_stay {L : List Rw} {k : Bytes} {n j : Nat} (e : bestAt L k n = some j) (g : ¬ (kat L j).length < (kat L n).length) : bestAt L k (n + 1) = some j := by
  rw [bestAt, e]
  simp only
  rw [decide_eq_false g, Bool.and_false]
  rfl
/-- The Rule that says, if there is one. -/
def forR (L : List Rw) (k : Bytes) : Option Rw := if okR L then (bestAt L k L.length).map (rat L) else none
theorem for_bad {L : List Rw} {k : Bytes} (h : okR L = false) : forR L k = none := by unfold forR; rw [h]; rfl
theorem for_ok {L : List Rw} {k : Bytes} (h : okR L = true) : forR L k = (bestAt L k L.length).map (rat L) := by unfold forR; rw [h]; rfl
/-- Two that fit and are equally long are one. -/
theorem fit_same {p q k : Bytes} (h : fit p k = true) (g : fit q k = true) (e : p.length = q.length) : p = q := by
  have a := of_decide_eq_true h
  have b := of_decide_eq_true g
  rw [← a, ← b, e]
theorem for_is {L : List Rw} {k : Bytes} (h : okR L = true) {i : Nat} (hi : i < L.length) (hf : fit (kat L i) k = true) (hm : ∀ j, j < L.length → fit (kat L j) k = true → (kat L j).length ≤ (kat L i).length) : forR L k = some (rat L i) := by
  rw [for_ok h]
  cases e : bestAt L k L.length with
  | none => rw [best_none e i hi] at hf; cases hf
  | some j =>
    obtain ⟨h1, h2, h3⟩ := best_some e
    have hl : (kat L j).length = (kat L i).length := Nat.le_antisymm (hm j h1 h2) (h3 i hi hf)
    have hk := fit_same h2 hf hl
    have : j = i := by
      rcases Nat.lt_trichotomy j i with g | g | g
      · have := okR_far h j i g hi; rw [hk] at this; exact absurd this (List.lt_irrefl _)
      · exact g
      · have := okR_far h i j g h1; rw [hk] at this; exact absurd this (List.lt_irrefl _)
    rw [this]
    rfl
theorem for_none {L : List Rw} {k : Bytes} (hm : ∀ j, j < L.length → fit (kat L j) k = false) : forR L k = none := by
  cases e : okR L with
  | false => exact for_bad e
  | true =>
    rw [for_ok e]
    cases e' : bestAt L k L.length with
    | none => rfl
    | some j => have := best_some e'; rw [hm j this.1] at this; cases this.2.1
def mayR (L : List Rw) (k : Bytes) (wr : Bool) : Bool := match forR L k with
  | none => false
  | some r => if wr then r.2.2 else r.2.1
theorem may_none {L : List Rw} {k : Bytes} {wr : Bool} (h : forR L k = none) : mayR L k wr = false := by unfold mayR; rw [h]
theorem may_some {L : List Rw} {k : Bytes} {wr : Bool} {r : Rw} (h : forR L k = some r) : mayR L k wr = if wr then r.2.2 else r.2.1 := by unfold mayR; rw [h]
end Go.Proofs.Ytbdibkcamomgpaa.Ru
