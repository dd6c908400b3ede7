/-
  The specification's pieces between the blanks. (Written by wip/mkSpl.py.)
-/
import Derived.Test.YtdgnjhppggemhaaNameR
import Derived.Test.YtdgnjhppggemhaaProg
import Derived.Test.YtdgnjhppggemhaaQuiet
import Derived.Handy
namespace Go.Proofs.Ytdgnjhppggemhaa.Nm.Sp
open Go.ChangeShapes Go.WideShapes Go.ChangeAt Go.RowKit
set_option linter.unusedVariables false
theorem hidIt {p : Prop} (h : p) : Hid p := h
/-- The pieces between the blanks of any bytes, empty ones among them. -/
def split : Bytes → List Bytes
  | [] => [[]]
  | c :: r => if c = 32 then [] :: split r else match split r with
    | [] => [[c]]
    | p :: ps => (c :: p) :: ps
theorem split_nil : split [] = [[]] := rfl
theorem split_dot (r : Bytes) : split (32 :: r) = [] :: split r := by simp [split]
theorem split_ne (l : Bytes) : split l ≠ [] := by
  cases l with
  | nil => simp [split]
  | cons c r =>
    unfold split
    split
    · simp
    · split <;> simp
theorem split_other {c : UInt8} (hc : c ≠ 32) (r : Bytes) : ∃ p ps, split r = p :: ps ∧ split (c :: r) = (c :: p) :: ps := by
  cases h : split r with
  | nil => exact absurd h (split_ne r)
  | cons p ps => exact ⟨p, ps, rfl, by simp [split, hc, h]⟩
theorem split_whole {l : Bytes} (h : ∀ c ∈ l, c ≠ 32) : split l = [l] := by
  induction l with
  | nil => rfl
  | cons c r ih =>
    obtain ⟨p, ps, e, e'⟩ := split_other (h c (by simp)) r
    rw [ih (fun x hx => h x (by simp [hx]))] at e
    cases e
    exact e'
theorem split_cut {p : Bytes} (h : ∀ c ∈ p, c ≠ 32) (r : Bytes) : split (p ++ 32 :: r) = p :: split r := by
  induction p with
  | nil => exact split_dot r
  | cons c q ih =>
    have e0 := ih (fun x hx => h x (by simp [hx]))
    obtain ⟨p', ps, e, e'⟩ := split_other (h c (by simp)) (q ++ 32 :: r)
    rw [e0] at e
    cases e
    exact e'
theorem split_join (p r : Bytes) : split (p ++ 32 :: r) = split p ++ split r := by
  induction p with
  | nil => rw [List.nil_append, split_dot, split_nil]; rfl
  | cons c q ih =>
    by_cases hc : c = 32
    · subst hc
      rw [List.cons_append, split_dot, split_dot, ih, List.cons_append]
    · obtain ⟨p1, ps1, e1, e1'⟩ := split_other hc (q ++ 32 :: r)
      obtain ⟨p2, ps2, e2, e2'⟩ := split_other hc q
      rw [ih, e2, List.cons_append] at e1
      cases e1
      rw [List.cons_append, e1', e2', List.cons_append]
theorem split_count (l : Bytes) : (split l).length ≤ l.length + 1 := by
  induction l with
  | nil => rw [split_nil]; simp
  | cons c r ih =>
    by_cases hc : c = 32
    · subst hc; rw [split_dot]; simp; omega
    · obtain ⟨q, ps, e, e'⟩ := split_other hc r
      rw [e'] ; rw [e] at ih; simp at ih ⊢; omega
theorem cut_at {l : Bytes} {i : Nat} (hi : i < l.length) (hd : l[i] = 32) (hn : ∀ j, (hj : j < l.length) → j < i → l[j] ≠ 32) :
    l = l.take i ++ 32 :: l.drop (i + 1) ∧ ∀ c ∈ l.take i, c ≠ 32 := by
  refine ⟨?_, fun c hc => ?_⟩
  · have := List.take_append_drop i l
    rw [List.drop_eq_getElem_cons hi, hd] at this
    exact this.symm
  · obtain ⟨j, hj, rfl⟩ := List.mem_iff_getElem.1 hc
    rw [List.length_take] at hj
    rw [List.getElem_take]
    exact hn j (by omega) (by omega)
theorem whole_of {l : Bytes} (hn : ∀ j, (hj : j < l.length) → l[j] ≠ 32) : ∀ c ∈ l, c ≠ 32 := by
  intro c hc
  obtain ⟨j, hj, rfl⟩ := List.mem_iff_getElem.1 hc
  exact hn j hj
end Go.Proofs.Ytdgnjhppggemhaa.Nm.Sp
