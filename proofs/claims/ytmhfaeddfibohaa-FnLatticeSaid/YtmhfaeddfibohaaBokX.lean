/-
  What the laws of chapter 11 ask of books, in plain words.
-/
import Derived.Test.YtmhfaeddfibohaaBokW
namespace Go.Proofs.Ytmhfaeddfibohaa.Bk
set_option linter.unusedVariables false
theorem look_one (e : En) (k : Bytes) : look [e] k = if e.key = k then some e else none := by rw [look_cons, look_nil]
theorem val_alive (A : List En) (k : Bytes) : (valB A k).2 = decide (k ∈ aliveB A) := by
  cases hok : okBk A with
  | false =>
    rw [val_no hok]
    unfold aliveB
    rw [if_neg (by rw [hok]; decide)]
    simp
  | true =>
    unfold aliveB
    rw [if_pos hok]
    cases hl : look A k with
    | none =>
      rw [val_none hok hl]
      refine (decide_eq_false (fun h => ?_)).symm
      obtain ⟨x, hx, e⟩ := List.mem_map.1 h
      exact look_none hl x (List.mem_filter.1 hx).1 e
    | some e =>
      obtain ⟨hm, hk⟩ := look_some hl
      cases hg : e.gone with
      | true =>
        rw [val_gone hok hl hg]
        refine (decide_eq_false (fun h => ?_)).symm
        obtain ⟨x, hx, ex⟩ := List.mem_map.1 h
        obtain ⟨h1, h2⟩ := List.mem_filter.1 hx
        have := look_mem (ok_ris hok) h1
        rw [ex, hl] at this
        rw [← Option.some.inj this, hg] at h2
        cases h2
      | false =>
        rw [val_some hok hl hg]
        refine (decide_eq_true (List.mem_map.2 ⟨e, List.mem_filter.2 ⟨hm, by simp [hg]⟩, hk⟩)).symm
/-- What is under a Key. -/
def valE (e : En) : Bytes × Bool := if e.gone = true then ([], false) else (e.value, true)
theorem val_look {A : List En} {k : Bytes} {e : En} (hok : okBk A = true) (hl : look A k = some e) : valB A k = valE e := by
  unfold valE
  cases hg : e.gone with
  | true => rw [val_gone hok hl hg, if_pos rfl]
  | false => rw [val_some hok hl hg, if_neg (by decide)]
theorem valE_ok {e : En} (h : okE e = true) : valE e = (e.value, !e.gone) := by
  unfold valE
  cases hg : e.gone with
  | false => rw [if_neg (by decide)]; rfl
  | true =>
    rw [if_pos rfl]
    unfold okE at h
    simp only [Bool.and_eq_true, hg, Bool.not_true, Bool.false_or, decide_eq_true_eq] at h
    rw [List.length_eq_zero_iff.1 h.1.1.1.1.2]
    rfl
structure Wrote (A : List En) (e : En) (J : List En) : Prop where
  others : ∀ b ∈ A, b.key ≠ e.key → valB J b.key = (b.value, !b.gone)
  stays : ∀ b ∈ A, b.key = e.key → newB e b = false → J = A
  goes : (∀ b ∈ A, b.key = e.key → newB e b = true) → valB J e.key = (e.value, !e.gone)
  named : ∀ b ∈ A, b.key ≠ []
  one : ∀ b ∈ A, ∀ c ∈ A, b.key = e.key → c.key = e.key → b = c
theorem wrote {A : List En} {e : En} (h : (joinB A [e]).2 = true) : Wrote A e (joinB A [e]).1 := by
  obtain ⟨oA, oE, oJ, j⟩ := join_ok h
  generalize (joinB A [e]).1 = J at oJ j
  have rA := ok_ris oA
  have hee : okE e = true := ok_all oE (by simp)
  refine ⟨fun b hb hk => ?_, fun b hb hk hn => ?_, fun hn => ?_, fun b hb => ?_, fun b hb c hc kb kc => ?_⟩
  · rw [← valE_ok (ok_all oA hb)]
    refine val_look oJ ?_
    rw [j.at', look_mem rA hb, look_one, if_neg (fun q => hk q.symm)]
    rfl
  · refine j.unique ⟨rA, fun k => ?_⟩
    rw [look_one]
    by_cases q : e.key = k
    · rw [if_pos q, ← q, ← hk, look_mem rA hb]
      show some b = some (if newB e b = true then e else b)
      rw [hn]
      simp
    · rw [if_neg q, pick_none_right]
  · rw [← valE_ok hee]
    refine val_look oJ ?_
    rw [j.at', look_one, if_pos rfl]
    cases hl : look A e.key with
    | none => rfl
    | some b =>
      obtain ⟨hm, hk⟩ := look_some hl
      show some (if newB e b = true then e else b) = some e
      rw [hn b hm hk]
      simp
  · intro q
    have := ok_all oA hb
    unfold okE at this
    simp [q] at this
  · have h1 := look_mem rA hb
    have h2 := look_mem rA hc
    rw [kb] at h1
    rw [kc, h1] at h2
    exact Option.some.inj h2
end Go.Proofs.Ytmhfaeddfibohaa.Bk
