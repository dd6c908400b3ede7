/-
  Promise 10 in plain words: of Rolls taken at rising times, each behind the Step of its time, the secret that signs at one is among those of each other whose time is no further than MaxTtl away.
-/
import Derived.Test.YtlmpalkjagekjaaSerM
import Derived.Test.YtlmpalkjagekjaaRollJ
namespace Go.Proofs.Ytlmpalkjagekjaa.Ro
set_option linter.unusedVariables false
def okT (r : R5) : Bool := rollOk r.1 r.2.1 r.2.2.1 r.2.2.2.1 r.2.2.2.2
def sgT (r : R5) : Int := signR r.1 r.2.1 r.2.2.1 r.2.2.2.1 r.2.2.2.2
def scT (r : R5) : List Int := secR r.1 r.2.1 r.2.2.1 r.2.2.2.1 r.2.2.2.2
def stT (r : R5) (now fr : Int) : R5 := (stepR r.1 r.2.1 r.2.2.1 r.2.2.2.1 r.2.2.2.2 now fr).1
abbrev atT (r : R5) : Int := r.2.2.2.2
theorem rollOk_mk {p m o n a : Int} (hm : secB m = true) (ho : secB o = true) (ha : timB a = true) (h : p = 1 ∧ n = 0 ∨ (p = 2 ∨ p = 3) ∧ secB n = true) : rollOk p m o n a = true := by
  unfold rollOk rollB
  rw [hm, ho, ha]
  rcases h with ⟨rfl, rfl⟩ | ⟨rfl | rfl, hn⟩
  · simp
  · simp [inB, hn]
  · simp [inB, hn]
/-- A Roll that is right: its three shapes. -/
theorem ok_shape {r : R5} (h : okT r = true) : secB r.2.1 = true ∧ secB r.2.2.1 = true ∧ timB r.2.2.2.2 = true ∧ (r.1 = 1 ∧ r.2.2.2.1 = 0 ∨ (r.1 = 2 ∨ r.1 = 3) ∧ secB r.2.2.2.1 = true) := by
  obtain ⟨p, m, o, n, a⟩ := r
  unfold okT at h
  have hp := roll_phase h
  obtain ⟨hm, ho, h1, h2⟩ := roll_secs h
  refine ⟨hm, ho, ?_, ?_⟩
  · unfold rollOk rollB at h
    simp only [Bool.and_eq_true] at h
    exact h.2.2.1
  · rcases hp with e | e | e
    · exact .inl ⟨e, h1 e⟩
    · exact .inr ⟨.inl e, h2 (by simp only at e; omega)⟩
    · exact .inr ⟨.inr e, h2 (by simp only at e; omega)⟩
theorem sg_in {r : R5} (h : okT r = true) : sgT r ∈ scT r := by
  obtain ⟨p, m, o, n, a⟩ := r
  have h' : rollOk p m o n a = true := h
  unfold sgT scT signR secR
  simp only [h']
  rcases (ok_shape h).2.2.2 with ⟨e, _⟩ | ⟨e | e, _⟩
  · simp only at e; subst e; simp
  · simp only at e; subst e; simp
  · simp only at e; subst e; simp
/-- A Step leaves the Roll as it is, or makes the next one, no earlier than MaxTtl behind its time, at that time; and then each has the other's secret. -/
theorem step_two {r : R5} (now fr : Int) (h : okT r = true) : stT r now fr = r ∨ (okT (stT r now fr) = true ∧ atT r + 100 ≤ now ∧ atT (stT r now fr) = now ∧ sgT r ∈ scT (stT r now fr) ∧ sgT (stT r now fr) ∈ scT r) := by
  obtain ⟨p, m, o, n, a⟩ := r
  obtain ⟨hm, ho, ha, hs⟩ := ok_shape h
  simp only at hm ho ha hs
  have h' : rollOk p m o n a = true := h
  by_cases hd : timB now = false ∨ now < a + 100
  · exact .inl (by simp [stT, stepR, h', hd])
  · have ht : timB now = true := by cases e : timB now with
      | false => exact absurd (.inl e) hd
      | true => rfl
    have hl : a + 100 ≤ now := by
      by_cases e : now < a + 100
      · exact absurd (.inr e) hd
      · omega
    rcases hs with ⟨rfl, rfl⟩ | ⟨rfl | rfl, hn⟩
    · by_cases hf : secB fr = false ∨ fr = o ∨ fr = m
      · exact .inl (by simp [stT, stepR, h', hd, hf])
      · have hfr : secB fr = true := by cases e : secB fr with
          | false => exact absurd (.inl e) hf
          | true => rfl
        have e : stT (1, m, o, 0, a) now fr = (2, m, o, fr, now) := by simp [stT, stepR, h', hd, hf]
        have k : rollOk 2 m o fr now = true := rollOk_mk hm ho ht (.inr ⟨.inl rfl, hfr⟩)
        rw [e]
        refine .inr ⟨k, hl, rfl, ?_, ?_⟩
        · simp [sgT, scT, signR, secR, h', k]
        · simp [sgT, scT, signR, secR, h', k]
    · have e : stT (2, m, o, n, a) now fr = (3, m, o, n, now) := by simp [stT, stepR, h', hd]
      have k : rollOk 3 m o n now = true := rollOk_mk hm ho ht (.inr ⟨.inr rfl, hn⟩)
      rw [e]
      refine .inr ⟨k, hl, rfl, ?_, ?_⟩
      · simp [sgT, scT, signR, secR, h', k]
      · simp [sgT, scT, signR, secR, h', k]
    · have e : stT (3, m, o, n, a) now fr = (1, m, n, 0, now) := by simp [stT, stepR, h', hd]
      have k : rollOk 1 m n 0 now = true := rollOk_mk hm hn ht (.inl ⟨rfl, rfl⟩)
      rw [e]
      refine .inr ⟨k, hl, rfl, ?_, ?_⟩
      · simp [sgT, scT, signR, secR, h', k]
      · simp [sgT, scT, signR, secR, h', k]
abbrev TR := Int × R5
/-- What is known of the Rolls that were taken (time and Roll), of the last one r and of the time now. -/
structure Inv (L : List TR) (r : R5) (now : Int) : Prop where
  okr : okT r = true
  ok : ∀ x ∈ L, okT x.2 = true
  le : ∀ x ∈ L, x.1 ≤ now
  far : ∀ x ∈ L, x.2 = r ∨ x.1 < atT r
  near : ∀ x ∈ L, now - x.1 ≤ 100 → sgT x.2 ∈ scT r ∧ sgT r ∈ scT x.2
  pair : ∀ x ∈ L, ∀ y ∈ L, x.1 - y.1 ≤ 100 → -100 ≤ x.1 - y.1 → sgT x.2 ∈ scT y.2
theorem Inv.start {r : R5} {now : Int} (h : okT r = true) : Inv [] r now := by
  have no : ∀ (p : TR → Prop), ∀ x ∈ ([] : List TR), p x := fun p x hx => by cases hx
  exact ⟨h, no _, no _, no _, no _, no _⟩
theorem Inv.step {L : List TR} {r : R5} {now now' fr : Int} (h : Inv L r now) (hn : now < now') : Inv (L ++ [(now', stT r now' fr)]) (stT r now' fr) now' := by
  have two := step_two now' fr h.okr
  generalize stT r now' fr = r' at two ⊢
  have ok' : okT r' = true := by
    rcases two with e | e
    · rw [e]; exact h.okr
    · exact e.1
  have near' : ∀ x ∈ L, now' - x.1 ≤ 100 → sgT x.2 ∈ scT r' ∧ sgT r' ∈ scT x.2 := by
    intro x hx hd
    rcases two with e | ⟨_, h1, _, h2, h3⟩
    · rw [e]; exact h.near x hx (by omega)
    · rcases h.far x hx with e | e
      · rw [e]; exact ⟨h2, h3⟩
      · omega
  refine ⟨ok', ?_, ?_, ?_, ?_, ?_⟩
  · intro x hx
    rcases List.mem_append.1 hx with hx | hx
    · exact h.ok x hx
    · simp only [List.mem_singleton] at hx; subst hx; exact ok'
  · intro x hx
    rcases List.mem_append.1 hx with hx | hx
    · have := h.le x hx; omega
    · simp only [List.mem_singleton] at hx; subst hx; exact Int.le_refl _
  · intro x hx
    rcases List.mem_append.1 hx with hx | hx
    · rcases two with e | ⟨_, h1, h4, _⟩
      · rw [e]; exact h.far x hx
      · rw [h4]; have := h.le x hx; exact .inr (by omega)
    · simp only [List.mem_singleton] at hx; subst hx; exact .inl rfl
  · intro x hx hd
    rcases List.mem_append.1 hx with hx | hx
    · exact near' x hx hd
    · simp only [List.mem_singleton] at hx; subst hx; exact ⟨sg_in ok', sg_in ok'⟩
  · intro x hx y hy h1 h2
    rcases List.mem_append.1 hx with hx | hx
    · rcases List.mem_append.1 hy with hy | hy
      · exact h.pair x hx y hy h1 h2
      · simp only [List.mem_singleton] at hy; subst hy; exact (near' x hx (by simp only at h2; omega)).1
    · simp only [List.mem_singleton] at hx; subst hx
      rcases List.mem_append.1 hy with hy | hy
      · exact (near' y hy (by simp only at h1; omega)).2
      · simp only [List.mem_singleton] at hy; subst hy; exact sg_in ok'
end Go.Proofs.Ytlmpalkjagekjaa.Ro
