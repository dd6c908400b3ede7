/-
  ReadRules of the specification.
-/
import Derived.Test.YtdgnjhppggemhaaRuR
import Derived.Deep.RegionHeld3
namespace Go.Proofs.Ytdgnjhppggemhaa.Ru
open Go.ChangeShapes Go.WideShapes Go.ChangeAt Go.RowKit
open Go.Proofs.Ytdgnjhppggemhaa.Nm (sat sat_at B)
set_option linter.unusedVariables false
/-- A row of texts and a row of Rules lie apart. -/
theorem apart {w : World} {b b' : Nat} {u v : Value} {W : List ByteArray} {M : List Rw} (h : Nm.Own w b u W) (g : Own w b' v M) : ∀ k, u.ownBlock = some k → v.ownBlock ≠ some k := by
  intro k hk hv
  rcases h.2 with ⟨e, _⟩ | ⟨g1, c1, cur1, e1, _, hg1, _⟩
  · subst e; cases hk
  rcases g.2 with ⟨e, _⟩ | ⟨g2, c2, cur2, e2, _, hg2, _⟩
  · subst e; cases hv
  subst e1 e2
  have h1 : g1 = k := by simpa [Value.ownBlock] using hk
  have h2 : g2 = k := by simpa [Value.ownBlock] using hv
  subst h1 h2
  rw [hg1] at hg2
  simp at hg2
theorem words_grown {w w' : World} {b b' : Nat} {u v : Value} {W : List ByteArray} {M : List Rw} (h : Nm.Own w b u W) (g : Own w b' v M) (k : w.grownBy w' v.ownBlock) : Nm.Own w' b u W := by
  refine World.ownsRow.kept (row := v.ownBlock) h k ?_
  cases hu : u.ownBlock with
  | none => exact .inl rfl
  | some k => exact .inr (fun e => apart h g k hu e.symm)
theorem two_bytes {s : ByteArray} (h : s.size = 2) : ∃ c d, s = ⟨#[c, d]⟩ := by
  obtain ⟨a⟩ := s
  have h' : a.size = 2 := h
  exact ⟨a[0], a[1], by
    congr 1
    apply Array.ext
    · simp [h']
    · intro i h1 h2
      match i, h1 with
      | 0, _ => rfl
      | 1, _ => rfl
      | n + 2, h1 => omega⟩
theorem keep2 {wr w' : World} {o : Obj} {b p q : Nat} {u v : Value} {r : Option Nat} (h : wr.cell? ⟨b, p, none⟩ = some u ∧ wr.cell? ⟨b, q, none⟩ = some v) (g : (wr.alloc o).drew.grownBy w' r) (hr : some b ≠ r) : w'.cell? ⟨b, p, none⟩ = some u ∧ w'.cell? ⟨b, q, none⟩ = some v := by
  have k := ((Below.refl wr.heap.size wr).alloc (Nat.le_refl _) o).drew
  exact ⟨grown_cell1 g (by rw [k.cell (by simpa using cell_block h.1)]; exact h.1) hr, grown_cell1 g (by rw [k.cell (by simpa using cell_block h.1)]; exact h.2) hr⟩
theorem at0 (c d : UInt8) (h : 0 < (⟨#[c, d]⟩ : ByteArray).size) : (⟨#[c, d]⟩ : ByteArray)[0]'h = c := rfl
theorem at1 (c d : UInt8) (h : 1 < (⟨#[c, d]⟩ : ByteArray).size) : (⟨#[c, d]⟩ : ByteArray)[1]'h = d := rfl
attribute [local go_sem] at0 at1
theorem split_short : ∀ (l : Bytes) (p : Bytes), p ∈ Nm.Sp.split l → p.length ≤ l.length
  | [], p, h => by rw [Nm.Sp.split_nil] at h; simp at h; subst h; simp
  | c :: r, p, h => by
    by_cases hc : c = 32
    · subst hc
      rw [Nm.Sp.split_dot] at h
      rcases List.mem_cons.1 h with rfl | h
      · simp
      · have := split_short r p h; simp; omega
    · obtain ⟨q, ps, e, e'⟩ := Nm.Sp.split_other hc r
      rw [e'] at h
      rcases List.mem_cons.1 h with rfl | h
      · have := split_short r q (by rw [e]; simp)
        simpa using this
      · have := split_short r p (by rw [e]; simp [h])
        simp
        omega
theorem words_short (s : ByteArray) {i : Nat} (hi : i < (words s).length) : (sat (words s) i).size ≤ s.size := by
  rw [sat_at hi]
  have hl : i < (Nm.Sp.split (bs s)).length := by simpa using hi
  have := split_short (bs s) _ (List.getElem_mem hl)
  rw [bs_length] at this
  rw [List.getElem_map, Nm.B_size]
  exact this
end Go.Proofs.Ytdgnjhppggemhaa.Ru
