/-
  The program's ReadRules: its words, one Rule out of two words.
-/
import Derived.Test.YtdgnjhppggemhaaRuK
import Derived.Test.YtdgnjhppggemhaaRuV
import Derived.Test.YtdgnjhppggemhaaRuM
import Derived.Deep.RegionHeld3
namespace Go.Proofs.Ytdgnjhppggemhaa.Ru
open Go.ChangeShapes Go.WideShapes Go.ChangeAt Go.RowKit
open Go.Proofs.Ytdgnjhppggemhaa.Nm (sat sat_at scells B)
set_option linter.unusedVariables false
/-- A text ends with another one. -/
def ends (p k : Bytes) : Bool := decide (p <:+ k)
theorem ends_drop {a b : Bytes} : (a.drop (a.length - b.length) = b) ↔ b <:+ a := by
  rw [List.suffix_iff_eq_drop]
  exact ⟨fun e => e.symm, fun e => e.symm⟩
/-- An append onto a row of one's own, as one step of a region that draws its order. -/
theorem step_append_far {ops : Array Oper} {o : Oper} {a : Act} {w : World} {K : Act → World → Prop} {Q : Exit → Act → World → Prop} {E : Prop}
    (hg : o.guard = none) (s x : Operand) (hop : o.op = Op.call { callee := Callee.builtin Builtin.append, args := #[s, x], argTypes := #[24, 24] })
    (base : Nat) (v : Value) (M N : List Rw) (hs : a.eval s = v) (hown : Own w base v M) (ad : Addr) (m c : Nat) (hm : N.length = m) (hx : a.eval x = .slice (some ad) m c) (hc : ∀ j u, (rcells N)[j]? = some u → w.cell? (ad.add j) = some u)
    (hl : M.length + m ≤ 2000000) (hb : base ≤ w.heap.size)
    (hK : ∀ v' w', Own w' base v' (M ++ N) → w.grownBy w' v.ownBlock → K (a.put o.dst v') w') :
    if Region.wanted o (yielded ops a.tmps) = true then Oper.wp Try.prog o a w K Q else E := by
  have hw : Region.wanted o (yielded ops a.tmps) = true := by simp [Region.wanted, hg]
  obtain ⟨i0, hi0, hz0, hz1, hz2⟩ := info_parts infoRw
  rw [if_pos hw]
  obtain ⟨v', w', hrun, r1, r2, r3⟩ := run_append_own (P := Try.prog) w base 24 o.type 28 i0 (.agg #[.string ByteArray.empty, .bool false, .bool false]) 3 24 Try.underlying24 hi0 hz0 hz1 hz2 rfl (by decide) v M.length (rcells M) hown ad m c (rcells N) (by rw [rcells_length, hm]) hc (rcells_one _) (by unfold maxLen; omega) (by omega) hb
  unfold Oper.wp
  simp [execOp, hop, resolve, invoke, builtin, hs, hx, hrun, Result.andThen]
  exact hK v' w' (Own.more (by rw [hm]; exact r1)) r2
/-- One Rule out of two words, as the program takes it. -/
def prI (a b : ByteArray) : Rw := (b, fit [114] (bs a), ends [119] (bs a))
theorem prI_flb (x : Rw) : prI (B (flb x)) x.1 = x := by
  obtain ⟨a, b, c⟩ := x
  cases b <;> cases c <;> rfl
def prsI (W : List ByteArray) : List Rw := (List.range (W.length / 2)).map (fun i => prI (sat W (2 * i)) (sat W (2 * i + 1)))
theorem prsI_length (W : List ByteArray) : (prsI W).length = W.length / 2 := by simp [prsI]
theorem prsI_at (W : List ByteArray) {i : Nat} (hi : i < W.length / 2) : rat (prsI W) i = prI (sat W (2 * i)) (sat W (2 * i + 1)) := rat_map _ _ i hi
theorem prsI_shown {M : List Rw} (h : okR M = true) (hp : 0 < M.length) : prsI (words (shw M M.length)) = M := by
  obtain ⟨hl, ha⟩ := words_shown (fun i hi => okR_at h hi) hp
  refine ext_rat (by rw [prsI_length, hl]; omega) (fun i hi => ?_)
  rw [prsI_length, hl] at hi
  rw [prsI_at _ (by rw [hl]; exact hi), (ha i (by omega)).1, (ha i (by omega)).2, prI_flb]
theorem shown_some {s : ByteArray} {M : List Rw} (hs : s ≠ ⟨#[]⟩) (h : readR s = some M) : okR M = true ∧ shw M M.length = s ∧ 0 < M.length := by
  obtain ⟨h1, h2⟩ := (read_iff s M).1 h
  refine ⟨h1, h2, ?_⟩
  rcases Nat.eq_zero_or_pos M.length with h0 | h0
  · have : M = [] := List.eq_nil_of_length_eq_zero h0
    subst this
    exact absurd h2.symm hs
  · exact h0
theorem read_odd {s : ByteArray} (hs : s ≠ ⟨#[]⟩) (h : (words s).length % 2 ≠ 0) : readR s = none := by
  cases e : readR s with
  | none => rfl
  | some M =>
    obtain ⟨h1, h2, h3⟩ := shown_some hs e
    obtain ⟨hl, _⟩ := words_shown (fun i hi => okR_at h1 hi) h3
    rw [h2] at hl
    omega
theorem read_same {s : ByteArray} (hs : s ≠ ⟨#[]⟩) (h : showR (prsI (words s)) = s) : readR s = some (prsI (words s)) := by
  unfold showR at h
  cases e : okR (prsI (words s)) with
  | false => rw [e] at h; exact absurd h.symm hs
  | true =>
    rw [e, if_pos rfl] at h
    exact read_yes e h
theorem read_unlike {s : ByteArray} (hs : s ≠ ⟨#[]⟩) (h : showR (prsI (words s)) ≠ s) : readR s = none := by
  cases e : readR s with
  | none => rfl
  | some M =>
    obtain ⟨h1, h2, h3⟩ := shown_some hs e
    have := prsI_shown h1 h3
    rw [h2] at this
    rw [this] at h
    unfold showR at h
    rw [h1, if_pos rfl] at h
    exact absurd h2 h
end Go.Proofs.Ytdgnjhppggemhaa.Ru
