/-
  strings.Split at the blank, as the program calls it.
-/
import Derived.Test.YtdgnjhppggemhaaSplS
import Derived.Lib.Bytealg
import Derived.Lib.Walk
import Derived.BigCall
import Derived.BigGuard
import Derived.Laws.Strings3
import Derived.Laws.OwnMore
namespace Go.Proofs.Ytdgnjhppggemhaa.Nm.Sp
open Go.ChangeShapes Go.WideShapes Go.ChangeAt Go.RowKit
set_option linter.unusedVariables false
abbrev blS : ByteArray := ⟨#[32]⟩
theorem ix_cut {p : Bytes} (h : ∀ c ∈ p, c ≠ 32) (r : Bytes) : Go.Lib.indexByte (p ++ 32 :: r) 32 = (p.length : Int) := by
  induction p with
  | nil => simp [Go.Lib.indexByte]
  | cons c q ih =>
    rw [List.cons_append]
    unfold Go.Lib.indexByte
    rw [ih (fun x hx => h x (by simp [hx]))]
    simp [h c (by simp)]
theorem split_len (l : Bytes) : (split l).length = l.count 32 + 1 := by
  induction l with
  | nil => rfl
  | cons c r ih =>
    by_cases hc : c = 32
    · subst hc; rw [split_dot]; simp [ih]
    · obtain ⟨q, ps, e, e'⟩ := split_other hc r
      rw [e'] ; rw [e] at ih
      rw [List.count_cons_of_ne hc]
      simpa using ih
/-- Where there are two pieces there is a first blank. -/
theorem first_blank : ∀ l : Bytes, 2 ≤ (split l).length → ∃ p r, l = p ++ 32 :: r ∧ ∀ c ∈ p, c ≠ 32
  | [], h => by rw [split_nil] at h; simp at h
  | c :: r, h => by
    by_cases hc : c = 32
    · subst hc; exact ⟨[], r, rfl, fun c hc => by cases hc⟩
    · obtain ⟨q, ps, e, e'⟩ := split_other hc r
      rw [e'] at h
      obtain ⟨p, r', e1, e2⟩ := first_blank r (by rw [e]; simpa using h)
      refine ⟨c :: p, r', by rw [e1]; rfl, fun x hx => ?_⟩
      rcases List.mem_cons.1 hx with rfl | hx
      · exact hc
      · exact e2 x hx
theorem split_single (l : Bytes) (h : (split l).length = 1) : split l = [l] := by
  refine split_whole (fun c hc e => ?_)
  subst e
  have := List.count_pos_iff.2 hc
  rw [split_len] at h
  omega
end Go.Proofs.Ytdgnjhppggemhaa.Nm.Sp
