/-
  Noted of the program and of the specification, whatever the list and the text.
-/
import Derived.Test.YtgbnkkjjgodilaaLogN
namespace Go.Proofs.Ytgbnkkjjgodilaa.Lg
open Go.ChangeShapes Go.WideShapes Go.ChangeAt Go.RowKit
open Sg
set_option linter.unusedVariables false
/-- What is noted: the list with one Line more; as it is; nothing. -/
def ntL (L : List Ln) (t : ByteArray) : List Ln := if okL L = true then (if 100 < t.size ∨ L.length = 300 then L else L ++ [(t, (sumN (prev L L.length) t : Int))]) else []
def ntB (L : List Ln) (t : ByteArray) : Bool := okL L && !decide (100 < t.size ∨ L.length = 300)
theorem nt_no {L : List Ln} {t : ByteArray} (h : okL L = false) : ntL L t = [] ∧ ntB L t = false := by
  unfold ntL ntB
  rw [h]
  exact ⟨if_neg (by simp), rfl⟩
theorem nt_as {L : List Ln} {t : ByteArray} (h : okL L = true) (hb : 100 < t.size ∨ L.length = 300) : ntL L t = L ∧ ntB L t = false := by
  unfold ntL ntB
  rw [h, if_pos rfl, if_pos hb, decide_eq_true hb]
  exact ⟨rfl, rfl⟩
theorem nt_on {L : List Ln} {t : ByteArray} (h : okL L = true) (hb : ¬ (100 < t.size ∨ L.length = 300)) : ntL L t = L ++ [(t, (sumN (prev L L.length) t : Int))] ∧ ntB L t = true := by
  unfold ntL ntB
  rw [h, if_pos rfl, if_neg hb, decide_eq_false hb]
  exact ⟨rfl, rfl⟩
theorem Own.nil (w : World) (base : Nat) : Own w base (.slice none 0 0) [] := World.ownsRow_nil w base _ _
theorem ntL_len {L : List Ln} {t : ByteArray} : (ntL L t).length ≤ 300 := by
  cases h : okL L with
  | false => rw [(nt_no h).1]; simp
  | true =>
    have := (of_okL h).1
    by_cases hb : 100 < t.size ∨ L.length = 300
    · rw [(nt_as h hb).1]; exact this
    · rw [(nt_on h hb).1, List.length_append]; simp; omega
theorem held2_grown {W w' : World} {o : Obj} {b : Nat} {a0 a1 : Value} (g : ((W.alloc o).drew).grownBy w' none) (h : W.cell? ⟨b, 0, none⟩ = some a0 ∧ W.cell? ⟨b, 1, none⟩ = some a1) (l0 : b < W.heap.size) : w'.cell? ⟨b, 0, none⟩ = some a0 ∧ w'.cell? ⟨b, 1, none⟩ = some a1 := by
  have k : Below W.heap.size W (W.alloc o).drew := ((Below.refl _ W).alloc (Nat.le_refl _) o).drew
  exact held2 (k.grown g (by simp) (fun k hk => by cases hk)) h l0
/-- What is noted on a list whose last Sum is pv. -/
def noteL (L : List Ln) (pv : Nat) (t : ByteArray) : List Ln := if 100 < t.size ∨ L.length = 300 then L else L ++ [(t, (sumN pv t : Int))]
def noteB (L : List Ln) (t : ByteArray) : Bool := !decide (100 < t.size ∨ L.length = 300)
theorem note_as {L : List Ln} {pv : Nat} {t : ByteArray} (hb : 100 < t.size ∨ L.length = 300) : noteL L pv t = L ∧ noteB L t = false := by
  unfold noteL noteB
  rw [if_pos hb, decide_eq_true hb]
  exact ⟨rfl, rfl⟩
theorem note_on {L : List Ln} {pv : Nat} {t : ByteArray} (hb : ¬ (100 < t.size ∨ L.length = 300)) : noteL L pv t = L ++ [(t, (sumN pv t : Int))] ∧ noteB L t = true := by
  unfold noteL noteB
  rw [if_neg hb, decide_eq_false hb]
  exact ⟨rfl, rfl⟩
theorem note_nt {L : List Ln} {t : ByteArray} (h : okL L = true) : noteL L (prev L L.length) t = ntL L t ∧ noteB L t = ntB L t := by
  unfold noteL noteB ntL ntB
  rw [h, if_pos rfl]
  exact ⟨rfl, rfl⟩
end Go.Proofs.Ytgbnkkjjgodilaa.Lg
