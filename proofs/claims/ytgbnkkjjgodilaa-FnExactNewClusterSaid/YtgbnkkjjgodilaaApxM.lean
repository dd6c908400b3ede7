/-
  An apex: a name that is not the root. (Written by wip/mkNod.py.)
-/
import Derived.Test.YtgbnkkjjgodilaaNameT
namespace Go.Proofs.Ytgbnkkjjgodilaa.Nd
open Go.ChangeShapes Go.WideShapes Go.ChangeAt Go.RowKit
set_option linter.unusedVariables false
theorem hidA {p : Prop} (h : p) : Hid p := h
def apexB (s : ByteArray) : Bool := Nm.okB s.data.toList && decide (s.size ≠ 0)
theorem txt_empty (s : ByteArray) : (s.toList == []) = decide (s.size = 0) := by
  rw [Go.Lib.toList_data]
  have e : s.data.toList.length = s.size := by cases s; simp [ByteArray.size]
  cases hl : s.data.toList with
  | nil => rw [hl] at e; rw [decide_eq_true (by simpa using e.symm)]; rfl
  | cons a b => rw [hl] at e; rw [decide_eq_false (by simp at e; omega)]; rfl
set_option maxRecDepth 100000 in
set_option maxHeartbeats 4000000 in
theorem spec_l17Apex (s : ByteArray) (w : World) : Calls Try.prog 9 #[.string s] w fun en w' => en = .returned (.bool (apexB s)) ∧ Below w.heap.size w w' := by
  have C : Hid (∀ W, Calls Try.prog 19 #[.string s] W fun e w' => e = .returned (.bool (Nm.okB s.data.toList)) ∧ Below W.heap.size W w') := hidA (fun W => Nm.spec_NameOk s W)
  have HOK : Hid (apexB s = (Nm.okB s.data.toList && decide (s.size ≠ 0))) := hidA rfl
  have he := txt_empty s
  generalize Nm.okB s.data.toList = k1 at C HOK
  cases k1 with
  | false =>
    rw [HOK.out, Bool.false_and]
    go_enter Try.func9, Try.ntmps9
    go_wp2_with (fail)
    refine (C.out _).mono ?_
    rintro en w1 ⟨rfl, kk⟩
    have HB := hidA kk
    clear kk
    go_wp2_with (fail)
    go_ret
    exact ⟨rfl, HB.out⟩
  | true =>
    rw [HOK.out, Bool.true_and]
    by_cases h0 : s.size = 0
    · rw [decide_eq_true h0] at he
      rw [decide_eq_false (p := s.size ≠ 0) (by omega)]
      clear h0 HOK
      go_enter Try.func9, Try.ntmps9
      go_wp2_with (fail)
      refine (C.out _).mono ?_
      rintro en w1 ⟨rfl, kk⟩
      have HB := hidA kk
      clear kk
      go_wp2_with (fail)
      go_ret
      exact ⟨rfl, HB.out⟩
    · rw [decide_eq_false h0] at he
      rw [decide_eq_true (p := s.size ≠ 0) h0]
      clear h0 HOK
      go_enter Try.func9, Try.ntmps9
      go_wp2_with (fail)
      refine (C.out _).mono ?_
      rintro en w1 ⟨rfl, kk⟩
      have HB := hidA kk
      clear kk
      go_wp2_with (fail)
      go_ret
      exact ⟨rfl, HB.out⟩
end Go.Proofs.Ytgbnkkjjgodilaa.Nd
