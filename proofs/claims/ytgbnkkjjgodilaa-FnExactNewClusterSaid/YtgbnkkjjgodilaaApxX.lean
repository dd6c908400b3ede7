/-
  hasLabels of the program. (Written by wip/mkNod.py.)
-/
import Derived.Test.YtgbnkkjjgodilaaApxM
import Derived.Test.YtgbnkkjjgodilaaNameL
namespace Go.Proofs.Ytgbnkkjjgodilaa.Nd
open Go.ChangeShapes Go.WideShapes Go.ChangeAt Go.RowKit
set_option linter.unusedVariables false
set_option maxRecDepth 100000 in
set_option maxHeartbeats 4000000 in
theorem impl_hasLabels (s : ByteArray) (w : World) : Calls Try.prog 22 #[.string s] w fun en w' => en = .returned (.bool (apexB s)) ∧ Below w.heap.size w w' := by
  have C : Hid (∀ W, Calls Try.prog 37 #[.string s] W fun e w' => e = .returned (.bool (Nm.okB s.data.toList)) ∧ Below W.heap.size W w') := hidA (fun W => Nm.impl_NameOk s W)
  have HOK : Hid (apexB s = (Nm.okB s.data.toList && decide (s.size ≠ 0))) := hidA rfl
  have he := txt_empty s
  generalize Nm.okB s.data.toList = k1 at C HOK
  by_cases h0 : s.size = 0
  · rw [decide_eq_true h0] at he
    rw [HOK.out, decide_eq_false (p := s.size ≠ 0) (by omega), Bool.and_false]
    clear h0 HOK
    go_enter Try.func22, Try.ntmps22
    go_wp2_with (fail)
    go_ret
    exact ⟨rfl, Below.refl _ _⟩
  · rw [decide_eq_false h0] at he
    rw [HOK.out, decide_eq_true (p := s.size ≠ 0) h0, Bool.and_true]
    clear h0 HOK
    go_enter Try.func22, Try.ntmps22
    go_wp2_with (fail)
    refine (C.out _).mono ?_
    rintro en w1 ⟨rfl, kk⟩
    have HB := hidA kk
    clear kk
    go_wp2_with (fail)
    go_ret
    exact ⟨rfl, HB.out⟩
end Go.Proofs.Ytgbnkkjjgodilaa.Nd
