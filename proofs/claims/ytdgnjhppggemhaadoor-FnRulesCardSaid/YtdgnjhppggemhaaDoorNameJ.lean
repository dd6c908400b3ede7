/-
  HasSuffix of package strings; is a byte one of a label, is a text a label: of the program and of the specification.
-/
import Derived.Test.YtdgnjhppggemhaaDoorNameI
namespace Go.Proofs.YtdgnjhppggemhaaDoor.Nm
open Go.ChangeShapes Go.WideShapes Go.ChangeAt Go.RowKit
theorem hidIt {p : Prop} (h : p) : Hid p := h
theorem toList_beq (a b : ByteArray) : (a.toList == b.toList) = decide (bs a = bs b) := by
  rw [Go.Lib.toList_data, Go.Lib.toList_data]
  by_cases h : bs a = bs b
  · rw [decide_eq_true h]; exact beq_iff_eq.2 h
  · rw [decide_eq_false h]; exact beq_eq_false_iff_ne.2 h
theorem suffix_drop {a b : Bytes} : (a.drop (a.length - b.length) = b) ↔ b <:+ a := by
  rw [List.suffix_iff_eq_drop]
  exact ⟨fun e => e.symm, fun e => e.symm⟩
set_option maxHeartbeats 1000000 in
set_option maxRecDepth 100000 in
theorem lib_HasSuffix (a b : ByteArray) (w : World) (ha : a.size ≤ 1000000) (hb : b.size ≤ 1000000) :
    Calls Tryd.prog 33 #[.string a, .string b] w fun e w' => e = .returned (.bool (decide (bs b <:+ bs a))) ∧ w' = w := by
  have H : Calls Tryd.prog 39 #[.string a, .string b] w fun e w' => e = .returned (.bool (decide (bs b <:+ bs a))) ∧ w' = w := by
    by_cases hl : b.size ≤ a.size
    · have h1 : (b.size : Int) ≤ (a.size : Int) := by omega
      have hd : decide (bs b <:+ bs a) = ((a.extract (a.size - b.size) a.size).toList == b.toList) := by
        rw [toList_beq, bs_tail]
        have := suffix_drop (a := bs a) (b := bs b)
        rw [bs_length, bs_length] at this
        exact decide_eq_decide.2 this.symm
      rw [hd]
      go_enter Tryd.func39, Tryd.ntmps39
      go_wp2
      go_ret
      exact ⟨rfl, rfl⟩
    · have h1 : ¬ (b.size : Int) ≤ (a.size : Int) := by omega
      rw [decide_eq_false (fun k => by have := k.length_le; rw [bs_length, bs_length] at this; omega)]
      go_enter Tryd.func39, Tryd.ntmps39
      go_wp2
      go_ret
      exact ⟨rfl, rfl⟩
  go_enter Tryd.func33, Tryd.ntmps33
  go_wp2_with (go_at_call 39; refine H.mono ?_; rintro e w' ⟨rfl, rfl⟩)
  go_ret
  exact ⟨rfl, rfl⟩
theorem byteOk_true {n : Nat} {b : UInt8} (e : b.toNat = n) : byteOk b = (decide (97 ≤ n) && decide (n ≤ 122) || decide (48 ≤ n) && decide (n ≤ 57) || decide (n = 45)) := by
  unfold byteOk; rw [e]
end Go.Proofs.YtdgnjhppggemhaaDoor.Nm
