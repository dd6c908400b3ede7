/-
  Labels, Parent, Under and Star of the program.
-/
import Derived.Test.YtkclfnmhiojklaaNameU
import Derived.Maps.AppendAt
namespace Go.Proofs.Ytkclfnmhiojklaa.Nm
open Go.ChangeShapes Go.WideShapes Go.ChangeAt Go.RowKit Go.Shelf
attribute [local go_sem] Oper.semAt_some
theorem dot_bytes (s : ByteArray) : dotS ++ s = B (46 :: bs s) := bs_inj (by simp)
set_option maxRecDepth 100000 in
set_option maxHeartbeats 2000000 in
theorem impl_Under (a b : ByteArray) (w : World) :
    Calls Try.prog 22 #[.string a, .string b] w fun e w' => e = .returned (.bool (underB (bs a) (bs b))) ∧ Below w.heap.size w w' := by
  have hA := impl_NameOk a
  have hB := impl_NameOk b
  cases ha : okB (bs a) with
  | false =>
    rw [ha] at hA
    rw [under_left ha]
    go_enter Try.func22, Try.ntmps22
    go_wp2_with (go_at_call 21; refine (hA _).mono ?_; rintro e w1 ⟨rfl, k1⟩)
    go_ret
    exact ⟨rfl, k1⟩
  | true =>
    rw [ha] at hA
    cases hb : okB (bs b) with
    | false =>
      rw [hb] at hB
      rw [under_right hb]
      go_enter Try.func22, Try.ntmps22
      go_wp2_with (first
        | (go_at_call 21; refine (hA _).mono ?_; clear hA; rintro e w1 ⟨rfl, k1⟩)
        | (go_at_call 21; refine (hB _).mono ?_; rintro e w2 ⟨rfl, k2⟩))
      go_ret
      exact ⟨rfl, k1.trans (k2.mono k1.size)⟩
    | true =>
      rw [hb] at hB
      rw [under_both ha hb]
      have sa := ok_short ha
      have sb := ok_short hb
      rw [bs_length] at sa sb
      by_cases h0 : b = ByteArray.empty
      · subst h0
        rw [under_true (a := bs a) (b := bs ByteArray.empty) (.inl rfl)]
        go_enter Try.func22, Try.ntmps22
        go_wp2_with (first
          | (go_at_call 21; refine (hA _).mono ?_; clear hA; rintro e w1 ⟨rfl, k1⟩)
          | (go_at_call 21; refine (hB _).mono ?_; rintro e w2 ⟨rfl, k2⟩))
        go_ret
        exact ⟨rfl, k1.trans (k2.mono k1.size)⟩
      · have e1 := not_empty h0
        have e2 := filled h0
        by_cases h1 : a = b
        · subst h1
          rw [under_true (.inr (.inl rfl))]
          go_enter Try.func22, Try.ntmps22
          go_wp2_with (first
            | (go_at_call 21; refine (hA _).mono ?_; clear hA; rintro e w1 ⟨rfl, k1⟩)
            | (go_at_call 21; refine (hB _).mono ?_; rintro e w2 ⟨rfl, k2⟩))
          go_ret
          exact ⟨rfl, k1.trans (k2.mono k1.size)⟩
        · have e3 := neq_of h1
          have hr : underL (bs a) (bs b) = decide (bs (dotS ++ b) <:+ bs a) := by
            rw [dot_bytes, bs_B]
            by_cases hx : (46 :: bs b) <:+ bs a
            · rw [decide_eq_true hx, under_true (.inr (.inr hx))]
            · rw [decide_eq_false hx, under_false (fun k => h0 (empty_of k)) (fun k => h1 (bs_inj k)) hx]
          have hz : (dotS ++ b).size ≤ 61 := by rw [dot_bytes, B_size, List.length_cons, bs_length]; omega
          have hS := fun w => lib_HasSuffix a (dotS ++ b) w (by omega) (by omega)
          rw [hr]
          generalize decide (bs (dotS ++ b) <:+ bs a) = res at hS ⊢
          clear hr hz
          go_enter Try.func22, Try.ntmps22
          go_wp2_with (first
            | (go_at_call 21; refine (hA _).mono ?_; clear hA; rintro e w1 ⟨rfl, k1⟩)
            | (go_at_call 21; refine (hB _).mono ?_; rintro e w2 ⟨rfl, k2⟩)
            | (go_at_call 28; refine (hS _).mono ?_; rintro e w3 ⟨rfl, rfl⟩))
          go_ret
          exact ⟨rfl, k1.trans (k2.mono k1.size)⟩
end Go.Proofs.Ytkclfnmhiojklaa.Nm
