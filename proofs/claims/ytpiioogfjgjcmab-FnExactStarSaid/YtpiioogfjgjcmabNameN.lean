/-
  Labels, Parent, Under and Star of the program.
-/
import Derived.Test.YtpiioogfjgjcmabNameU
import Derived.Maps.AppendAt
namespace Go.Proofs.Ytpiioogfjgjcmab.Nm
open Go.ChangeShapes Go.WideShapes Go.ChangeAt Go.RowKit Go.Shelf
attribute [local go_sem] Oper.semAt_some
set_option maxRecDepth 100000 in
set_option maxHeartbeats 2000000 in
theorem impl_Parent (s : ByteArray) (w : World) :
    Calls Try.prog 9 #[.string s] w fun e w' => e = .returned (.string (B (parentB (bs s)))) ∧ Below w.heap.size w w' := by
  have hK := impl_NameOk s
  cases hk : okB (bs s) with
  | false =>
    have e : parentB (bs s) = [] := by unfold parentB; rw [if_neg (by rw [hk]; simp)]
    rw [e]
    rw [hk] at hK
    go_enter Try.func9, Try.ntmps9
    go_wp2_with (go_at_call 8; refine (hK _).mono ?_; rintro e w1 ⟨rfl, k1⟩)
    go_ret
    exact ⟨rfl, k1⟩
  | true =>
    have hs := ok_short hk
    have e : parentB (bs s) = after (bs s) := by unfold parentB; rw [if_pos hk]
    rw [e]
    rw [hk] at hK
    rcases dot_cases (bs s) with hd | ⟨p, q, e', hp⟩
    · rw [after_whole hd]
      have hC := lib_Cut_none s
      go_enter Try.func9, Try.ntmps9
      go_wp2_with (first
        | (go_at_call 8; refine (hK _).mono ?_; rintro e w1 ⟨rfl, k1⟩)
        | (go_at_call 14; refine (hC _ hd).mono ?_; rintro e w2 ⟨rfl, rfl⟩))
      go_ret
      exact ⟨rfl, k1⟩
    · rw [e'] at hs
      have hC := fun w => lib_Cut_some p q w hp (by have : (60 : Nat) ≤ maxLen := by decide
                                                    omega)
      obtain rfl : s = B (p ++ 46 :: q) := bs_inj (by rw [e', bs_B])
      rw [bs_B, after_cut hp]
      clear e e' hs
      go_enter Try.func9, Try.ntmps9
      go_wp2_with (first
        | (go_at_call 8; refine (hK _).mono ?_; rintro e w1 ⟨rfl, k1⟩)
        | (go_at_call 14; refine (hC _).mono ?_; rintro e w2 ⟨rfl, rfl⟩))
      go_ret
      exact ⟨rfl, k1.drew⟩
set_option maxRecDepth 100000 in
set_option maxHeartbeats 2000000 in
theorem impl_Star (s : ByteArray) (w : World) :
    Calls Try.prog 5 #[.string s] w fun e w' => e = .returned (.string (B (starB (bs s)))) ∧ Below w.heap.size w w' := by
  have hK := impl_NameOk s
  have hP := impl_Parent s
  by_cases h0 : s = ByteArray.empty
  · subst h0
    go_enter Try.func5, Try.ntmps5
    go_wp2_with (fail)
    go_ret
    exact ⟨rfl, Below.refl _ _⟩
  · have h1 := not_empty h0
    have h2 := filled h0
    have hne : bs s ≠ [] := fun k => h0 (empty_of k)
    cases hk : okB (bs s) with
    | false =>
      have e : starB (bs s) = [] := by unfold starB; rw [if_neg (by rw [hk]; simp)]
      rw [e]
      rw [hk] at hK
      go_enter Try.func5, Try.ntmps5
      go_wp2_with (go_at_call 8; refine (hK _).mono ?_; rintro e w1 ⟨rfl, k1⟩)
      go_ret
      exact ⟨rfl, k1⟩
    | true =>
      rw [hk] at hK
      have e : starB (bs s) = [42, 46] ++ after (bs s) := by unfold starB; rw [if_pos ⟨hk, hne⟩]
      have e2 : parentB (bs s) = after (bs s) := by unfold parentB; rw [if_pos hk]
      have hs := ok_short hk
      have hl := after_length (bs s)
      have hz : (B (after (bs s))).size ≤ 60 := by rw [B_size]; omega
      rw [e, ← star_bytes]
      rw [e2] at hP
      generalize B (after (bs s)) = t at hP hz ⊢
      clear hl hs e e2
      go_enter Try.func5, Try.ntmps5
      go_wp2_with (first
        | (go_at_call 8; refine (hK _).mono ?_; rintro e w1 ⟨rfl, k1⟩)
        | (go_at_call 9; refine (hP _).mono ?_; rintro e w2 ⟨rfl, k2⟩))
      go_ret
      exact ⟨rfl, k1.trans (k2.mono k1.size)⟩
end Go.Proofs.Ytpiioogfjgjcmab.Nm
