/-
  Labels, Parent, Under and Star of the program.
-/
import Derived.Test.YtpiioogfjgjcmaaNameU
import Derived.Maps.AppendAt
namespace Go.Proofs.Ytpiioogfjgjcmaa.Nm
open Go.ChangeShapes Go.WideShapes Go.ChangeAt Go.RowKit Go.Shelf
attribute [local go_sem] Oper.semAt_some
set_option maxRecDepth 100000 in
set_option maxHeartbeats 2000000 in
theorem impl_Parent (s : ByteArray) (w : World) :
    Calls Try.prog 20 #[.string s] w fun e w' => e = .returned (.string (B (parentB (bs s)))) ∧ Below w.heap.size w w' := by
  have hK := impl_NameOk s
  cases hk : okB (bs s) with
  | false =>
    have e : parentB (bs s) = [] := by unfold parentB; rw [if_neg (by rw [hk]; simp)]
    rw [e]
    rw [hk] at hK
    go_enter Try.func20, Try.ntmps20
    go_wp2_with (go_at_call 24; refine (hK _).mono ?_; rintro e w1 ⟨rfl, k1⟩)
    go_ret
    exact ⟨rfl, k1⟩
  | true =>
    have hs := ok_short hk
    have e : parentB (bs s) = after (bs s) := by unfold parentB; rw [if_pos hk]
    rw [e]
    rw [hk] at hK
    rcases dot_cases (bs s) with hd | ⟨p, q, e', hp⟩
    · rw [after_whole hd]
      have hC := lib_Cut_none s
      go_enter Try.func20, Try.ntmps20
      go_wp2_with (first
        | (go_at_call 24; refine (hK _).mono ?_; rintro e w1 ⟨rfl, k1⟩)
        | (go_at_call 41; refine (hC _ hd).mono ?_; rintro e w2 ⟨rfl, rfl⟩))
      go_ret
      exact ⟨rfl, k1⟩
    · rw [e'] at hs
      have hC := fun w => lib_Cut_some p q w hp (by have : (60 : Nat) ≤ maxLen := by decide
                                                    omega)
      obtain rfl : s = B (p ++ 46 :: q) := bs_inj (by rw [e', bs_B])
      rw [bs_B, after_cut hp]
      clear e e' hs
      go_enter Try.func20, Try.ntmps20
      go_wp2_with (first
        | (go_at_call 24; refine (hK _).mono ?_; rintro e w1 ⟨rfl, k1⟩)
        | (go_at_call 41; refine (hC _).mono ?_; rintro e w2 ⟨rfl, rfl⟩))
      go_ret
      exact ⟨rfl, k1.drew⟩
set_option maxRecDepth 100000 in
set_option maxHeartbeats 2000000 in
theorem impl_Star (s : ByteArray) (w : World) :
    Calls Try.prog 22 #[.string s] w fun e w' => e = .returned (.string (B (starB (bs s)))) ∧ Below w.heap.size w w' := by
  have hK := impl_NameOk s
  have hP := impl_Parent s
  by_cases h0 : s = ByteArray.empty
  · subst h0
    go_enter Try.func22, Try.ntmps22
    go_wp2_with (fail)
    go_ret
    exact ⟨rfl, Below.refl _ _⟩
  · have h1 := not_empty h0
    have h2 := filled h0
    have hne : bs s ≠ [] := fun k => h0 (empty_of k)
    cases hk : okB (bs s) with
    | false =>
      have e : starB (bs s) = [] := by unfold starB; rw [if_neg (by rw [hk]; simp)]
      rw [e]
      rw [hk] at hK
      go_enter Try.func22, Try.ntmps22
      go_wp2_with (go_at_call 24; refine (hK _).mono ?_; rintro e w1 ⟨rfl, k1⟩)
      go_ret
      exact ⟨rfl, k1⟩
    | true =>
      rw [hk] at hK
      have e : starB (bs s) = [42, 46] ++ after (bs s) := by unfold starB; rw [if_pos ⟨hk, hne⟩]
      have e2 : parentB (bs s) = after (bs s) := by unfold parentB; rw [if_pos hk]
      have hs := ok_short hk
      have hl := after_length (bs s)
      have hz : (B (after (bs s))).size ≤ 60 := by rw [B_size]; omega
      rw [e, ← star_bytes]
      rw [e2] at hP
      generalize B (after (bs s)) = t at hP hz ⊢
      clear hl hs e e2
      go_enter Try.func22, Try.ntmps22
      go_wp2_with (first
        | (go_at_call 24; refine (hK _).mono ?_; rintro e w1 ⟨rfl, k1⟩)
        | (go_at_call 20; refine (hP _).mono ?_; rintro e w2 ⟨rfl, k2⟩))
      go_ret
      exact ⟨rfl, k1.trans (k2.mono k1.size)⟩
theorem dot_bytes (s : ByteArray) : dotS ++ s = B (46 :: bs s) := bs_inj (by simp)
set_option maxRecDepth 100000 in
set_option maxHeartbeats 2000000 in
theorem impl_Under (a b : ByteArray) (w : World) :
    Calls Try.prog 13 #[.string a, .string b] w fun e w' => e = .returned (.bool (underB (bs a) (bs b))) ∧ Below w.heap.size w w' := by
  have hA := impl_NameOk a
  have hB := impl_NameOk b
  cases ha : okB (bs a) with
  | false =>
    rw [ha] at hA
    rw [under_left ha]
    go_enter Try.func13, Try.ntmps13
    go_wp2_with (go_at_call 24; refine (hA _).mono ?_; rintro e w1 ⟨rfl, k1⟩)
    go_ret
    exact ⟨rfl, k1⟩
  | true =>
    rw [ha] at hA
    cases hb : okB (bs b) with
    | false =>
      rw [hb] at hB
      rw [under_right hb]
      go_enter Try.func13, Try.ntmps13
      go_wp2_with (first
        | (go_at_call 24; refine (hA _).mono ?_; clear hA; rintro e w1 ⟨rfl, k1⟩)
        | (go_at_call 24; refine (hB _).mono ?_; rintro e w2 ⟨rfl, k2⟩))
      go_ret
      exact ⟨rfl, k1.trans (k2.mono k1.size)⟩
    | true =>
      rw [hb] at hB
      rw [under_both ha hb]
      have sa := ok_short ha
      have sb := ok_short hb
      rw [bs_length] at sa sb
      by_cases h0 : b = ByteArray.empty
      · subst h0
        rw [under_true (a := bs a) (b := bs ByteArray.empty) (.inl rfl)]
        go_enter Try.func13, Try.ntmps13
        go_wp2_with (first
          | (go_at_call 24; refine (hA _).mono ?_; clear hA; rintro e w1 ⟨rfl, k1⟩)
          | (go_at_call 24; refine (hB _).mono ?_; rintro e w2 ⟨rfl, k2⟩))
        go_ret
        exact ⟨rfl, k1.trans (k2.mono k1.size)⟩
      · have e1 := not_empty h0
        have e2 := filled h0
        by_cases h1 : a = b
        · subst h1
          rw [under_true (.inr (.inl rfl))]
          go_enter Try.func13, Try.ntmps13
          go_wp2_with (first
            | (go_at_call 24; refine (hA _).mono ?_; clear hA; rintro e w1 ⟨rfl, k1⟩)
            | (go_at_call 24; refine (hB _).mono ?_; rintro e w2 ⟨rfl, k2⟩))
          go_ret
          exact ⟨rfl, k1.trans (k2.mono k1.size)⟩
        · have e3 := neq_of h1
          have hr : underL (bs a) (bs b) = decide (bs (dotS ++ b) <:+ bs a) := by
            rw [dot_bytes, bs_B]
            by_cases hx : (46 :: bs b) <:+ bs a
            · rw [decide_eq_true hx, under_true (.inr (.inr hx))]
            · rw [decide_eq_false hx, under_false (fun k => h0 (empty_of k)) (fun k => h1 (bs_inj k)) hx]
          have hz : (dotS ++ b).size ≤ 61 := by rw [dot_bytes, B_size, List.length_cons, bs_length]; omega
          have hS := fun w => lib_HasSuffix a (dotS ++ b) w (by omega) (by omega)
          rw [hr]
          generalize decide (bs (dotS ++ b) <:+ bs a) = res at hS ⊢
          clear hr hz
          go_enter Try.func13, Try.ntmps13
          go_wp2_with (first
            | (go_at_call 24; refine (hA _).mono ?_; clear hA; rintro e w1 ⟨rfl, k1⟩)
            | (go_at_call 24; refine (hB _).mono ?_; rintro e w2 ⟨rfl, k2⟩)
            | (go_at_call 35; refine (hS _).mono ?_; rintro e w3 ⟨rfl, rfl⟩))
          go_ret
          exact ⟨rfl, k1.trans (k2.mono k1.size)⟩
end Go.Proofs.Ytpiioogfjgjcmaa.Nm
