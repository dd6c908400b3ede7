/-
  Labels, Parent, Under, Before and Star of the specification.
-/
import Derived.Test.YtdbldhcelbllgaaNameT
namespace Go.Proofs.Ytdbldhcelbllgaa.Nm
open Go.ChangeShapes Go.WideShapes Go.ChangeAt Go.RowKit
/-- What Labels answers. -/
def labsB (l : Bytes) : List ByteArray := if okB l = true then LB l else []
theorem after_piece {s : ByteArray} {i : Nat} (hi : i < s.size) (hd : s[i] = 46) (hn : ∀ j, (hj : j < s.size) → j < i → s[j] ≠ 46) : after (bs s) = (bs s).drop (i + 1) := by
  have hl : i < (bs s).length := by rw [bs_length]; exact hi
  obtain ⟨e, h⟩ := cut_at (l := bs s) hl hd (fun j hj hji => hn j (by rw [bs_length] at hj; exact hj) hji)
  have := after_cut h ((bs s).drop (i + 1))
  rw [← e] at this
  exact this
theorem byte_ne {b : UInt8} (h : b ≠ 46) : ((b.toNat : Int) == 46) = false := by
  refine beq_eq_false_iff_ne.2 (fun k => h (UInt8.toNat_inj.1 ?_))
  have : (b.toNat : Int) = ((46 : UInt8).toNat : Int) := k
  omega
set_option maxRecDepth 100000 in
set_option maxHeartbeats 2000000 in
theorem spec_Parent (s : ByteArray) (w : World) :
    Calls Try.prog 45 #[.string s] w fun e w' => e = .returned (.string (B (parentB (bs s)))) ∧ Below w.heap.size w w' := by
  have hK := spec_NameOk s
  cases hk : okB (bs s) with
  | false =>
    have e : parentB (bs s) = [] := by unfold parentB; rw [if_neg (by rw [hk]; simp)]
    rw [e]
    rw [hk] at hK
    go_enter Try.func45, Try.ntmps45
    go_wp2_with (go_at_call 37; refine (hK _).mono ?_; rintro e w1 ⟨rfl, k1⟩)
    go_ret
    exact ⟨rfl, k1⟩
  | true =>
    have hs := ok_short hk
    rw [bs_length] at hs
    have e : parentB (bs s) = after (bs s) := by unfold parentB; rw [if_pos hk]
    rw [e]
    have HP : Hid (∀ i, (hi : i < s.size) → s[i] = 46 → (∀ j, (hj : j < s.size) → j < i → s[j] ≠ 46) → B (after (bs s)) = s.extract (i + 1) s.size) := hidIt (fun i hi hd hn => by
      rw [after_piece hi hd hn, ← bs_tail, B_bs])
    have HW : Hid ((∀ j, (hj : j < s.size) → s[j] ≠ 46) → B (after (bs s)) = ByteArray.empty) := hidIt (fun hn => by
      rw [after_whole (whole_of (fun j hj => hn j (by rw [bs_length] at hj; exact hj)))]
      rfl)
    generalize B (after (bs s)) = res at HP HW ⊢
    rw [hk] at hK
    go_enter Try.func45, Try.ntmps45
    go_wp2_with (go_at_call 37; refine (hK _).mono ?_; rintro e w1 ⟨rfl, k1⟩)
    have HB := hidIt k1
    clear k1
    go_loopw [3] (fun y wx => ∃ i : Nat, y = .int .i64 i ∧ i ≤ s.size ∧ Hid (∀ j, (hj : j < s.size) → j < i → s[j] ≠ 46) ∧ wx = w1) (fun y _ => (s.size - intOf y).toNat)
    case atStart => exact ⟨0, rfl, by omega, hidIt (fun j _ hj => by omega), rfl⟩
    case round =>
      obtain ⟨i, rfl, hi, hG, rfl⟩ := hrel
      by_cases hin : i < s.size
      · have hin' : (i : Int) < (s.size : Int) := by omega
        by_cases hd : s[i] = 46
        · have hd' : (((s[i]).toNat : Int) == 46) = true := by rw [hd]; rfl
          have hd'' : (s[i]).toNat = 46 := by rw [hd]; rfl
          have c4 : (i : Int) + 1 ≤ (s.size : Int) := by omega
          go_wp2_with (fail)
          go_ret
          rw [HP.out i hin hd hG.out]
          exact ⟨rfl, HB.out⟩
        · have hd' := byte_ne hd
          go_wp2_with (fail)
          refine ⟨⟨i + 1, by simp, by omega, hidIt (fun j hj hj' => ?_), by trivial⟩, by simp [intOf]; omega⟩
          rcases Nat.lt_or_ge j i with h' | h'
          · exact hG.out j hj h'
          · have : j = i := by omega
            subst this
            exact hd
      · have hin' : ¬ (i : Int) < (s.size : Int) := by omega
        go_wp2_with (fail)
        go_ret
        rw [HW.out (fun j hj => hG.out j hj (by omega))]
        exact ⟨rfl, HB.out⟩
end Go.Proofs.Ytdbldhcelbllgaa.Nm
