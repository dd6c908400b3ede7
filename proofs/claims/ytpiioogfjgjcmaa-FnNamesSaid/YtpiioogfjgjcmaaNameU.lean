/-
  Labels, Parent, Under, Before and Star of the specification.
-/
import Derived.Test.YtpiioogfjgjcmaaNameT
namespace Go.Proofs.Ytpiioogfjgjcmaa.Nm
open Go.ChangeShapes Go.WideShapes Go.ChangeAt Go.RowKit
/-- What Labels answers. -/
def labsB (l : Bytes) : List ByteArray := if okB l = true then LB l else []
set_option maxRecDepth 100000 in
set_option maxHeartbeats 2000000 in
theorem spec_Labels (s : ByteArray) (w : World) :
    Calls Try.prog 19 #[.string s] w fun e w' => ∃ v, e = .returned v ∧ Own w' w.heap.size v (labsB (bs s)) ∧ Below w.heap.size w w' := by
  have hK := spec_NameOk s
  cases hk : okB (bs s) with
  | false =>
    have e : labsB (bs s) = [] := by unfold labsB; rw [if_neg (by rw [hk]; simp)]
    rw [e]
    rw [hk] at hK
    go_enter Try.func19, Try.ntmps19
    go_wp2_with (go_at_call 25; refine (hK _).mono ?_; rintro e w1 ⟨rfl, k1⟩)
    go_ret
    exact ⟨_, rfl, (Own.new w1).mono k1.size, k1.alloc k1.size _⟩
  | true =>
    have e : labsB (bs s) = LB (bs s) := by unfold labsB; rw [if_pos hk]
    have hs := ok_short hk
    rw [bs_length] at hs
    have hL := fun w => spec_l5Labels s w (by omega)
    rw [e]
    rw [hk] at hK
    go_enter Try.func19, Try.ntmps19
    go_wp2_with (first
      | (go_at_call 25; refine (hK _).mono ?_; rintro e w1 ⟨rfl, k1⟩)
      | (go_at_call 40; refine (hL _).mono ?_; rintro e w2 ⟨v, rfl, ho, k2⟩))
    go_ret
    exact ⟨_, rfl, ho.mono k1.size, k1.trans (k2.mono k1.size)⟩
theorem after_piece {s : ByteArray} {i : Nat} (hi : i < s.size) (hd : s[i] = 46) (hn : ∀ j, (hj : j < s.size) → j < i → s[j] ≠ 46) : after (bs s) = (bs s).drop (i + 1) := by
  have hl : i < (bs s).length := by rw [bs_length]; exact hi
  obtain ⟨e, h⟩ := cut_at (l := bs s) hl hd (fun j hj hji => hn j (by rw [bs_length] at hj; exact hj) hji)
  have := after_cut h ((bs s).drop (i + 1))
  rw [← e] at this
  exact this
theorem byte_ne {b : UInt8} (h : b ≠ 46) : ((b.toNat : Int) == 46) = false := by
  refine beq_eq_false_iff_ne.2 (fun k => h (UInt8.toNat_inj.1 ?_))
  have : (b.toNat : Int) = ((46 : UInt8).toNat : Int) := k
  omega
set_option maxRecDepth 100000 in
set_option maxHeartbeats 2000000 in
theorem spec_Parent (s : ByteArray) (w : World) :
    Calls Try.prog 21 #[.string s] w fun e w' => e = .returned (.string (B (parentB (bs s)))) ∧ Below w.heap.size w w' := by
  have hK := spec_NameOk s
  cases hk : okB (bs s) with
  | false =>
    have e : parentB (bs s) = [] := by unfold parentB; rw [if_neg (by rw [hk]; simp)]
    rw [e]
    rw [hk] at hK
    go_enter Try.func21, Try.ntmps21
    go_wp2_with (go_at_call 25; refine (hK _).mono ?_; rintro e w1 ⟨rfl, k1⟩)
    go_ret
    exact ⟨rfl, k1⟩
  | true =>
    have hs := ok_short hk
    rw [bs_length] at hs
    have e : parentB (bs s) = after (bs s) := by unfold parentB; rw [if_pos hk]
    rw [e]
    have HP : Hid (∀ i, (hi : i < s.size) → s[i] = 46 → (∀ j, (hj : j < s.size) → j < i → s[j] ≠ 46) → B (after (bs s)) = s.extract (i + 1) s.size) := hidIt (fun i hi hd hn => by
      rw [after_piece hi hd hn, ← bs_tail, B_bs])
    have HW : Hid ((∀ j, (hj : j < s.size) → s[j] ≠ 46) → B (after (bs s)) = ByteArray.empty) := hidIt (fun hn => by
      rw [after_whole (whole_of (fun j hj => hn j (by rw [bs_length] at hj; exact hj)))]
      rfl)
    generalize B (after (bs s)) = res at HP HW ⊢
    rw [hk] at hK
    go_enter Try.func21, Try.ntmps21
    go_wp2_with (go_at_call 25; refine (hK _).mono ?_; rintro e w1 ⟨rfl, k1⟩)
    have HB := hidIt k1
    clear k1
    go_loopw [3] (fun y wx => ∃ i : Nat, y = .int .i64 i ∧ i ≤ s.size ∧ Hid (∀ j, (hj : j < s.size) → j < i → s[j] ≠ 46) ∧ wx = w1) (fun y _ => (s.size - intOf y).toNat)
    case atStart => exact ⟨0, rfl, by omega, hidIt (fun j _ hj => by omega), rfl⟩
    case round =>
      obtain ⟨i, rfl, hi, hG, rfl⟩ := hrel
      by_cases hin : i < s.size
      · have hin' : (i : Int) < (s.size : Int) := by omega
        by_cases hd : s[i] = 46
        · have hd' : (((s[i]).toNat : Int) == 46) = true := by rw [hd]; rfl
          have hd'' : (s[i]).toNat = 46 := by rw [hd]; rfl
          have c4 : (i : Int) + 1 ≤ (s.size : Int) := by omega
          go_wp2_with (fail)
          go_ret
          rw [HP.out i hin hd hG.out]
          exact ⟨rfl, HB.out⟩
        · have hd' := byte_ne hd
          go_wp2_with (fail)
          refine ⟨⟨i + 1, by simp, by omega, hidIt (fun j hj hj' => ?_), by trivial⟩, by simp [intOf]; omega⟩
          rcases Nat.lt_or_ge j i with h' | h'
          · exact hG.out j hj h'
          · have : j = i := by omega
            subst this
            exact hd
      · have hin' : ¬ (i : Int) < (s.size : Int) := by omega
        go_wp2_with (fail)
        go_ret
        rw [HW.out (fun j hj => hG.out j hj (by omega))]
        exact ⟨rfl, HB.out⟩
theorem star_bytes (l : Bytes) : (⟨#[42, 46]⟩ : ByteArray) ++ B l = B ([42, 46] ++ l) := bs_inj (by simp)
set_option maxRecDepth 100000 in
set_option maxHeartbeats 2000000 in
theorem spec_Star (s : ByteArray) (w : World) :
    Calls Try.prog 23 #[.string s] w fun e w' => e = .returned (.string (B (starB (bs s)))) ∧ Below w.heap.size w w' := by
  have hK := spec_NameOk s
  have hP := spec_Parent s
  cases hk : okB (bs s) with
  | false =>
    have e : starB (bs s) = [] := by unfold starB; rw [if_neg (by rw [hk]; simp)]
    rw [e]
    rw [hk] at hK
    go_enter Try.func23, Try.ntmps23
    go_wp2_with (go_at_call 25; refine (hK _).mono ?_; rintro e w1 ⟨rfl, k1⟩)
    go_ret
    exact ⟨rfl, k1⟩
  | true =>
    rw [hk] at hK
    by_cases h0 : s = ByteArray.empty
    · subst h0
      go_enter Try.func23, Try.ntmps23
      go_wp2_with (go_at_call 25; refine (hK _).mono ?_; rintro e w1 ⟨rfl, k1⟩)
      go_ret
      exact ⟨rfl, k1⟩
    · have h1 := not_empty h0
      have h2 := filled h0
      have hne : bs s ≠ [] := fun k => h0 (empty_of k)
      have e : starB (bs s) = [42, 46] ++ after (bs s) := by unfold starB; rw [if_pos ⟨hk, hne⟩]
      have e2 : parentB (bs s) = after (bs s) := by unfold parentB; rw [if_pos hk]
      have hs := ok_short hk
      have hl := after_length (bs s)
      have hz : (B (after (bs s))).size ≤ 60 := by rw [B_size]; omega
      rw [e, ← star_bytes]
      rw [e2] at hP
      generalize B (after (bs s)) = t at hP hz ⊢
      clear hl hs e e2
      go_enter Try.func23, Try.ntmps23
      go_wp2_with (first
        | (go_at_call 25; refine (hK _).mono ?_; rintro e w1 ⟨rfl, k1⟩)
        | (go_at_call 21; refine (hP _).mono ?_; rintro e w2 ⟨rfl, k2⟩))
      go_ret
      exact ⟨rfl, k1.trans (k2.mono k1.size)⟩
theorem under_true {a b : Bytes} (h : b = [] ∨ a = b ∨ (46 :: b) <:+ a) : underL a b = true := by
  unfold underL
  rcases h with h | h | h
  · rw [decide_eq_true h]; rfl
  · rw [decide_eq_true h]; simp
  · rw [decide_eq_true h]; simp
theorem under_false {a b : Bytes} (h0 : b ≠ []) (h1 : a ≠ b) (h2 : ¬ (46 :: b) <:+ a) : underL a b = false := by
  unfold underL
  rw [decide_eq_false h0, decide_eq_false h1, decide_eq_false h2]
  rfl
/-- A dot and that text at the end of a text, by places. -/
theorem under_dot {a b : ByteArray} (h : b.size < a.size) : ((46 :: bs b) <:+ bs a) ↔ (a[a.size - b.size - 1]'(by omega)) = 46 ∧ a.extract (a.size - b.size) a.size = b := by
  have hl : (bs a).length = a.size := bs_length a
  have hlb : (bs b).length = b.size := bs_length b
  have hi : a.size - b.size - 1 < (bs a).length := by omega
  have hd : (bs a).drop (a.size - b.size - 1) = (bs a)[a.size - b.size - 1] :: (bs a).drop (a.size - b.size) := by
    rw [List.drop_eq_getElem_cons hi, show a.size - b.size - 1 + 1 = a.size - b.size by omega]
  constructor
  · intro k
    have := (List.suffix_iff_eq_drop.1 k)
    rw [List.length_cons, hl, hlb, show a.size - (b.size + 1) = a.size - b.size - 1 by omega, hd] at this
    refine ⟨(List.cons.inj this).1.symm, bs_inj ?_⟩
    rw [bs_tail]
    exact (List.cons.inj this).2.symm
  · rintro ⟨h1, h2⟩
    refine List.suffix_iff_eq_drop.2 ?_
    rw [List.length_cons, hl, hlb, show a.size - (b.size + 1) = a.size - b.size - 1 by omega, hd, ← bs_tail, h2]
    exact congrArg (· :: bs b) h1.symm
set_option maxRecDepth 100000 in
set_option maxHeartbeats 2000000 in
theorem spec_l5Under (a b : ByteArray) (w : World) (ha : a.size ≤ 60) (hb : b.size ≤ 60) :
    Calls Try.prog 39 #[.string a, .string b] w fun e w' => e = .returned (.bool (underL (bs a) (bs b))) ∧ w' = w := by
  by_cases h0 : b = ByteArray.empty
  · subst h0
    rw [under_true (a := bs a) (b := bs ByteArray.empty) (.inl rfl)]
    go_enter Try.func39, Try.ntmps39
    go_wp2_with (fail)
    go_ret
    exact ⟨rfl, rfl⟩
  · have e1 := not_empty h0
    have e2 := filled h0
    by_cases h1 : a = b
    · subst h1
      rw [under_true (.inr (.inl rfl))]
      go_enter Try.func39, Try.ntmps39
      go_wp2_with (fail)
      go_ret
      exact ⟨rfl, rfl⟩
    · have e3 := neq_of h1
      have n0 : bs b ≠ [] := fun k => h0 (empty_of k)
      have n1 : bs a ≠ bs b := fun k => h1 (bs_inj k)
      by_cases h2 : b.size < a.size
      · have g0 : (0 : Int) < (a.size : Int) - (b.size : Int) := by omega
        have g1 : (0 : Int) ≤ (a.size : Int) - (b.size : Int) - 1 := by omega
        have g2 : (a.size : Int) - (b.size : Int) - 1 < (a.size : Int) := by omega
        have g3 : (a.size : Int) - (b.size : Int) ≤ (a.size : Int) := by omega
        have g4 : ((a.size : Int) - (b.size : Int) - 1).toNat = a.size - b.size - 1 := by omega
        have g5 : ((a.size : Int) - (b.size : Int)).toNat = a.size - b.size := by omega
        by_cases hd : (a[a.size - b.size - 1]'(by omega)) = 46
        · have hd' : (((a[a.size - b.size - 1]'(by omega)).toNat : Int) == 46) = true := by rw [hd]; rfl
          have hd'' : (a[a.size - b.size - 1]'(by omega)).toNat = 46 := by rw [hd]; rfl
          have hr : underL (bs a) (bs b) = ((a.extract (a.size - b.size) a.size).toList == b.toList) := by
            rw [toList_beq]
            by_cases hx : a.extract (a.size - b.size) a.size = b
            · rw [decide_eq_true (by rw [hx]), under_true (.inr (.inr ((under_dot h2).2 ⟨hd, hx⟩)))]
            · rw [decide_eq_false (fun k => hx (bs_inj k)), under_false n0 n1 (fun k => hx ((under_dot h2).1 k).2)]
          rw [hr]
          clear hr
          go_enter Try.func39, Try.ntmps39
          go_wp2_with (fail)
          go_ret
          exact ⟨rfl, rfl⟩
        · have hd' := byte_ne hd
          rw [under_false n0 n1 (fun k => hd ((under_dot h2).1 k).1)]
          go_enter Try.func39, Try.ntmps39
          go_wp2_with (fail)
          go_ret
          exact ⟨rfl, rfl⟩
      · have g0 : decide ((0 : Int) < (a.size : Int) - (b.size : Int)) = false := by simp; omega
        have g0' : ¬ (0 : Int) < (a.size : Int) - (b.size : Int) := by omega
        rw [under_false n0 n1 (fun k => by have := k.length_le; rw [List.length_cons, bs_length, bs_length] at this; omega)]
        go_enter Try.func39, Try.ntmps39
        go_wp2_with (fail)
        go_ret
        exact ⟨rfl, rfl⟩
theorem under_left {a b : Bytes} (h : okB a = false) : underB a b = false := by unfold underB; rw [h, Bool.false_and, Bool.false_and]
theorem under_right {a b : Bytes} (h : okB b = false) : underB a b = false := by unfold underB; rw [h, Bool.and_false, Bool.false_and]
theorem under_both {a b : Bytes} (h : okB a = true) (k : okB b = true) : underB a b = underL a b := by unfold underB; rw [h, k]; rfl
theorem before_both {a b : Bytes} (h : okB a = true) (k : okB b = true) : beforeB a b = beforeL a b := by unfold beforeB; rw [h, k]; rfl
set_option maxRecDepth 100000 in
set_option maxHeartbeats 2000000 in
theorem spec_Under (a b : ByteArray) (w : World) :
    Calls Try.prog 17 #[.string a, .string b] w fun e w' => e = .returned (.bool (underB (bs a) (bs b))) ∧ Below w.heap.size w w' := by
  have hA := spec_NameOk a
  have hB := spec_NameOk b
  cases ha : okB (bs a) with
  | false =>
    rw [ha] at hA
    rw [under_left ha]
    go_enter Try.func17, Try.ntmps17
    go_wp2_with (go_at_call 25; refine (hA _).mono ?_; rintro e w1 ⟨rfl, k1⟩)
    go_ret
    exact ⟨rfl, k1⟩
  | true =>
    rw [ha] at hA
    cases hb : okB (bs b) with
    | false =>
      rw [hb] at hB
      rw [under_right hb]
      go_enter Try.func17, Try.ntmps17
      go_wp2_with (first
        | (go_at_call 25; refine (hA _).mono ?_; clear hA; rintro e w1 ⟨rfl, k1⟩)
        | (go_at_call 25; refine (hB _).mono ?_; rintro e w2 ⟨rfl, k2⟩))
      go_ret
      exact ⟨rfl, k1.trans (k2.mono k1.size)⟩
    | true =>
      rw [hb] at hB
      rw [under_both ha hb]
      have sa := ok_short ha
      have sb := ok_short hb
      rw [bs_length] at sa sb
      have hU := spec_l5Under a b
      go_enter Try.func17, Try.ntmps17
      go_wp2_with (first
        | (go_at_call 25; refine (hA _).mono ?_; clear hA; rintro e w1 ⟨rfl, k1⟩)
        | (go_at_call 25; refine (hB _).mono ?_; rintro e w2 ⟨rfl, k2⟩)
        | (go_at_call 39; refine (hU _ sa sb).mono ?_; rintro e w3 ⟨rfl, rfl⟩))
      go_ret
      exact ⟨rfl, k1.trans (k2.mono k1.size)⟩
end Go.Proofs.Ytpiioogfjgjcmaa.Nm
