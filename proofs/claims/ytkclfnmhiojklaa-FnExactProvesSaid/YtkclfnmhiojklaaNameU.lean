/-
  Labels, Parent, Under, Before and Star of the specification.
-/
import Derived.Test.YtkclfnmhiojklaaNameT
namespace Go.Proofs.Ytkclfnmhiojklaa.Nm
open Go.ChangeShapes Go.WideShapes Go.ChangeAt Go.RowKit
/-- What Labels answers. -/
def labsB (l : Bytes) : List ByteArray := if okB l = true then LB l else []
theorem after_piece {s : ByteArray} {i : Nat} (hi : i < s.size) (hd : s[i] = 46) (hn : ∀ j, (hj : j < s.size) → j < i → s[j] ≠ 46) : after (bs s) = (bs s).drop (i + 1) := by
  have hl : i < (bs s).length := by rw [bs_length]; exact hi
  obtain ⟨e, h⟩ := cut_at (l := bs s) hl hd (fun j hj hji => hn j (by rw [bs_length] at hj; exact hj) hji)
  have := after_cut h ((bs s).drop (i + 1))
  rw [← e] at this
  exact this
theorem byte_ne {b : UInt8} (h : b ≠ 46) : ((b.toNat : Int) == 46) = false := by
  refine beq_eq_false_iff_ne.2 (fun k => h (UInt8.toNat_inj.1 ?_))
  have : (b.toNat : Int) = ((46 : UInt8).toNat : Int) := k
  omega
theorem under_true {a b : Bytes} (h : b = [] ∨ a = b ∨ (46 :: b) <:+ a) : underL a b = true := by
  unfold underL
  rcases h with h | h | h
  · rw [decide_eq_true h]; rfl
  · rw [decide_eq_true h]; simp
  · rw [decide_eq_true h]; simp
theorem under_false {a b : Bytes} (h0 : b ≠ []) (h1 : a ≠ b) (h2 : ¬ (46 :: b) <:+ a) : underL a b = false := by
  unfold underL
  rw [decide_eq_false h0, decide_eq_false h1, decide_eq_false h2]
  rfl
/-- A dot and that text at the end of a text, by places. -/
theorem under_dot {a b : ByteArray} (h : b.size < a.size) : ((46 :: bs b) <:+ bs a) ↔ (a[a.size - b.size - 1]'(by omega)) = 46 ∧ a.extract (a.size - b.size) a.size = b := by
  have hl : (bs a).length = a.size := bs_length a
  have hlb : (bs b).length = b.size := bs_length b
  have hi : a.size - b.size - 1 < (bs a).length := by omega
  have hd : (bs a).drop (a.size - b.size - 1) = (bs a)[a.size - b.size - 1] :: (bs a).drop (a.size - b.size) := by
    rw [List.drop_eq_getElem_cons hi, show a.size - b.size - 1 + 1 = a.size - b.size by omega]
  constructor
  · intro k
    have := (List.suffix_iff_eq_drop.1 k)
    rw [List.length_cons, hl, hlb, show a.size - (b.size + 1) = a.size - b.size - 1 by omega, hd] at this
    refine ⟨(List.cons.inj this).1.symm, bs_inj ?_⟩
    rw [bs_tail]
    exact (List.cons.inj this).2.symm
  · rintro ⟨h1, h2⟩
    refine List.suffix_iff_eq_drop.2 ?_
    rw [List.length_cons, hl, hlb, show a.size - (b.size + 1) = a.size - b.size - 1 by omega, hd, ← bs_tail, h2]
    exact congrArg (· :: bs b) h1.symm
set_option maxRecDepth 100000 in
set_option maxHeartbeats 2000000 in
theorem spec_l5Under (a b : ByteArray) (w : World) (ha : a.size ≤ 60) (hb : b.size ≤ 60) :
    Calls Try.prog 11 #[.string a, .string b] w fun e w' => e = .returned (.bool (underL (bs a) (bs b))) ∧ w' = w := by
  by_cases h0 : b = ByteArray.empty
  · subst h0
    rw [under_true (a := bs a) (b := bs ByteArray.empty) (.inl rfl)]
    go_enter Try.func11, Try.ntmps11
    go_wp2_with (fail)
    go_ret
    exact ⟨rfl, rfl⟩
  · have e1 := not_empty h0
    have e2 := filled h0
    by_cases h1 : a = b
    · subst h1
      rw [under_true (.inr (.inl rfl))]
      go_enter Try.func11, Try.ntmps11
      go_wp2_with (fail)
      go_ret
      exact ⟨rfl, rfl⟩
    · have e3 := neq_of h1
      have n0 : bs b ≠ [] := fun k => h0 (empty_of k)
      have n1 : bs a ≠ bs b := fun k => h1 (bs_inj k)
      by_cases h2 : b.size < a.size
      · have g0 : (0 : Int) < (a.size : Int) - (b.size : Int) := by omega
        have g1 : (0 : Int) ≤ (a.size : Int) - (b.size : Int) - 1 := by omega
        have g2 : (a.size : Int) - (b.size : Int) - 1 < (a.size : Int) := by omega
        have g3 : (a.size : Int) - (b.size : Int) ≤ (a.size : Int) := by omega
        have g4 : ((a.size : Int) - (b.size : Int) - 1).toNat = a.size - b.size - 1 := by omega
        have g5 : ((a.size : Int) - (b.size : Int)).toNat = a.size - b.size := by omega
        by_cases hd : (a[a.size - b.size - 1]'(by omega)) = 46
        · have hd' : (((a[a.size - b.size - 1]'(by omega)).toNat : Int) == 46) = true := by rw [hd]; rfl
          have hd'' : (a[a.size - b.size - 1]'(by omega)).toNat = 46 := by rw [hd]; rfl
          have hr : underL (bs a) (bs b) = ((a.extract (a.size - b.size) a.size).toList == b.toList) := by
            rw [toList_beq]
            by_cases hx : a.extract (a.size - b.size) a.size = b
            · rw [decide_eq_true (by rw [hx]), under_true (.inr (.inr ((under_dot h2).2 ⟨hd, hx⟩)))]
            · rw [decide_eq_false (fun k => hx (bs_inj k)), under_false n0 n1 (fun k => hx ((under_dot h2).1 k).2)]
          rw [hr]
          clear hr
          go_enter Try.func11, Try.ntmps11
          go_wp2_with (fail)
          go_ret
          exact ⟨rfl, rfl⟩
        · have hd' := byte_ne hd
          rw [under_false n0 n1 (fun k => hd ((under_dot h2).1 k).1)]
          go_enter Try.func11, Try.ntmps11
          go_wp2_with (fail)
          go_ret
          exact ⟨rfl, rfl⟩
      · have g0 : decide ((0 : Int) < (a.size : Int) - (b.size : Int)) = false := by simp; omega
        have g0' : ¬ (0 : Int) < (a.size : Int) - (b.size : Int) := by omega
        rw [under_false n0 n1 (fun k => by have := k.length_le; rw [List.length_cons, bs_length, bs_length] at this; omega)]
        go_enter Try.func11, Try.ntmps11
        go_wp2_with (fail)
        go_ret
        exact ⟨rfl, rfl⟩
theorem under_left {a b : Bytes} (h : okB a = false) : underB a b = false := by unfold underB; rw [h, Bool.false_and, Bool.false_and]
theorem under_right {a b : Bytes} (h : okB b = false) : underB a b = false := by unfold underB; rw [h, Bool.and_false, Bool.false_and]
theorem under_both {a b : Bytes} (h : okB a = true) (k : okB b = true) : underB a b = underL a b := by unfold underB; rw [h, k]; rfl
theorem before_both {a b : Bytes} (h : okB a = true) (k : okB b = true) : beforeB a b = beforeL a b := by unfold beforeB; rw [h, k]; rfl
end Go.Proofs.Ytkclfnmhiojklaa.Nm
