/-
  Before of the specification.
-/
import Derived.Test.YtkclfnmhiojklaaNameU
namespace Go.Proofs.Ytkclfnmhiojklaa.Nm
open Go.ChangeShapes Go.WideShapes Go.ChangeAt Go.RowKit
theorem rev_at {l : Bytes} {i : Nat} (h1 : 1 ≤ i) (h2 : i ≤ (labels l).length) : ((labels l).reverse)[i - 1]? = some (bs (sat (LB l) ((labels l).length - i))) := by
  rw [List.getElem?_eq_getElem (by rw [List.length_reverse]; omega), LB_at (by omega), List.getElem_reverse]
  congr 2
  omega
theorem at_of {X : List Bytes} {k : Nat} {p : Bytes} (h : X[k]? = some p) : ∃ hk : k < X.length, X[k] = p := by
  obtain ⟨hk, e⟩ := List.getElem?_eq_some_iff.1 h
  exact ⟨hk, e⟩
theorem befL_self (x : List Bytes) : befL x x = false := by
  have := bef_end x []
  rw [List.append_nil] at this
  rw [this]
  rfl
/-- Alike up to a place, and what stands there. -/
theorem bef_at {X Y : List Bytes} {k : Nat} (hx : k < X.length) (hy : k < Y.length) (he : X.take k = Y.take k) (hn : X[k] ≠ Y[k]) : befL X Y = decide (X[k] < Y[k]) := by
  have e1 : X = X.take k ++ [X[k]] ++ X.drop (k + 1) := by
    rw [List.append_assoc, List.singleton_append, ← List.drop_eq_getElem_cons hx, List.take_append_drop]
  have e2 : Y = X.take k ++ Y[k] :: Y.drop (k + 1) := by
    rw [he, ← List.drop_eq_getElem_cons hy, List.take_append_drop]
  have := bef_part (p := X.take k) hn (X.drop (k + 1)) (Y.drop (k + 1))
  rw [← e1, ← e2] at this
  exact this
theorem bef_over {X Y : List Bytes} {k : Nat} (hk : k = X.length ∨ k = Y.length) (hx : k ≤ X.length) (hy : k ≤ Y.length) (he : X.take k = Y.take k) : befL X Y = decide (X.length < Y.length) := by
  rcases hk with rfl | rfl
  · rw [List.take_length] at he
    have e : Y = X ++ Y.drop X.length := by
      have := (List.take_append_drop X.length Y).symm
      rw [← he] at this
      exact this
    have := bef_end X (Y.drop X.length)
    rw [← e] at this
    rw [this]
    by_cases h : X.length < Y.length
    · rw [decide_eq_true h, List.isEmpty_eq_false_iff.2 (fun k => by have := congrArg List.length k; rw [List.length_drop] at this; simp at this; omega)]
      rfl
    · rw [decide_eq_false h, List.drop_eq_nil_of_le (by omega)]
      rfl
  · rw [decide_eq_false (by omega)]
    rw [List.take_length] at he
    have e : X = Y ++ X.drop Y.length := by
      have := (List.take_append_drop Y.length X).symm
      rw [he] at this
      exact this
    cases hd : X.drop Y.length with
    | nil =>
      rw [hd, List.append_nil] at e
      rw [e]
      exact befL_self _
    | cons x r =>
      rw [hd] at e
      rw [e, show Y ++ x :: r = Y ++ [x] ++ r by simp]
      exact bef_none _ _
set_option maxRecDepth 100000 in
set_option maxHeartbeats 4000000 in
theorem spec_l5Before (a b : ByteArray) (w : World) (ha : a.size ≤ 60) (hb : b.size ≤ 60) :
    Calls Try.prog 12 #[.string a, .string b] w fun e w' => e = .returned (.bool (beforeL (bs a) (bs b))) ∧ Below w.heap.size w w' := by
  have hA := fun w => spec_l5Labels a w (by omega)
  have hB := fun w => spec_l5Labels b w (by omega)
  have RA : Hid (∀ i, 1 ≤ i → i ≤ (labels (bs a)).length → ((labels (bs a)).reverse)[i - 1]? = some (bs (sat (LB (bs a)) ((labels (bs a)).length - i)))) := hidIt (fun i h1 h2 => rev_at h1 h2)
  have RB : Hid (∀ i, 1 ≤ i → i ≤ (labels (bs b)).length → ((labels (bs b)).reverse)[i - 1]? = some (bs (sat (LB (bs b)) ((labels (bs b)).length - i)))) := hidIt (fun i h1 h2 => rev_at h1 h2)
  have la : (labels (bs a)).length ≤ 61 := by have := labels_count (bs a); rw [bs_length] at this; omega
  have lb : (labels (bs b)).length ≤ 61 := by have := labels_count (bs b); rw [bs_length] at this; omega
  have LA := LB_length (bs a)
  have LBb := LB_length (bs b)
  have HE : Hid (beforeL (bs a) (bs b) = befL (labels (bs a)).reverse (labels (bs b)).reverse) := hidIt rfl
  generalize beforeL (bs a) (bs b) = res at HE ⊢
  generalize LB (bs a) = LX at hA RA LA
  generalize LB (bs b) = LY at hB RB LBb
  generalize labels (bs a) = x at RA la LA HE
  generalize labels (bs b) = y at RB lb LBb HE
  have HLX := hidIt LA
  have HLY := hidIt LBb
  clear LA LBb
  go_enter Try.func12, Try.ntmps12
  go_wp2_with (first
    | (go_at_call 19; refine (hA _).mono ?_; clear hA; rintro e w1 ⟨v1, rfl, o1, k1⟩)
    | (go_at_call 19; refine (hB _).mono ?_; clear hB; rintro e w2 ⟨v2, rfl, o2, k2⟩; obtain ⟨a1, cap1, rfl, hc1, hm1, hr1, _, _⟩ := o1.form; obtain ⟨a2, cap2, rfl, hc2, hm2, hr2, _, _⟩ := o2.form))
  have HR1 := hidIt (hr1.kept k2)
  have HR2 := hidIt hr2
  have HB2 := hidIt (k1.trans (k2.mono k1.size))
  clear hr1 hr2 k1 k2 o1 o2
  rw [HLX.out] at hc1 ⊢
  rw [HLY.out] at hc2 ⊢
  generalize hn : x.length = n at hc1 la ⊢
  generalize hm : y.length = m at hc2 lb ⊢
  have HN := hidIt hn
  have HM := hidIt hm
  clear hn hm
  go_loopw [7] (fun u wx => ∃ i : Nat, u = .int .i64 i ∧ 1 ≤ i ∧ i ≤ n + 1 ∧ i ≤ m + 1 ∧ Hid (x.reverse.take (i - 1) = y.reverse.take (i - 1)) ∧ wx = w2) (fun u _ => (n + 1 - intOf u).toNat)
  case atStart => exact ⟨1, rfl, by omega, by omega, by omega, hidIt rfl, rfl⟩
  case round =>
    obtain ⟨i, rfl, hi1, hin, him, hG, rfl⟩ := hrel
    by_cases h1 : i ≤ n
    · have g1 : (i : Int) ≤ (n : Int) := by omega
      by_cases h2 : i ≤ m
      · have g2 : (i : Int) ≤ (m : Int) := by omega
        obtain ⟨b1, off1, rfl, c1⟩ := HR1.out.cell (n - i) (by rw [HLX.out, HN.out]; omega)
        obtain ⟨b2, off2, rfl, c2⟩ := HR2.out.cell (m - i) (by rw [HLY.out, HM.out]; omega)
        have p1 := RA.out i hi1 (by rw [HN.out]; exact h1)
        have p2 := RB.out i hi1 (by rw [HM.out]; exact h2)
        rw [HN.out] at p1
        rw [HM.out] at p2
        generalize sat LX (n - i) = s1 at c1 p1
        generalize sat LY (m - i) = s2 at c2 p2
        have P1 := hidIt p1
        have P2 := hidIt p2
        clear p1 p2
        have e1 : (n : Int) - (i : Int) = ((n - i : Nat) : Int) := by omega
        have e2 : (m : Int) - (i : Int) = ((m - i : Nat) : Int) := by omega
        have l1 : ((n - i : Nat) : Int) < (n : Int) := by omega
        have l2 : ((m - i : Nat) : Int) < (m : Int) := by omega
        by_cases hne : s1 = s2
        · subst hne
          go_wp2_with (fail)
          refine ⟨⟨i + 1, by simp, by omega, by omega, by omega, hidIt ?_, by trivial⟩, by simp [intOf]; omega⟩
          obtain ⟨hx, ex⟩ := at_of P1.out
          obtain ⟨hy, ey⟩ := at_of P2.out
          have := hG.out
          rw [show i + 1 - 1 = i - 1 + 1 by omega, List.take_succ_eq_append_getElem hx, List.take_succ_eq_append_getElem hy, this, ex, ey]
        · have g3 := neq_of hne
          go_wp2_with (fail)
          go_ret
          refine ⟨?_, HB2.out⟩
          obtain ⟨hx, ex⟩ := at_of P1.out
          obtain ⟨hy, ey⟩ := at_of P2.out
          rw [HE.out, bef_at hx hy hG.out (by rw [ex, ey]; exact fun k => hne (bs_inj k)), ex, ey, ← less_of]
          rfl
      · have g2 : decide ((i : Int) ≤ (m : Int)) = false := by simp; omega
        have g2' : ¬ (i : Int) ≤ (m : Int) := by omega
        go_wp2_with (fail)
        go_ret
        refine ⟨?_, HB2.out⟩
        rw [HE.out, bef_over (k := i - 1) (.inr (by rw [List.length_reverse, HM.out]; omega)) (by rw [List.length_reverse, HN.out]; omega) (by rw [List.length_reverse, HM.out]; omega) hG.out, List.length_reverse, List.length_reverse, HN.out, HM.out]
        rfl
    · have g1 : decide ((i : Int) ≤ (n : Int)) = false := by simp; omega
      have g1' : ¬ (i : Int) ≤ (n : Int) := by omega
      go_wp2_with (fail)
      go_ret
      refine ⟨?_, HB2.out⟩
      rw [HE.out, bef_over (k := i - 1) (.inl (by rw [List.length_reverse, HN.out]; omega)) (by rw [List.length_reverse, HN.out]; omega) (by rw [List.length_reverse, HM.out]; omega) hG.out, List.length_reverse, List.length_reverse, HN.out, HM.out]
      rfl
end Go.Proofs.Ytkclfnmhiojklaa.Nm
